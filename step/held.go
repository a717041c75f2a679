package step

import (
	"cmp"
	"maps"
	"slices"

	"secateur/api"
	"secateur/find"
	"secateur/store"
)

// create makes an object, or an array, as an instruction tells, and answers its number; 0, if there is none to be made.
func (m *Machine) create(f *frame, i api.Instr) int64 {
	var n int64
	switch i.Op {
	case api.New:
		n = sure(m.objects.Make(m.p, i.Class))
	case api.NewInts:
		n = sure(m.objects.Array(api.Type{Kind: api.Ints}, f.number(i.B)))
	case api.NewRefs:
		m.there(i.Class)
		n = sure(m.objects.Array(api.Type{Kind: api.Refs, Class: i.Class}, f.number(i.B)))
	case api.Make:
		class, is := m.class(m.text(f, i))
		if !is {
			return 0
		}
		n = sure(m.objects.Make(m.p, class))
	}
	m.note(api.Site{Method: f.method, PC: f.at, Class: m.objects.Class(n)}, n)
	return n
}

// note notes from where an object comes.
func (m *Machine) note(from api.Site, n int64) {
	site := m.made.add(from)
	m.births = append(m.births, site)
	if site == len(m.parts) {
		m.parts = append(m.parts, slices.DeleteFunc(m.objects.Fields(n), func(ref api.FieldRef) bool {
			v, _ := m.objects.Get(n, ref)
			return v.Kind != api.Pointer
		}))
	}
}

// statics is the values of the static fields, and these in order.
type statics struct {
	fields []api.FieldRef
	values map[api.FieldRef]api.Value
}

// staticsOf is the static fields of a program, as they are at first.
func staticsOf(p api.Program) statics {
	values := map[api.FieldRef]api.Value{}
	for _, c := range p.Classes {
		for _, f := range c.Fields {
			ref := api.FieldRef{Class: c.Name, Name: f.Name}
			if declared, is := find.FieldOf(p, ref); is && declared.Static {
				values[ref] = store.Zero(declared.Type)
			}
		}
	}
	return statics{fields: slices.SortedFunc(maps.Keys(values), byClass), values: values}
}

func byClass(a, b api.FieldRef) int {
	return cmp.Or(cmp.Compare(a.Class, b.Class), cmp.Compare(a.Name, b.Name))
}

// spot is a place by numbers, and the site of what is there: it is told from others sooner than by their names.
type spot struct {
	kind api.PlaceKind
	of   int // which one of entered, or of made
	at   int // which register, or which field
	site int
}

// Held is what references are where, and from where they come.
func (m *Machine) Held() []api.Held {
	if m == nil {
		return nil
	}
	var spots row[spot]
	var last spot
	hold := func(s spot, v api.Value) {
		if v.Kind != api.Pointer || v.N == 0 {
			return
		}
		s.site = m.births[v.N-1]
		// An array's elements mostly come from one site.
		if s != last {
			spots.add(s)
			last = s
		}
	}
	m.inFrames(hold)
	m.inStatics(hold)
	m.inObjects(hold)
	var l []api.Held
	for _, s := range spots.members {
		l = append(l, api.Held{Place: m.place(s), Site: m.made.members[s.site]})
	}
	return l
}

// inFrames tells all registers, and what they have; inStatics the static fields, inObjects the objects' fields and the arrays' elements.
func (m *Machine) inFrames(tell func(spot, api.Value)) {
	for _, f := range m.frames {
		of := m.entered.number(f.method)
		for _, r := range slices.Sorted(maps.Keys(f.values)) {
			tell(spot{kind: api.InReg, of: of, at: r}, f.values[r])
		}
	}
}

func (m *Machine) inStatics(tell func(spot, api.Value)) {
	for at, ref := range m.statics.fields {
		tell(spot{kind: api.InStatic, at: at}, m.statics.values[ref])
	}
}

func (m *Machine) inObjects(tell func(spot, api.Value)) {
	for i, site := range m.births {
		n := int64(i + 1)
		for at, ref := range m.parts[site] {
			v, _ := m.objects.Get(n, ref)
			tell(spot{kind: api.InField, of: site, at: at}, v)
		}
		for _, v := range m.objects.Items(n) {
			tell(spot{kind: api.InElement, of: site}, v)
		}
	}
}

// place is the place of a spot.
func (m *Machine) place(s spot) api.Place {
	switch s.kind {
	case api.InReg:
		return api.Place{Kind: s.kind, Method: m.entered.members[s.of], Reg: s.at}
	case api.InStatic:
		return api.Place{Kind: s.kind, Field: m.statics.fields[s.at]}
	case api.InField:
		return api.Place{Kind: s.kind, Site: m.made.members[s.of], Field: m.parts[s.of][s.at]}
	}
	return api.Place{Kind: s.kind, Site: m.made.members[s.of]}
}
