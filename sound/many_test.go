package sound

import (
	"math/rand"
	"slices"
	"testing"

	"secateur/api"
	"secateur/merge"
	"secateur/norm"
	"secateur/op"
	"secateur/slot"
)

// texts is all strings of a program that may be another one's: what its types, what is above, its code and its entry name.
func texts(p *api.Program) []*string {
	l := []*string{&p.Entry.Class, &p.Entry.Name, &p.Entry.Desc}
	for at := range p.Classes {
		c := &p.Classes[at]
		l = append(l, &c.Name, &c.Super)
		for i := range c.Ifaces {
			l = append(l, &c.Ifaces[i])
		}
		for i := range c.Fields {
			l = append(l, &c.Fields[i].Name, &c.Fields[i].Type.Class, &c.Fields[i].Type.Class)
		}
		for i := range c.Methods {
			m := &c.Methods[i]
			l = append(l, &m.Name, &m.Desc)
			for k := range m.Code {
				l = append(l, &m.Code[k].Class, &m.Code[k].Name, &m.Code[k].Desc)
			}
		}
	}
	return l
}

// turn changes one thing of a program, so that it mostly still can be.
func turn(chance *rand.Rand, p *api.Program) {
	switch chance.Intn(6) {
	case 0, 1:
		l := slices.DeleteFunc(texts(p), func(s *string) bool { return *s == "" })
		s := l[chance.Intn(len(l))]
		other := []string{"A", "B", "C", "D", "I", "J", "Z"}
		switch (*s)[0] {
		case '(':
			other = []string{"()V", "()I", "([LC;)V", "(LD;)V", "(LZ;)V", "(LB;I)LA;"}
		case 'm', 'j', 's', 't', 'o', 'x':
			other = []string{"m", "main", "j", "s", "x"}
		}
		*s = other[chance.Intn(len(other))]
	case 2:
		at := chance.Intn(len(p.Classes))
		p.Classes = slices.Delete(p.Classes, at, at+1)
	case 3:
		c := &p.Classes[chance.Intn(len(p.Classes))]
		if len(c.Methods) > 0 {
			at := chance.Intn(len(c.Methods))
			c.Methods = slices.Delete(c.Methods, at, at+1)
		}
	case 4:
		c := &p.Classes[chance.Intn(len(p.Classes))]
		if len(c.Methods) > 0 {
			turnCode(chance, &c.Methods[chance.Intn(len(c.Methods))])
		}
	case 5:
		c := &p.Classes[chance.Intn(len(p.Classes))]
		if len(c.Methods) > 0 && !c.Iface {
			m := &c.Methods[chance.Intn(len(c.Methods))]
			m.Static = !m.Abstract && !m.Static
		}
	}
}

// turnCode changes one instruction.
func turnCode(chance *rand.Rand, m *api.Method) {
	if len(m.Code) == 0 {
		return
	}
	i := &m.Code[chance.Intn(len(m.Code))]
	switch chance.Intn(4) {
	case 0:
		*i = api.Instr{Op: api.Nop}
	case 1:
		*i = api.Instr{Op: api.Jump, K: int64(chance.Intn(len(m.Code)))}
	case 2:
		*i = api.Instr{Op: api.Const, A: chance.Intn(4)}
	case 3:
		for _, l := range op.Shape(i.Op) {
			switch l {
			case 'a':
				i.A = chance.Intn(4)
			case 'b':
				i.B = chance.Intn(4)
			case 'c':
				i.C = chance.Intn(4)
			}
		}
	}
}

// many is many programs of a fixed seed: the world with some changes; some of them in order.
func many(size int) []api.Program {
	chance := rand.New(rand.NewSource(17))
	var l []api.Program
	for len(l) < size {
		p := world()
		for range 1 + chance.Intn(3) {
			turn(chance, &p)
			if len(p.Classes) == 0 {
				break
			}
		}
		if chance.Intn(8) > 0 {
			p = norm.Sorted(p)
		}
		l = append(l, p)
	}
	return l
}

// TestEachByItself: P17.2, P17.4, what is told is what the first part of all tells that has something; nothing is, if none has.
func TestEachByItself(t *testing.T) {
	met := map[api.Errno]int{}
	for _, p := range many(6000) {
		l, v := oneByOne(p), Check(p)
		if v != firstOf(l) {
			t.Fatalf("%+v, not %+v: %+v", v, l, p)
		}
		met[v.Errno]++
	}
	for _, e := range []api.Errno{api.OK, api.ErrForm, api.ErrShort, api.ErrOrder, api.ErrNone, api.ErrKind, api.ErrCycle, api.ErrEntry} {
		if met[e] < 10 {
			t.Errorf("of %d there are %d", e, met[e])
		}
	}
}

// TestTypesOfMany: P17.1, held against what else tells which classes are named.
func TestTypesOfMany(t *testing.T) {
	met := 0
	for _, p := range many(6000) {
		v := Types(p)
		if v != firstOf(strangers(p)) {
			t.Fatalf("%+v, not %+v: %+v", v, strangers(p), p)
		}
		if v.Errno != api.OK {
			met++
		}
	}
	if met < 100 {
		t.Errorf("there are %d", met)
	}
}

// TestNoneMissing: P17.3, where nothing is wrong no class is named that is not there.
func TestNoneMissing(t *testing.T) {
	met := 0
	for _, p := range many(6000) {
		missing := merge.Missing(p)
		if len(missing) > 0 {
			met++
		}
		if Check(p) == (api.Verdict{}) && len(missing) > 0 {
			t.Fatalf("%q: %+v", missing, p)
		}
	}
	if met < 100 {
		t.Errorf("there are %d", met)
	}
}

// TestEachName: P17.3, wherever a class is named that is not there, something is wrong.
func TestEachName(t *testing.T) {
	all, met := world(), 0
	for at := range texts(&all) {
		for _, other := range []string{"Z", "(LZ;)V", "()LZ;", "([LZ;I)I"} {
			p := world()
			*texts(&p)[at] = other
			if len(merge.Missing(p)) == 0 {
				continue
			}
			if norm.Right(p) == api.OK {
				met++
			}
			if Check(p) == (api.Verdict{}) {
				t.Errorf("%d as %s: nothing is wrong", at, other)
			}
		}
	}
	if met < 50 {
		t.Errorf("there are %d", met)
	}
}

// TestLinkedIsSound: P17.5, where nothing is wrong, and it links, nothing is wrong with that unit; else there is.
func TestLinkedIsSound(t *testing.T) {
	whole, not := 0, 0
	for _, p := range many(6000) {
		u, e := slot.Link(p)
		if e != api.OK {
			continue
		}
		v := Check(p)
		if Unit(u) != v {
			t.Fatalf("%+v, not %+v: %+v", Unit(u), v, p)
		}
		if v == (api.Verdict{}) {
			whole++
		} else {
			not++
		}
	}
	if whole < 100 || not < 100 {
		t.Errorf("%d, %d", whole, not)
	}
}

// wild is programs of any names, kinds and numbers.
func wild(size int) []api.Program {
	chance := rand.New(rand.NewSource(18))
	name := func() string {
		return []string{"", "A", "B", "I", "m", "<clinit>", "()V", "(LA;)V", "\xff\x00", "([LZ;I)LB;", "a b"}[chance.Intn(11)]
	}
	instr := func() api.Instr {
		i := api.Instr{Op: api.Op(chance.Intn(36) - 2), A: chance.Intn(6) - 1, B: chance.Intn(6) - 1, C: chance.Intn(6) - 1, K: int64(chance.Intn(6) - 2), Class: name(), Name: name(), Desc: name()}
		for range chance.Intn(3) {
			i.Args = append(i.Args, chance.Intn(6)-1)
		}
		return i
	}
	method := func() api.Method {
		m := api.Method{Name: name(), Desc: name(), Static: chance.Intn(2) == 0, Abstract: chance.Intn(3) == 0, Regs: chance.Intn(8) - 2}
		for range chance.Intn(4) {
			m.Code = append(m.Code, instr())
		}
		return m
	}
	var l []api.Program
	for range size {
		p := api.Program{Entry: api.MethodRef{Class: name(), Name: name(), Desc: name()}}
		for range chance.Intn(5) {
			c := api.Class{Name: name(), Super: name(), Iface: chance.Intn(3) == 0, Abstract: chance.Intn(2) == 0}
			for range chance.Intn(3) {
				c.Ifaces = append(c.Ifaces, name())
				c.Fields = append(c.Fields, api.Field{Name: name(), Type: api.Type{Kind: api.Kind(chance.Intn(8) - 1), Class: name()}, Static: chance.Intn(2) == 0})
				c.Methods = append(c.Methods, method())
			}
			p.Classes = append(p.Classes, c)
		}
		l = append(l, p)
	}
	return l
}

// TestWild: P1, each call ends with whatever comes in; P17.2, P17.4 hold there, too.
func TestWild(t *testing.T) {
	for _, p := range wild(5000) {
		if v := Check(p); v != firstOf(oneByOne(p)) {
			t.Fatalf("%+v: %+v", v, p)
		}
		u := api.Unit{Program: p, Linked: true, Tables: []api.Table{{}, {Class: "A", Slots: []api.Slot{{}, {Name: "\xff"}}}}}
		if v := Unit(u); v.Errno == api.OK {
			t.Fatalf("%+v", u)
		}
	}
}
