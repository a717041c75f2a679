package step

import (
	"cmp"
	"slices"

	"secateur/api"
	"secateur/find"
	"secateur/hier"
	"secateur/word"
)

// asks is the descriptor of what can be looked up as a method.
const asks = "()I"

// Identity is what is looked up becomes in a program whose names are its own.
func Identity(p api.Program) api.Mapping {
	var m api.Mapping
	for _, c := range p.Classes {
		m.Classes = append(m.Classes, api.Pair{Old: c.Name, New: c.Name})
		for _, o := range c.Methods {
			m.Methods = append(m.Methods, api.Pair{Old: o.Name + o.Desc, New: o.Name})
		}
	}
	return api.Mapping{Classes: rising(m.Classes), Methods: rising(m.Methods)}
}

// rising is some pairs by their old names, of each the first one alone.
func rising(l []api.Pair) []api.Pair {
	slices.SortStableFunc(l, func(a, b api.Pair) int { return cmp.Compare(a.Old, b.Old) })
	return slices.CompactFunc(l, func(a, b api.Pair) bool { return a.Old == b.Old })
}

// become is what a name becomes.
func become(l []api.Pair, name string) (string, bool) {
	at := slices.IndexFunc(l, func(p api.Pair) bool { return p.Old == name })
	if at < 0 {
		return "", false
	}
	return l[at].New, true
}

// text is the name that an instruction looks up.
func (m *Machine) text(f *frame, i api.Instr) string {
	n := f.number(i.B)
	if n < 0 || n >= int64(len(m.p.Names)) {
		trapIf(api.TrapBound)
	}
	return m.p.Names[n]
}

// class is the class with objects that a text becomes, method the method.
func (m *Machine) class(text string) (string, bool) {
	name, is := become(m.names.Classes, text)
	if is {
		m.found.add(text)
	}
	return name, is && hier.Concrete(m.p, name)
}

func (m *Machine) method(text string) (api.MethodRef, bool) {
	class, name, is := word.Split(text)
	newClass, isClass := become(m.names.Classes, class)
	newName, isMethod := become(m.names.Methods, name+asks)
	if !is || !isClass || !isMethod {
		return api.MethodRef{}, false
	}
	m.found.add(text)
	ref := api.MethodRef{Class: newClass, Name: newName, Desc: asks}
	o, _ := find.Get(m.p, ref)
	return ref, o.Static
}
