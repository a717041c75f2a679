package pack

import (
	"secateur/api"
	"secateur/op"
)

// The ids of a container's sections, one behind the other.
const (
	poolID byte = 1 + iota
	classesID
	namesID
	entryID
	tablesID
)

// part goes through what a section has. The pool has one of its own: without it no string can be told.
func part(p port, id byte, u *api.Unit) {
	switch id {
	case classesID:
		list(p, &u.Program.Classes, api.MaxClasses, func(c *api.Class) { class(p, c) })
	case namesID:
		list(p, &u.Program.Names, api.MaxNames, p.text)
	case entryID:
		entry(p, &u.Program.Entry)
	case tablesID:
		tables(p, u)
	}
}

// list goes through how many members a list has, at most so many, and each one.
func list[T any](p port, l *[]T, most int, member func(*T)) {
	n := len(*l)
	p.num(&n, most)
	for i := range n {
		// One that is read is not there yet.
		if i == len(*l) {
			var empty T
			*l = append(*l, empty)
		}
		member(&(*l)[i])
	}
}

func class(p port, c *api.Class) {
	p.text(&c.Name)
	p.perhaps(&c.Super)
	p.flags(&c.Iface, &c.Abstract)
	list(p, &c.Ifaces, api.MaxIfaces, p.text)
	list(p, &c.Fields, api.MaxMembers, func(f *api.Field) { field(p, f) })
	list(p, &c.Methods, api.MaxMembers, func(m *api.Method) { method(p, m) })
}

func field(p port, f *api.Field) {
	p.text(&f.Name)
	p.kind(&f.Type)
	p.flags(&f.Static)
}

func method(p port, m *api.Method) {
	p.text(&m.Name)
	p.text(&m.Desc)
	p.flags(&m.Static, &m.Abstract)
	p.num(&m.Regs, api.MaxRegs)
	list(p, &m.Code, api.MaxCode, func(i *api.Instr) { instr(p, i) })
}

func instr(p port, i *api.Instr) {
	p.op(&i.Op)
	for _, letter := range op.Shape(i.Op) {
		operand(p, i, letter)
	}
}

// operand goes through what a letter of a shape tells.
func operand(p port, i *api.Instr, letter rune) {
	switch letter {
	case 'a':
		p.num(&i.A, api.MaxRegs)
	case 'b':
		p.num(&i.B, api.MaxRegs)
	case 'c':
		p.num(&i.C, api.MaxRegs)
	case 'k':
		p.signed(&i.K)
	case 't':
		p.short(&i.K, api.MaxCode)
	case 'r':
		p.short(&i.K, api.LastSum)
	case 'C':
		texts(p, &i.Class)
	case 'F':
		texts(p, &i.Class, &i.Name)
	case 'M':
		texts(p, &i.Class, &i.Name, &i.Desc)
	case 'v':
		list(p, &i.Args, api.MaxParams+1, func(r *int) { p.num(r, api.MaxRegs) })
	}
}

func texts(p port, l ...*string) {
	for _, s := range l {
		p.text(s)
	}
}

func entry(p port, m *api.MethodRef) {
	there := *m != api.MethodRef{}
	p.flags(&there)
	if there {
		texts(p, &m.Class, &m.Name, &m.Desc)
	}
}

func tables(p port, u *api.Unit) {
	p.flags(&u.Linked)
	if u.Linked {
		list(p, &u.Tables, api.MaxClasses, func(t *api.Table) { table(p, t) })
	}
}

func table(p port, t *api.Table) {
	p.text(&t.Class)
	list(p, &t.Slots, api.MaxSlots, func(s *api.Slot) { slot(p, s) })
}

func slot(p port, s *api.Slot) {
	p.text(&s.Name)
	p.text(&s.Desc)
	p.perhaps(&s.Impl)
}
