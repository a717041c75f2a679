package step

import (
	"secateur/api"
	"secateur/find"
	"secateur/hier"
	"secateur/norm"
)

// do does what an instruction says, and tells whether its frame is one place farther then.
func (m *Machine) do(f *frame, i api.Instr) bool {
	switch i.Op {
	case api.Nop:
	case api.Init:
		m.there(i.Class)
	case api.Jump, api.Branch, api.BranchNil:
		if f.jumps(i) {
			f.at = int(i.K)
			return false
		}
	case api.Store, api.Put, api.PutStatic:
		m.lay(f, i)
	case api.New, api.NewInts, api.NewRefs, api.Make:
		r := f.register(i.A)
		f.set(r, pointer(m.create(f, i)))
	case api.CallStatic, api.Call, api.CallIface:
		m.call(f, i)
	case api.Ask:
		m.ask(f, i)
	case api.Return:
		m.leave(f.value(i.B))
	case api.End:
		m.leave(api.Value{})
	case api.Out:
		m.events = append(m.events, api.Event{N: f.number(i.B)})
	case api.Throw:
		panic(trapped{trap: api.TrapThrow, code: i.K})
	case api.Check:
		if f.pointer(i.B) == 0 {
			trapIf(api.TrapNil)
		}
	default:
		r := f.register(i.A)
		f.set(r, m.value(f, i))
	}
	return true
}

// jumps tells whether an instruction goes where it tells.
func (f *frame) jumps(i api.Instr) bool {
	switch i.Op {
	case api.Branch:
		return f.number(i.B) != 0
	case api.BranchNil:
		return f.pointer(i.B) == 0
	}
	return true
}

// value is what an instruction sets its register to that does nothing else but to tell it.
func (m *Machine) value(f *frame, i api.Instr) api.Value {
	switch i.Op {
	case api.Const:
		return number(i.K)
	case api.Nil:
		return pointer(0)
	case api.Move:
		return f.value(i.B)
	case api.Arith:
		return number(sure(Reckon(i.K, f.number(i.B), f.number(i.C))))
	case api.Len:
		return number(sure(m.objects.Size(f.pointer(i.B))))
	case api.Load:
		return sure(m.objects.Load(f.pointer(i.B), f.number(i.C)))
	case api.Get:
		return m.get(f, i)
	case api.GetStatic:
		return m.getStatic(i)
	case api.Is:
		return number(truth(m.isOf(f.pointer(i.B), i.Class)))
	case api.Cast:
		return m.cast(f, i)
	case api.In:
		return number(m.take())
	}
	trapIf(api.TrapWrong)
	return api.Value{}
}

func truth(is bool) int64 {
	if is {
		return 1
	}
	return 0
}

// there traps, unless there is a class of that name.
func (m *Machine) there(class string) {
	must(norm.Class(m.p, class) != api.None)
}

// field is the field that an instruction names, by the class that declares it.
func (m *Machine) field(i api.Instr) api.FieldRef {
	ref, is := find.Field(m.p, api.FieldRef{Class: i.Class, Name: i.Name})
	must(is)
	return ref
}

// get is what a field of an object has, getStatic what a static one has.
func (m *Machine) get(f *frame, i api.Instr) api.Value {
	ref := m.field(i)
	v := sure(m.objects.Get(f.pointer(i.B), ref))
	m.read.add(ref)
	return v
}

func (m *Machine) getStatic(i api.Instr) api.Value {
	ref := m.field(i)
	v, is := m.statics.values[ref]
	must(is)
	m.read.add(ref)
	return v
}

// isOf tells whether it is an object of a class, or of one below.
func (m *Machine) isOf(n int64, class string) bool {
	m.there(class)
	return n != 0 && hier.Sub(m.p, m.objects.Class(n), class)
}

func (m *Machine) cast(f *frame, i api.Instr) api.Value {
	v := f.valued(i.B, api.Pointer)
	if !m.isOf(v.N, i.Class) && v.N != 0 {
		trapIf(api.TrapCast)
	}
	return v
}

// take is the next number of the input.
func (m *Machine) take() int64 {
	var n int64
	if m.taken < len(m.input) {
		n = m.input[m.taken]
		m.taken++
	}
	m.events = append(m.events, api.Event{In: true, N: n})
	return n
}

// lay puts a value where an instruction tells.
func (m *Machine) lay(f *frame, i api.Instr) {
	v := f.value(i.C)
	switch i.Op {
	case api.Store:
		trapIf(m.objects.Save(f.pointer(i.A), f.number(i.B), v))
	case api.Put:
		trapIf(m.objects.Put(f.pointer(i.B), m.field(i), v))
	case api.PutStatic:
		ref := m.field(i)
		was, is := m.statics.values[ref]
		must(is && v.Kind == was.Kind)
		m.statics.values[ref] = v
	}
}

// Reckon is what Arith answers.
func Reckon(op, a, b int64) (int64, api.Trap) {
	switch op {
	case api.Add:
		return a + b, api.NoTrap
	case api.Sub:
		return a - b, api.NoTrap
	case api.Mul:
		return a * b, api.NoTrap
	case api.Div, api.Rem:
		return divide(op, a, b)
	case api.And:
		return a & b, api.NoTrap
	case api.Or:
		return a | b, api.NoTrap
	case api.Xor:
		return a ^ b, api.NoTrap
	case api.Less:
		return truth(a < b), api.NoTrap
	case api.Equal:
		return truth(a == b), api.NoTrap
	}
	return 0, api.TrapWrong
}

func divide(op, a, b int64) (int64, api.Trap) {
	switch {
	case b == 0:
		return 0, api.TrapZero
	case op == api.Rem:
		return a % b, api.NoTrap
	}
	return a / b, api.NoTrap
}
