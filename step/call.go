package step

import (
	"slices"

	"secateur/api"
	"secateur/find"
	"secateur/hier"
	"secateur/kind"
)

// room traps, if there is none for so many frames.
func (m *Machine) room(frames int) {
	if len(m.frames)+frames > api.MaxDeep {
		trapIf(api.TrapDeep)
	}
}

// enter puts a frame of a method, to which some values are handed over.
func (m *Machine) enter(ref api.MethodRef, handed ...api.Value) *frame {
	m.room(1)
	method, _ := find.Get(m.p, ref)
	_, answer, _ := kind.Split(ref.Desc)
	f := &frame{method: ref, code: method.Code, size: method.Regs, values: map[int]api.Value{}, answer: asked(answer)}
	for r, v := range handed {
		f.set(r, v)
	}
	m.frames = append(m.frames, f)
	m.entered.add(ref)
	return f
}

// leave takes the last frame away, and lays its answer where it goes; a value of no kind is none.
func (m *Machine) leave(answer api.Value) {
	f, under := m.last(), len(m.frames)-1
	must(answer.Kind == f.answer)
	switch {
	case under == 0:
		// A program ends with a number.
		must(answer.Kind != api.Pointer)
		m.result.Status, m.result.Code = api.Exited, answer.N
	case answer.Kind != api.NoValue:
		m.frames[under-1].set(f.to, answer)
	}
	m.frames = m.frames[:under]
}

// call puts the frame that a call asks for.
func (m *Machine) call(f *frame, i api.Instr) {
	params, _, _ := kind.Split(i.Desc)
	if i.Op == api.CallStatic {
		ref := m.static(i)
		m.callTo(f, i, ref, f.handed(i.Args, params))
		return
	}
	must(len(i.Args) > 0)
	n := f.pointer(i.Args[0])
	ref := m.dispatched(i, n)
	m.callTo(f, i, ref, slices.Concat([]api.Value{pointer(n)}, f.handed(i.Args[1:], params)))
}

// static is the method that CallStatic names, by the class that declares it.
func (m *Machine) static(i api.Instr) api.MethodRef {
	ref, is := find.Static(m.p, api.MethodRef{Class: i.Class, Name: i.Name, Desc: i.Desc})
	must(is)
	return ref
}

// handed is what registers have that are handed over as parameters of some types.
func (f *frame) handed(registers []int, params []api.Type) []api.Value {
	must(len(registers) == len(params))
	var l []api.Value
	for at, r := range registers {
		l = append(l, f.valued(r, asked(params[at])))
	}
	return l
}

// dispatched is the method to which a call of an object goes.
func (m *Machine) dispatched(i api.Instr, n int64) api.MethodRef {
	if n == 0 {
		trapIf(api.TrapNil)
	}
	class := m.objects.Class(n)
	must(i.Op != api.CallIface || hier.Sub(m.p, class, i.Class))
	ref, is := find.Dispatch(m.p, class, i.Name, i.Desc)
	must(is)
	return ref
}

// ask puts a frame of the method that a text becomes; where there is none, the answer is 0.
func (m *Machine) ask(f *frame, i api.Instr) {
	ref, is := m.method(m.text(f, i))
	if !is {
		f.set(i.A, number(0))
		return
	}
	m.callTo(f, i, ref, nil)
}

// callTo puts a frame of a method; its answer, if it has one, goes to the register that the instruction sets.
func (m *Machine) callTo(f *frame, i api.Instr, ref api.MethodRef, handed []api.Value) {
	m.enter(ref, handed...).to = i.A
	m.edges.add(api.Edge{Method: f.method, PC: f.at, Target: ref})
}
