package step

import (
	"secateur/api"
	"secateur/store"
)

// trapped is what a step that traps gives up with.
type trapped struct {
	trap api.Trap
	code int64
}

// trapIf gives up with a trap, if it is one.
func trapIf(trap api.Trap) {
	if trap != api.NoTrap {
		panic(trapped{trap: trap})
	}
}

// must gives up, if something is otherwise than it must be.
func must(is bool) {
	if !is {
		trapIf(api.TrapWrong)
	}
}

// sure is an answer that came without a trap.
func sure[T any](answer T, trap api.Trap) T {
	trapIf(trap)
	return answer
}

func number(n int64) api.Value {
	return api.Value{Kind: api.Number, N: n}
}

func pointer(n int64) api.Value {
	return api.Value{Kind: api.Pointer, N: n}
}

// asked is of which kind a value of a type is; of what is nothing none.
func asked(t api.Type) api.ValueKind {
	return store.Zero(t).Kind
}

// frame is a method that was entered, and how far it came.
type frame struct {
	method api.MethodRef
	code   []api.Instr
	at     int
	size   int               // how many registers there are
	values map[int]api.Value // of these those that have one
	answer api.ValueKind
	to     int // the register of the frame below to which the answer goes
}

// instr is the instruction at which it is.
func (f *frame) instr() api.Instr {
	must(0 <= f.at && f.at < len(f.code))
	return f.code[f.at]
}

// register is a register's number, if there is such a one.
func (f *frame) register(r int) int {
	must(0 <= r && r < f.size)
	return r
}

func (f *frame) set(r int, v api.Value) {
	f.values[f.register(r)] = v
}

// value is what a register has, number and pointer what it has of that kind.
func (f *frame) value(r int) api.Value {
	v := f.values[f.register(r)]
	must(v.Kind != api.NoValue)
	return v
}

func (f *frame) number(r int) int64 {
	return f.valued(r, api.Number).N
}

func (f *frame) pointer(r int) int64 {
	return f.valued(r, api.Pointer).N
}

func (f *frame) valued(r int, k api.ValueKind) api.Value {
	v := f.value(r)
	must(v.Kind == k)
	return v
}

// last is the frame that goes on.
func (m *Machine) last() *frame {
	return m.frames[len(m.frames)-1]
}
