package step

import (
	"math"
	"strings"
	"testing"

	"secateur/api"
	"secateur/op"
	"secateur/sound"
)

// checkWrong runs each as main, as it stands; it goes wrong, and puts out nothing.
func checkWrong(t *testing.T, l []doing) {
	t.Helper()
	for _, c := range l {
		desc := "()V"
		if c.want != "" {
			desc = c.want
		}
		p := with(desc, c.code...)
		p.Names = []string{"A", "M.s"}
		if v := sound.Check(p); v == (api.Verdict{}) {
			t.Errorf("%s: nothing is wrong", c.what)
		}
		m := ran(p)
		r := m.Result()
		if told(r) != "!9" || m.Step() {
			t.Errorf("%s: %s", c.what, told(r))
		}
	}
}

// out is what would be seen, if it went on.
func out() []api.Instr {
	return code(sets(7, 1), puts(7), end)
}

// TestNoPlaceOfCode: P19.2, TrapWrong at a place that is none.
func TestNoPlaceOfCode(t *testing.T) {
	checkWrong(t, []doing{
		{"behind the last one", code(sets(0, 1)), ""},
		{"behind one that does nothing", code(by(api.Nop)), ""},
		{"behind a branch", code(sets(0, 0), by(api.Branch, 0, 0)), ""},
		{"no code at all", nil, ""},
		{"a jump behind the last one", code(by(api.Jump, 4), out()), ""},
		{"a jump below 0", code(by(api.Jump, -1), out()), ""},
		{"a jump to none", code(by(api.Jump, math.MinInt64), out()), ""},
		{"a jump far away", code(by(api.Jump, math.MaxInt64), out()), ""},
		{"a jump that comes round", code(by(api.Jump, 1<<32+1), out()), ""},
		{"a branch behind the last one", code(sets(0, 1), by(api.Branch, 0, 5), out()), ""},
		{"a branch of none behind the last one", code(by(api.Nil, 0), by(api.BranchNil, 0, 5), out()), ""},
	})
}

// TestNoOp: P19.2, TrapWrong at what is no instruction.
func TestNoOp(t *testing.T) {
	for _, o := range []api.Op{math.MinInt, -1, api.NoOp, api.LastOp + 1, math.MaxInt} {
		checkWrong(t, []doing{{"no instruction", code(api.Instr{Op: o}, out()), ""}})
	}
}

// set5 is code that sets registers 0 to 4: 0, an object of D, an array of numbers, one of references, none.
func set5() []api.Instr {
	return code(sets(0, 1), makes(1, "D"), by(api.NewInts, 2, 0), of(by(api.NewRefs, 3, 0), "A"), by(api.Nil, 4), sets(0, 0))
}

// right is one of each instruction, that is right behind set5.
func right() []api.Instr {
	return []api.Instr{
		sets(5, 1), by(api.Nil, 5), by(api.Move, 5, 0), by(api.Arith, 5, 0, 0, api.Add), by(api.Branch, 0, 7), by(api.BranchNil, 1, 7),
		makes(5, "A"), by(api.NewInts, 5, 0), of(by(api.NewRefs, 5, 0), "A"), by(api.Len, 5, 2), by(api.Load, 5, 2, 0), by(api.Load, 5, 3, 0), by(api.Store, 2, 0, 0), by(api.Store, 3, 0, 1),
		of(by(api.Get, 5, 1), "A", "a"), of(by(api.Put, 1, 0), "A", "a"), of(by(api.Put, 1, 1), "A", "b"), of(by(api.GetStatic, 5), "A", "p"), of(by(api.PutStatic, 0), "A", "p"), of(by(api.PutStatic, 1), "A", "q"),
		call(api.CallStatic, 5, "A s (II)I", 0, 0), call(api.Call, 5, "A t (LA;I)I", 1, 1, 0), call(api.CallIface, 5, "I m ()I", 1),
		of(by(api.Is, 5, 1), "A"), of(by(api.Cast, 5, 1), "A"), by(api.In, 5), by(api.Out, 0), by(api.Make, 5, 0), by(api.Ask, 5, 0), by(api.Check, 1),
	}
}

// TestRight: what the next tests change is right.
func TestRight(t *testing.T) {
	for _, i := range right() {
		p := with("()V", code(set5(), i, out())...)
		p.Names = []string{"A"}
		if v := sound.Check(p); v != (api.Verdict{}) {
			t.Errorf("%v: %+v", i, v)
		}
		if r := ran(p).Result(); r.Status != api.Exited {
			t.Errorf("%v: %s", i, told(r))
		}
	}
}

// TestNoRegister: P19.2, TrapWrong at a register that is none.
func TestNoRegister(t *testing.T) {
	for _, r := range []int{-1, 8, api.MaxRegs, 1 << 32, math.MinInt, math.MaxInt} {
		for _, i := range right() {
			shape := op.Shape(i.Op)
			for _, letter := range "abc" {
				other := i
				switch letter {
				case 'a':
					other.A = r
				case 'b':
					other.B = r
				case 'c':
					other.C = r
				}
				if strings.ContainsRune(shape, letter) {
					checkTraps(t, other)
				}
			}
			for at := range i.Args {
				other := i
				other.Args = append([]int{}, i.Args...)
				other.Args[at] = r
				checkTraps(t, other)
			}
		}
	}
}

// checkTraps runs an instruction behind set5: it goes wrong.
func checkTraps(t *testing.T, i api.Instr) {
	t.Helper()
	p := with("()V", code(set5(), i, end)...)
	p.Names = []string{"A"}
	r := ran(p).Result()
	if r.Trap != api.TrapWrong || r.Status != api.Trapped || r.Code != 0 {
		t.Errorf("%v: %s", i, told(r))
	}
}

// TestNoKind: P19.2, TrapWrong at a value of another kind, and where there is none.
func TestNoKind(t *testing.T) {
	const object, none, never = 1, 4, 6
	for _, r := range []int{object, none, never} {
		for _, i := range []api.Instr{
			by(api.Arith, 5, r, 0, api.Add), by(api.Arith, 5, 0, r, api.Equal), by(api.Branch, r, 7), by(api.NewInts, 5, r), of(by(api.NewRefs, 5, r), "A"), by(api.Load, 5, 2, r), by(api.Load, 5, 3, r), by(api.Store, 2, r, 0), by(api.Store, 2, 0, r),
			of(by(api.Put, 1, r), "A", "a"), of(by(api.PutStatic, r), "A", "p"), by(api.Out, r), by(api.Make, 5, r), by(api.Ask, 5, r),
		} {
			checkTraps(t, i)
		}
	}
	for _, r := range []int{0, never} {
		for _, i := range []api.Instr{
			by(api.BranchNil, r, 7), by(api.Len, 5, r), by(api.Load, 5, r, 0), by(api.Store, r, 0, 0), by(api.Store, 3, 0, r), of(by(api.Get, 5, r), "A", "a"), of(by(api.Put, r, 0), "A", "a"), of(by(api.Put, 1, r), "A", "b"), of(by(api.PutStatic, r), "A", "q"),
			call(api.Call, 5, "A m ()I", r), call(api.CallIface, 5, "I m ()I", r), of(by(api.Is, 5, r), "A"), of(by(api.Cast, 5, r), "A"), by(api.Check, r),
		} {
			checkTraps(t, i)
		}
	}
	// An object is no array, and the other way round.
	for _, i := range []api.Instr{by(api.Len, 5, 1), by(api.Load, 5, 1, 0), by(api.Store, 1, 0, 0), of(by(api.Get, 5, 2), "A", "a"), of(by(api.Put, 3, 0), "A", "a"), call(api.Call, 5, "A m ()I", 2), call(api.CallIface, 5, "I m ()I", 3)} {
		checkTraps(t, i)
	}
}

// TestNoReckoning: P19.2, TrapWrong of what is reckoned otherwise.
func TestNoReckoning(t *testing.T) {
	for _, k := range []int{-1, api.LastSum + 1, 1 << 32, math.MinInt64} {
		checkTraps(t, by(api.Arith, 5, 0, 0, k))
	}
}

// TestNoName: P19.2, TrapWrong at a name that is not there, or is not as it must be.
func TestNoName(t *testing.T) {
	for _, i := range []api.Instr{
		makes(5, "Z"), makes(5, ""), makes(5, "C"), makes(5, "I"), of(by(api.NewRefs, 5, 0), "Z"), of(by(api.Is, 5, 1), "Z"), of(by(api.Cast, 5, 1), "Z"), of(by(api.Init), "Z"),
		of(by(api.Get, 5, 1), "Z", "a"), of(by(api.Get, 5, 1), "A", "z"), of(by(api.Get, 5, 1), "A", "p"), of(by(api.Get, 5, 1), "K", "y"), of(by(api.Get, 5, 1), "I", "a"),
		of(by(api.Put, 1, 0), "Z", "a"), of(by(api.Put, 1, 0), "A", "z"), of(by(api.Put, 1, 0), "A", "p"), of(by(api.Put, 1, 0), "K", "y"),
		of(by(api.GetStatic, 5), "Z", "p"), of(by(api.GetStatic, 5), "A", "z"), of(by(api.GetStatic, 5), "A", "a"), of(by(api.GetStatic, 5), "I", "p"), of(by(api.GetStatic, 5), "K", "y"),
		of(by(api.PutStatic, 0), "Z", "p"), of(by(api.PutStatic, 0), "A", "z"), of(by(api.PutStatic, 0), "A", "a"), of(by(api.PutStatic, 0), "K", "p"),
		call(api.CallStatic, 5, "Z s (II)I", 0, 0), call(api.CallStatic, 5, "A z (II)I", 0, 0), call(api.CallStatic, 5, "A s (II)V", 0, 0), call(api.CallStatic, 5, "K s (II)I", 0, 0), call(api.CallStatic, 5, "A m ()I"),
		call(api.Call, 5, "A z ()I", 1), call(api.Call, 0, "A m ()V", 1), call(api.Call, 5, "A s (II)I", 1, 0), call(api.Call, 5, "A s (II)I", 1, 0, 0), call(api.CallIface, 5, "I z ()I", 1),
	} {
		checkTraps(t, i)
	}
	checkWrong(t, []doing{
		{"an object that is not of the interface", code(makes(1, "A"), call(api.CallIface, 5, "J m ()I", 1), out()), ""},
		{"an object that has its method alone", code(makes(1, "E"), call(api.CallIface, 5, "I m ()I", 1), out()), ""},
	})
}

// TestNoCode: P19.2, TrapWrong at code that is not there.
func TestNoCode(t *testing.T) {
	p := with("()V", code(makes(1, "D"), call(api.CallIface, 5, "J o ()I", 1), out())...)
	class(&p, "D").Methods = nil
	if got := told(ran(p).Result()); got != "!9" {
		t.Errorf("an object: %s", got)
	}
	p = with("()V", code(makes(1, "D"), call(api.Call, 5, "C o ()I", 1), out())...)
	class(&p, "D").Methods = nil
	if got := told(ran(p).Result()); got != "!9" {
		t.Errorf("an object: %s", got)
	}
	p = with("()V", code(call(api.CallStatic, 0, "M s ()V"), out())...)
	for at := range class(&p, "M").Methods {
		class(&p, "M").Methods[at].Code = nil
	}
	if got := told(ran(p).Result()); got != "10 20 !9" {
		t.Errorf("without code: %s", got)
	}
}

// TestNoAnswer: P19.2, TrapWrong at an answer where none is asked, or none where one is.
func TestNoAnswer(t *testing.T) {
	checkWrong(t, []doing{
		{"an answer of main", code(sets(0, 1), by(api.Return, 0)), "()V"},
		{"an answer of main that is none", code(by(api.Return, 0)), "()V"},
		{"none of main", code(end), "()I"},
		{"an answer of none of main", code(by(api.Return, 0)), "()I"},
	})
	for what, c := range map[string]struct {
		method string
		code   []api.Instr
	}{
		"an answer of a method":         {"v ()V", code(sets(1, 1), by(api.Return, 1))},
		"none of a method":              {"m ()I", code(end)},
		"an answer of none of a method": {"m ()I", code(by(api.Return, 1))},
	} {
		p := with("()V", code(makes(1, "A"), call(api.Call, 0, "A "+c.method, 1), out())...)
		a := class(&p, "A")
		for at := range a.Methods {
			if a.Methods[at].Name+" "+a.Methods[at].Desc == c.method {
				a.Methods[at].Code = c.code
			}
		}
		if got := told(ran(p).Result()); got != "!9" {
			t.Errorf("%s: %s", what, got)
		}
	}
	p := with("()V", code(makes(0, "K"), out())...)
	class(&p, "K").Methods[0].Code = code(sets(1, 1), by(api.Return, 1))
	if got := told(ran(p).Result()); got != "!9" {
		t.Errorf("an answer of a class's beginning: %s", got)
	}
}

// TestNoArgs: P19.2, TrapWrong at a call that hands over less than is asked, or more than there is room for.
func TestNoArgs(t *testing.T) {
	for _, i := range []api.Instr{
		call(api.CallStatic, 5, "A s (II)I"), call(api.CallStatic, 5, "A s (II)I", 0), call(api.CallStatic, 5, "A s (II)I", 0, 0, 0, 0, 0),
		call(api.Call, 5, "A m ()I"), call(api.CallIface, 5, "I m ()I"), call(api.Call, 5, "A t (LA;I)I", 1), call(api.Call, 5, "A t (LA;I)I", 1, 1),
	} {
		checkTraps(t, i)
	}
}
