package op

import (
	"math"
	"math/rand"
	"slices"
	"strings"
	"testing"

	"secateur/api"
)

const (
	regs = 6 // of the methods in which instructions are tried
	code = 9
)

// row is an instruction that fits such a method with not one register more than there need be, and what is told of it.
type row struct {
	i      api.Instr
	shape  string
	uses   []int
	sets   int // None: no register
	target int // None: no place
	falls  bool
}

// rows is each instruction, written out by hand.
func rows() []row {
	none := api.None
	return []row{
		{api.Instr{Op: api.Nop}, "", nil, none, none, true},
		{api.Instr{Op: api.Const, A: 5, K: -7}, "ak", nil, 5, none, true},
		{api.Instr{Op: api.Nil, A: 5}, "a", nil, 5, none, true},
		{api.Instr{Op: api.Move, A: 5, B: 4}, "ab", []int{4}, 5, none, true},
		{api.Instr{Op: api.Arith, A: 5, B: 4, C: 3, K: api.Equal}, "abcr", []int{4, 3}, 5, none, true},
		{api.Instr{Op: api.Jump, K: 8}, "t", nil, none, 8, false},
		{api.Instr{Op: api.Branch, B: 5, K: 8}, "bt", []int{5}, none, 8, true},
		{api.Instr{Op: api.BranchNil, B: 5, K: 8}, "bt", []int{5}, none, 8, true},
		{api.Instr{Op: api.New, A: 5, Class: "a/B"}, "aC", nil, 5, none, true},
		{api.Instr{Op: api.NewInts, A: 5, B: 4}, "ab", []int{4}, 5, none, true},
		{api.Instr{Op: api.NewRefs, A: 5, B: 4, Class: "a/B"}, "abC", []int{4}, 5, none, true},
		{api.Instr{Op: api.Len, A: 5, B: 4}, "ab", []int{4}, 5, none, true},
		{api.Instr{Op: api.Load, A: 5, B: 4, C: 3}, "abc", []int{4, 3}, 5, none, true},
		{api.Instr{Op: api.Store, A: 5, B: 4, C: 3}, "abc", []int{5, 4, 3}, none, none, true},
		{api.Instr{Op: api.Get, A: 5, B: 4, Class: "a/B", Name: "f"}, "abF", []int{4}, 5, none, true},
		{api.Instr{Op: api.Put, B: 5, C: 4, Class: "a/B", Name: "f"}, "bcF", []int{5, 4}, none, none, true},
		{api.Instr{Op: api.GetStatic, A: 5, Class: "a/B", Name: "f"}, "aF", nil, 5, none, true},
		{api.Instr{Op: api.PutStatic, C: 5, Class: "a/B", Name: "f"}, "cF", []int{5}, none, none, true},
		{api.Instr{Op: api.CallStatic, A: 5, Class: "a/B", Name: "m", Desc: "(II)I", Args: []int{4, 3}}, "aMv", []int{4, 3}, 5, none, true},
		{api.Instr{Op: api.Call, A: 5, Class: "a/B", Name: "m", Desc: "(II)I", Args: []int{4, 3, 2}}, "aMv", []int{4, 3, 2}, 5, none, true},
		{api.Instr{Op: api.CallIface, A: 5, Class: "a/B", Name: "m", Desc: "(II)I", Args: []int{4, 3, 2}}, "aMv", []int{4, 3, 2}, 5, none, true},
		{api.Instr{Op: api.Return, B: 5}, "b", []int{5}, none, none, false},
		{api.Instr{Op: api.End}, "", nil, none, none, false},
		{api.Instr{Op: api.Is, A: 5, B: 4, Class: "a/B"}, "abC", []int{4}, 5, none, true},
		{api.Instr{Op: api.Cast, A: 5, B: 4, Class: "a/B"}, "abC", []int{4}, 5, none, true},
		{api.Instr{Op: api.In, A: 5}, "a", nil, 5, none, true},
		{api.Instr{Op: api.Out, B: 5}, "b", []int{5}, none, none, true},
		{api.Instr{Op: api.Make, A: 5, B: 4}, "ab", []int{4}, 5, none, true},
		{api.Instr{Op: api.Ask, A: 5, B: 4}, "ab", []int{4}, 5, none, true},
		{api.Instr{Op: api.Throw, K: -7}, "k", nil, none, none, false},
		{api.Instr{Op: api.Check, B: 5}, "b", []int{5}, none, none, true},
		{api.Instr{Op: api.Init, Class: "a/B"}, "C", nil, none, none, true},
	}
}

// noOps is numbers of no instruction.
func noOps() []api.Op {
	return []api.Op{api.NoOp, -1, -2, -32, 33, 34, 255, 256, 257, 1 << 32, 1<<32 + 1, math.MaxInt, math.MinInt}
}

// operand is one of an instruction's operands: the letters of the shapes that have it, and how it is set to another value.
type operand struct {
	letters string
	set     func(i *api.Instr)
}

// spares is each operand set to 1.
func spares() []operand {
	return []operand{
		{"a", func(i *api.Instr) { i.A = 1 }},
		{"b", func(i *api.Instr) { i.B = 1 }},
		{"c", func(i *api.Instr) { i.C = 1 }},
		{"ktr", func(i *api.Instr) { i.K = 1 }},
		{"CFM", func(i *api.Instr) { i.Class = "1" }},
		{"FM", func(i *api.Instr) { i.Name = "1" }},
		{"M", func(i *api.Instr) { i.Desc = "1" }},
		{"v", func(i *api.Instr) { i.Args = []int{1} }},
	}
}

// checkFits holds what Fits answers against what it should.
func checkFits(t *testing.T, i api.Instr, regs, code int, want api.Errno) {
	t.Helper()
	if e := Fits(i, regs, code); e != want {
		t.Errorf("Fits(%+v, %d, %d) = %d, not %d", i, regs, code, e, want)
	}
}

// P7.1
func TestShapeAsWritten(t *testing.T) {
	seen := map[api.Op]bool{}
	for _, r := range rows() {
		seen[r.i.Op] = true
		if s := Shape(r.i.Op); s != r.shape {
			t.Errorf("Shape(%d) = %q, not %q", r.i.Op, s, r.shape)
		}
	}
	if len(seen) != int(api.LastOp) {
		t.Errorf("%d instructions are tried", len(seen))
	}
	for _, o := range noOps() {
		if s := Shape(o); s != "" {
			t.Errorf("Shape(%d) = %q", o, s)
		}
	}
}

// P7.1
func TestWhatFits(t *testing.T) {
	for _, r := range rows() {
		checkFits(t, r.i, regs, code, api.OK)
	}
	for _, i := range []api.Instr{
		{Op: api.Const, K: math.MaxInt64},
		{Op: api.Const, K: math.MinInt64},
		{Op: api.Throw, K: math.MinInt64},
		{Op: api.Throw},
		{Op: api.Jump},
		{Op: api.Branch},
		{Op: api.Arith},
		{Op: api.Move, A: 3, B: 3},
		{Op: api.New, Class: "/"},
		{Op: api.New, Class: strings.Repeat("x", 32)},
		{Op: api.Get, Class: "A", Name: api.InitName},
		{Op: api.Get, Class: "A", Name: strings.Repeat("x", 32)},
		{Op: api.CallStatic, Class: "A", Name: api.InitName, Desc: "()V"},
		{Op: api.CallStatic, Class: "A", Name: "m", Desc: "()V", Args: []int{}},
		{Op: api.CallStatic, A: 5, Class: "A", Name: "m", Desc: "()I"},
		{Op: api.CallStatic, A: 5, Class: "A", Name: "m", Desc: "()[LB;"},
		{Op: api.CallStatic, Class: "A", Name: "m", Desc: "(IIIIIIII)V", Args: []int{0, 1, 2, 3, 4, 5, 5, 5}},
		{Op: api.Call, Class: "A", Name: "m", Desc: "()V", Args: []int{5}},
		{Op: api.Call, Class: "A", Name: "m", Desc: "(IIIIIIII)V", Args: []int{5, 5, 5, 5, 5, 5, 5, 5, 5}},
		{Op: api.CallIface, Class: "A", Name: "m", Desc: "(LA;[I)V", Args: []int{0, 0, 0}},
	} {
		checkFits(t, i, regs, code, api.OK)
	}
	checkFits(t, api.Instr{Op: api.Call, Class: "A", Name: "m", Desc: "(I)V", Args: []int{0, 1}}, 2, 1, api.OK)
	// What has neither registers nor places fits where there are none.
	for _, i := range []api.Instr{{Op: api.Nop}, {Op: api.End}, {Op: api.Throw, K: 1}, {Op: api.Init, Class: "A"}} {
		checkFits(t, i, 0, 0, api.OK)
		checkFits(t, i, -1, -1, api.OK)
	}
}

// P7.1
func TestWhatIsNoInstructionDoesNotFit(t *testing.T) {
	for _, o := range noOps() {
		checkFits(t, api.Instr{Op: o}, regs, code, api.ErrForm)
		checkFits(t, api.Instr{Op: o, A: 1, B: 1, C: 1, Class: "A", Name: "m", Desc: "()V", Args: []int{1}}, regs, code, api.ErrForm)
	}
}

// P7.1, P7.5: an operand that the shape lacks, ahead of all else that is wrong.
func TestWhatTheShapeLacks(t *testing.T) {
	for _, r := range rows() {
		for _, o := range spares() {
			if strings.ContainsAny(r.shape, o.letters) {
				continue
			}
			i := r.i
			o.set(&i)
			checkFits(t, i, regs, code, api.ErrForm)
			checkFits(t, i, 0, 0, api.ErrForm)
			checkFits(t, i, math.MaxInt, math.MaxInt, api.ErrForm)
		}
		if !strings.Contains(r.shape, "v") {
			i := r.i
			i.Args = []int{0}
			checkFits(t, i, regs, code, api.ErrForm)
			i.Args = []int{}
			checkFits(t, i, regs, code, api.OK) // empty is none
		}
	}
	for _, i := range []api.Instr{
		{Op: api.Nop, A: -1}, {Op: api.Nop, B: math.MinInt}, {Op: api.Nop, C: math.MaxInt}, {Op: api.Nop, K: math.MinInt64},
		{Op: api.Nop, Class: "A"}, {Op: api.Nop, Name: "m"}, {Op: api.Nop, Desc: "()V"}, {Op: api.End, K: 1 << 32},
		{Op: api.Get, Class: "A", Name: "f", Desc: "I"}, {Op: api.New, Class: "A", Name: "f"}, {Op: api.Return, A: 1}, {Op: api.Out, C: 1},
	} {
		checkFits(t, i, regs, code, api.ErrForm)
	}
}

// P7.1
func TestNamesThatAreNone(t *testing.T) {
	long := strings.Repeat("x", 33)
	for _, r := range rows() {
		for _, c := range []struct {
			letters string
			set     func(i *api.Instr, s string)
			texts   []string
		}{
			{"CFM", func(i *api.Instr, s string) { i.Class = s }, []string{"", "a.B", "a B", "[I", "LA;", api.InitName, long, "\xff", "A\n"}},
			{"FM", func(i *api.Instr, s string) { i.Name = s }, []string{"", "a/b", "a.b", "<init>", "<clinit", long, "\x00", "m "}},
			{"M", func(i *api.Instr, s string) { i.Desc = s }, []string{"", "V", "(II)", "II)I", "(IV)I", "(II)II", "(II)L;", "(II)La.B;", "(IIIIIIIII)I", "(II)I" + strings.Repeat(" ", 60), "(II)L" + long + ";"}},
		} {
			if !strings.ContainsAny(r.shape, c.letters) {
				continue
			}
			for _, s := range c.texts {
				i := r.i
				c.set(&i, s)
				checkFits(t, i, regs, code, api.ErrForm)
				checkFits(t, i, 0, 0, api.ErrForm) // ahead of registers that are none
				i.Args = append(slices.Clone(i.Args), 0)
				checkFits(t, i, regs, code, api.ErrForm) // and of Args that are too many
			}
		}
	}
}

// P7.1
func TestArgsAreAsManyAsTheDescriptorAsks(t *testing.T) {
	for _, o := range []api.Op{api.CallStatic, api.Call, api.CallIface} {
		for params := range 9 {
			for args := range 13 {
				asked := params
				if o != api.CallStatic {
					asked++
				}
				want, wantOut := api.ErrKind, api.ErrKind
				if args == asked {
					want, wantOut = api.OK, api.ErrRange
				}
				i := api.Instr{Op: o, Class: "A", Name: "m", Desc: "(" + strings.Repeat("I", params) + ")V", Args: make([]int, args)}
				checkFits(t, i, 1, 0, want)
				i.A = 1
				checkFits(t, i, 9, 0, wantOut) // how many Args there are comes ahead of where they are
			}
		}
	}
}

// P7.1
func TestRegistersThatAreNone(t *testing.T) {
	tried := 0
	for _, r := range rows() {
		for letter, set := range map[string]func(i *api.Instr, n int){
			"a": func(i *api.Instr, n int) { i.A = n },
			"b": func(i *api.Instr, n int) { i.B = n },
			"c": func(i *api.Instr, n int) { i.C = n },
		} {
			if !strings.Contains(r.shape, letter) {
				continue
			}
			tried++
			for _, n := range []int{-1, regs, regs + 1, math.MaxInt, math.MinInt} {
				i := r.i
				set(&i, n)
				checkFits(t, i, regs, code, api.ErrRange)
			}
			for n := range regs {
				i := r.i
				set(&i, n)
				checkFits(t, i, regs, code, api.OK)
			}
		}
		for at := range r.i.Args {
			tried++
			for _, n := range []int{-1, regs, math.MaxInt, math.MinInt} {
				i := r.i
				i.Args = slices.Clone(i.Args)
				i.Args[at] = n
				checkFits(t, i, regs, code, api.ErrRange)
			}
		}
		if len(r.uses) > 0 || r.sets != api.None {
			for _, n := range []int{5, 1, 0, -1, math.MinInt} {
				checkFits(t, r.i, n, code, api.ErrRange)
			}
		}
	}
	if tried != 51 { // 20 as A, 18 as B, 5 as C, 8 as Args
		t.Errorf("%d registers are tried", tried)
	}
	// All is well but that there is no register: A of a call without an answer is one, too.
	checkFits(t, api.Instr{Op: api.CallStatic, Class: "A", Name: "m", Desc: "()V"}, 0, 1, api.ErrRange)
	checkFits(t, api.Instr{Op: api.CallStatic, Class: "A", Name: "m", Desc: "()V"}, 1, 1, api.OK)
}

// P7.1
func TestPlacesAndSumsThatAreNone(t *testing.T) {
	for _, o := range []api.Op{api.Jump, api.Branch, api.BranchNil} {
		for _, size := range []int{1, 5, 256, math.MaxInt} {
			for _, k := range []int64{0, int64(size) - 1} {
				checkFits(t, api.Instr{Op: o, K: k}, 1, size, api.OK)
			}
			for _, k := range []int64{-1, int64(size), math.MinInt64, math.MaxInt64} {
				checkFits(t, api.Instr{Op: o, K: k}, 1, size, api.ErrRange)
			}
		}
		checkFits(t, api.Instr{Op: o, K: 1<<32 + 1}, 1, 5, api.ErrRange)
		checkFits(t, api.Instr{Op: o}, 1, 0, api.ErrRange)
		checkFits(t, api.Instr{Op: o, K: -2}, 1, -1, api.ErrRange)
	}
	for k := int64(0); k <= api.LastSum; k++ {
		checkFits(t, api.Instr{Op: api.Arith, K: k}, 1, 0, api.OK)
	}
	for _, k := range []int64{-1, api.LastSum + 1, 1 << 32, math.MinInt64, math.MaxInt64} {
		checkFits(t, api.Instr{Op: api.Arith, K: k}, 1, 100, api.ErrRange)
	}
}

// P7.1
func TestAnswerThatIsNotAskedFor(t *testing.T) {
	for _, c := range []struct {
		desc string
		want api.Errno
	}{
		{"()V", api.ErrRange}, {"()I", api.OK}, {"()LA;", api.OK}, {"()LV;", api.OK}, {"()[I", api.OK}, {"()[LV;", api.OK},
	} {
		checkFits(t, api.Instr{Op: api.CallStatic, A: 1, Class: "A", Name: "m", Desc: c.desc}, 2, 1, c.want)
		for _, o := range []api.Op{api.Call, api.CallIface} {
			checkFits(t, api.Instr{Op: o, A: 1, Class: "A", Name: "m", Desc: c.desc, Args: []int{1}}, 2, 1, c.want)
			checkFits(t, api.Instr{Op: o, A: 0, Class: "A", Name: "m", Desc: c.desc, Args: []int{1}}, 2, 1, api.OK)
		}
	}
}

// P7.2
func TestUsesAndSetsAsWritten(t *testing.T) {
	for _, r := range rows() {
		if l := Uses(r.i); !slices.Equal(l, r.uses) {
			t.Errorf("Uses(%+v) = %v, not %v", r.i, l, r.uses)
		}
		a, ok := Sets(r.i)
		if want := r.sets != api.None; ok != want || a != max(r.sets, 0) {
			t.Errorf("Sets(%+v) = %d, %v, not %d", r.i, a, ok, r.sets)
		}
	}
	for _, o := range noOps() {
		i := api.Instr{Op: o, A: 1, B: 2, C: 3, Class: "A", Name: "m", Desc: "()I", Args: []int{4}}
		if a, ok := Sets(i); len(Uses(i)) != 0 || a != 0 || ok {
			t.Errorf("%d reads %v, sets %d, %v", o, Uses(i), a, ok)
		}
	}
}

// P7.2: each as often, and in the order in which it is read; what the shape lacks is not read.
func TestUsesOfOtherInstructions(t *testing.T) {
	for _, c := range []struct {
		i    api.Instr
		want []int
	}{
		{api.Instr{Op: api.Arith, A: 1, B: 2, C: 2}, []int{2, 2}},
		{api.Instr{Op: api.Arith, A: 1, B: 9, C: 2}, []int{9, 2}},
		{api.Instr{Op: api.Store, A: 3, B: 1, C: 3}, []int{3, 1, 3}},
		{api.Instr{Op: api.Call, A: 1, B: 2, C: 3, Desc: "(I)V", Args: []int{7, 7, 0}}, []int{7, 7, 0}},
		{api.Instr{Op: api.CallStatic, Desc: "none", Args: []int{-1, math.MaxInt}}, []int{-1, math.MaxInt}},
		{api.Instr{Op: api.CallIface}, nil},
		{api.Instr{Op: api.Move, A: 1, B: -5, C: 3, Args: []int{4}}, []int{-5}},
		{api.Instr{Op: api.Put, A: 1, B: 0, C: 0}, []int{0, 0}},
		{api.Instr{Op: api.Nop, A: 1, B: 2, C: 3, Args: []int{4}}, nil},
		{api.Instr{Op: api.Const, A: 1, B: 2, C: 3, K: 5}, nil},
	} {
		if l := Uses(c.i); !slices.Equal(l, c.want) {
			t.Errorf("Uses(%+v) = %v, not %v", c.i, l, c.want)
		}
	}
}

// P7.2
func TestSetsOfCalls(t *testing.T) {
	for _, o := range []api.Op{api.CallStatic, api.Call, api.CallIface} {
		for _, c := range []struct {
			desc string
			sets bool
		}{
			{"()I", true}, {"(I)LA;", true}, {"()[I", true}, {"()LV;", true},
			{"()V", false}, {"(I)V", false}, {"", false}, {"I", false}, {"()", false}, {"(V)I", false},
			{"(IIIIIIIII)I", false}, {"()L" + strings.Repeat("x", 62) + ";", false},
		} {
			want := 0
			if c.sets {
				want = 3
			}
			if a, ok := Sets(api.Instr{Op: o, A: 3, Desc: c.desc}); a != want || ok != c.sets {
				t.Errorf("Sets of %d with %q: %d, %v", o, c.desc, a, ok)
			}
		}
	}
	if a, ok := Sets(api.Instr{Op: api.Const}); a != 0 || !ok {
		t.Errorf("Sets of register 0: %d, %v", a, ok)
	}
	if a, ok := Sets(api.Instr{Op: api.Move, A: -4, Desc: "()V"}); a != -4 || !ok {
		t.Errorf("Sets of what does not fit: %d, %v", a, ok)
	}
}

// P7.2
func TestFallsAndIsCallAsWritten(t *testing.T) {
	for _, r := range rows() {
		if Falls(r.i.Op) != r.falls {
			t.Errorf("Falls(%d) = %v", r.i.Op, Falls(r.i.Op))
		}
		if want := r.i.Op == api.CallStatic || r.i.Op == api.Call || r.i.Op == api.CallIface; IsCall(r.i.Op) != want {
			t.Errorf("IsCall(%d) = %v", r.i.Op, IsCall(r.i.Op))
		}
	}
	for _, o := range noOps() {
		if Falls(o) || IsCall(o) {
			t.Errorf("%d: Falls %v, IsCall %v", o, Falls(o), IsCall(o))
		}
	}
}

// P7.2
func TestTargetAsWritten(t *testing.T) {
	for _, r := range rows() {
		at, ok := Target(r.i)
		if want := r.target != api.None; ok != want || at != max(r.target, 0) {
			t.Errorf("Target(%+v) = %d, %v, not %d", r.i, at, ok, r.target)
		}
		i := r.i
		i.K = 7
		if at, ok := Target(i); ok != (r.target != api.None) || ok && at != 7 || !ok && at != 0 {
			t.Errorf("Target(%+v) = %d, %v", i, at, ok)
		}
	}
	for _, o := range []api.Op{api.Jump, api.Branch, api.BranchNil} {
		for _, k := range []int64{0, 1, 255, 256} {
			if at, ok := Target(api.Instr{Op: o, K: k}); at != int(k) || !ok {
				t.Errorf("Target of %d to %d: %d, %v", o, k, at, ok)
			}
		}
		for _, k := range []int64{-1, 257, 1 << 32, math.MinInt64, math.MaxInt64} {
			if at, ok := Target(api.Instr{Op: o, K: k}); at != 0 || ok {
				t.Errorf("Target of %d to %d: %d, %v", o, k, at, ok)
			}
		}
	}
	for _, o := range noOps() {
		if at, ok := Target(api.Instr{Op: o, K: 3}); at != 0 || ok {
			t.Errorf("Target of %d: %d, %v", o, at, ok)
		}
	}
}

// P7.2
func TestSameAsWritten(t *testing.T) {
	whole := func() api.Instr {
		return api.Instr{Op: api.Call, A: 2, B: 3, C: 4, K: 5, Class: "A", Name: "m", Desc: "(I)V", Args: []int{6, 7}}
	}
	if !Same(whole(), whole()) || !Same(api.Instr{}, api.Instr{}) {
		t.Error("what is alike")
	}
	others := []func(i *api.Instr){
		func(i *api.Instr) { i.Op = api.CallIface },
		func(i *api.Instr) { i.Op = -1 },
		func(i *api.Instr) { i.Args = nil },
		func(i *api.Instr) { i.Args = []int{6} },
		func(i *api.Instr) { i.Args = []int{7, 6} },
		func(i *api.Instr) { i.Args = []int{6, 8} },
		func(i *api.Instr) { i.Args = []int{6, 7, 7} },
		func(i *api.Instr) { i.K += 1 << 32 },
		func(i *api.Instr) { i.Desc = "(I)I" },
	}
	for _, o := range spares() {
		others = append(others, o.set)
	}
	for at, change := range others {
		other := whole()
		change(&other)
		if Same(whole(), other) || Same(other, whole()) {
			t.Errorf("change %d: %+v", at, other)
		}
		if !Same(other, other) {
			t.Errorf("change %d: not even itself", at)
		}
	}
	// Also what the shape lacks; but an empty list is none.
	if Same(api.Instr{Op: api.Nop}, api.Instr{Op: api.Nop, A: 1}) {
		t.Error("what the shape lacks")
	}
	if !Same(api.Instr{Op: api.Nop}, api.Instr{Op: api.Nop, Args: []int{}}) {
		t.Error("an empty list")
	}
	for x, a := range rows() {
		for y, b := range rows() {
			if Same(a.i, b.i) != (x == y) {
				t.Errorf("%+v and %+v", a.i, b.i)
			}
		}
	}
}

// try is an instruction, and of how many registers and how much code the method is in which it stands.
type try struct {
	i          api.Instr
	regs, code int
}

// tries is instructions that a fixed seed gives, some of which fit.
func tries() []try {
	chance := rand.New(rand.NewSource(1))
	descs := []string{"()V", "()I", "(I)V", "(ILA;)[I", "", "none"}
	one := func() int { return chance.Intn(5) }
	all := rows()
	var l []try
	for range 60000 {
		r := all[chance.Intn(len(all))]
		i := r.i
		i.A, i.B, i.C = min(i.A, one()), min(i.B, one()), min(i.C, one()-1)
		if strings.ContainsAny(r.shape, "ktr") {
			i.K = int64(one())
		}
		if strings.Contains(r.shape, "v") {
			i.Desc, i.Args = descs[chance.Intn(len(descs))], nil
			for range one() {
				i.Args = append(i.Args, one())
			}
		}
		l = append(l, try{i, one() + 1, one()})
	}
	return l
}

// fitting is those of tries that fit.
func fitting(t *testing.T) []try {
	l := slices.DeleteFunc(tries(), func(x try) bool { return Fits(x.i, x.regs, x.code) != api.OK })
	seen := map[api.Op]bool{}
	for _, x := range l {
		seen[x.i.Op] = true
	}
	if len(l) < 10000 || len(seen) != int(api.LastOp) {
		t.Errorf("only %d fit, of %d instructions", len(l), len(seen))
	}
	return l
}

// P7.3
func TestWhatFitsStaysWithinTheMethod(t *testing.T) {
	for _, x := range fitting(t) {
		l := Uses(x.i)
		if a, ok := Sets(x.i); ok {
			l = append(l, a)
		}
		for _, r := range l {
			if r < 0 || r >= x.regs {
				t.Fatalf("%+v fits %d registers", x.i, x.regs)
			}
		}
		at, ok := Target(x.i)
		if at < 0 || ok && at >= x.code {
			t.Fatalf("%+v fits code of %d", x.i, x.code)
		}
		if ok != slices.Contains([]api.Op{api.Jump, api.Branch, api.BranchNil}, x.i.Op) {
			t.Fatalf("%+v fits; that it has a target: %v", x.i, ok)
		}
	}
}

// P7.4
func TestWhatFitsFitsWithMore(t *testing.T) {
	for _, x := range fitting(t) {
		for _, more := range []int{0, 1, 2, 100, 1 << 40} {
			checkFits(t, x.i, x.regs+more, x.code, api.OK)
			checkFits(t, x.i, x.regs, x.code+more, api.OK)
			checkFits(t, x.i, x.regs+more, x.code+more, api.OK)
		}
	}
}

// P7.5
func TestWhatFitsDoesNotWithWhatItsShapeLacks(t *testing.T) {
	for _, x := range fitting(t) {
		for _, o := range spares() {
			if strings.ContainsAny(Shape(x.i.Op), o.letters) {
				continue
			}
			other := x.i
			o.set(&other)
			checkFits(t, other, x.regs, x.code, api.ErrForm)
		}
	}
}

// P3
func TestNothingHandedInIsChanged(t *testing.T) {
	room := []int{4, 3, 2, 99, 99}
	i := api.Instr{Op: api.Call, A: 5, Class: "a/B", Name: "m", Desc: "(II)I", Args: room[:3]}
	Fits(i, regs, code)
	Sets(i)
	Same(i, i)
	l := Uses(i)
	l = append(l, 7)
	l[0] = 7
	if !slices.Equal(room, []int{4, 3, 2, 99, 99}) {
		t.Errorf("the Args are %v", room)
	}
	was := Uses(i)
	room[1] = 8
	if !slices.Equal(was, []int{4, 3, 2}) {
		t.Errorf("what was answered is %v behind a change", was)
	}
}
