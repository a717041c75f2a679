package verify

import (
	"iter"
	"math"
	"reflect"
	"slices"
	"strings"
	"testing"

	"secateur/api"
	"secateur/op"
)

// fact reads a fact: - i n a are Unset, IsInt, IsNil and AnyRef, [I is IsInts, LA and [LA are of the class A.
func fact(s string) api.Fact {
	switch s {
	case "-":
		return api.Fact{}
	case "i":
		return api.Fact{Kind: api.IsInt}
	case "n":
		return api.Fact{Kind: api.IsNil}
	case "a":
		return api.Fact{Kind: api.AnyRef}
	case "[I":
		return api.Fact{Kind: api.IsInts}
	}
	if class, ok := strings.CutPrefix(s, "[L"); ok {
		return api.Fact{Kind: api.IsRefs, Class: class}
	}
	return api.Fact{Kind: api.IsRef, Class: strings.TrimPrefix(s, "L")}
}

func facts(s string) []api.Fact {
	var l []api.Fact
	for _, field := range strings.Fields(s) {
		l = append(l, fact(field))
	}
	return l
}

// by is an instruction with its registers and numbers, in the order of its shape.
func by(o api.Op, l ...int) api.Instr {
	i := api.Instr{Op: o}
	for _, letter := range op.Shape(o) {
		if len(l) == 0 {
			break
		}
		switch letter {
		case 'a':
			i.A = l[0]
		case 'b':
			i.B = l[0]
		case 'c':
			i.C = l[0]
		case 'k', 't', 'r':
			i.K = int64(l[0])
		default:
			continue
		}
		l = l[1:]
	}
	return i
}

// of is an instruction with a class, or a class and a field.
func of(i api.Instr, class string, field ...string) api.Instr {
	i.Class = class
	i.Name = strings.Join(field, "")
	return i
}

// call is a call of a method, told by its class, name and descriptor.
func call(o api.Op, a int, method [3]string, args ...int) api.Instr {
	return api.Instr{Op: o, A: a, Class: method[0], Name: method[1], Desc: method[2], Args: args}
}

func static(name, desc string, regs int, code ...api.Instr) api.Method {
	return api.Method{Name: name, Desc: desc, Static: true, Regs: regs, Code: code}
}

func virtual(name, desc string, regs int, code ...api.Instr) api.Method {
	return api.Method{Name: name, Desc: desc, Regs: regs, Code: code}
}

func abstract(name, desc string) api.Method {
	return api.Method{Name: name, Desc: desc, Abstract: true}
}

// world is of a piece: B below A, C below A, abstract, D alone; A is of the interface I, B and C are of J, that is below I. B has a static f where A has another one.
func world() api.Program {
	end := api.Instr{Op: api.End}
	a := []api.Field{
		{Name: "f", Type: api.Type{Kind: api.Int}}, {Name: "g", Type: api.Type{Kind: api.Ref, Class: "A"}, Static: true}, {Name: "k", Type: api.Type{Kind: api.Int}, Static: true},
		{Name: "l", Type: api.Type{Kind: api.Refs, Class: "B"}}, {Name: "n", Type: api.Type{Kind: api.Ints}}, {Name: "r", Type: api.Type{Kind: api.Ref, Class: "I"}},
	}
	return api.Program{Classes: []api.Class{
		{Name: "A", Ifaces: []string{"I"}, Fields: a, Methods: []api.Method{
			static("<clinit>", "()V", 0, end), virtual("m", "()V", 1, end), static("of", "(ILA;)LA;", 2, by(api.Return, 1)), virtual("q", "()[I", 2, by(api.Nil, 1), by(api.Return, 1)), static("s", "()V", 0, end), virtual("t", "(I)I", 2, by(api.Return, 1)),
		}},
		{Name: "B", Super: "A", Ifaces: []string{"J"}, Fields: []api.Field{{Name: "f", Type: api.Type{Kind: api.Ref, Class: "B"}, Static: true}}, Methods: []api.Method{virtual("j", "([I)V", 2, end), virtual("m", "()V", 1, end)}},
		{Name: "C", Super: "A", Abstract: true, Ifaces: []string{"J"}, Methods: []api.Method{abstract("o", "()V")}},
		{Name: "D", Methods: []api.Method{virtual("w", "()V", 1, end)}},
		{Name: "I", Iface: true, Abstract: true, Methods: []api.Method{abstract("m", "()V"), abstract("q", "()[I")}},
		{Name: "J", Iface: true, Abstract: true, Ifaces: []string{"I"}, Methods: []api.Method{abstract("j", "([I)V")}},
	}}
}

// with is world with one more method, D's x.
func with(m api.Method) (api.Program, api.MethodRef) {
	p := world()
	m.Name = "x"
	p.Classes[3].Methods = append(p.Classes[3].Methods, m)
	return p, api.MethodRef{Class: "D", Name: "x", Desc: m.Desc}
}

// Methods, told by their class, name and descriptor.
var (
	methodM  = [3]string{"A", "m", "()V"}
	methodS  = [3]string{"A", "s", "()V"}
	methodT  = [3]string{"A", "t", "(I)I"}
	methodOf = [3]string{"A", "of", "(ILA;)LA;"}
	methodJ  = [3]string{"B", "j", "([I)V"}
	ifaceM   = [3]string{"I", "m", "()V"}
	ifaceJ   = [3]string{"J", "j", "([I)V"}
	ifaceQ   = [3]string{"I", "q", "()[I"}
)

// TestNames: P16.1, what is named is there, and as it must be.
func TestNames(t *testing.T) {
	classes, callOf := []api.Op{api.NewRefs, api.Is, api.Cast, api.Init}, []api.Op{api.Call}
	ofObjects, ofClasses := []api.Op{api.Get, api.Put}, []api.Op{api.GetStatic, api.PutStatic}
	callStatic, callIface := []api.Op{api.CallStatic}, []api.Op{api.CallIface}
	for _, c := range []struct {
		ops   []api.Op
		names string // class, name and descriptor
		want  api.Errno
	}{
		{[]api.Op{api.New}, "A", api.OK}, {[]api.Op{api.New}, "D", api.OK}, {[]api.Op{api.New}, "C", api.ErrKind}, {[]api.Op{api.New}, "I", api.ErrKind}, {[]api.Op{api.New}, "Z", api.ErrNone}, {[]api.Op{api.New}, "", api.ErrNone},
		{classes, "A", api.OK}, {classes, "C", api.OK}, {classes, "J", api.OK}, {classes, "Z", api.ErrNone}, {classes, "", api.ErrNone}, {classes, "AA", api.ErrNone},
		{ofObjects, "A f", api.OK}, {ofObjects, "C f", api.OK}, {ofObjects, "B r", api.OK}, {ofObjects, "A g", api.ErrKind}, {ofObjects, "C k", api.ErrKind}, {ofObjects, "B f", api.ErrKind},
		{ofObjects, "A z", api.ErrNone}, {ofObjects, "D f", api.ErrNone}, {ofObjects, "I f", api.ErrNone}, {ofObjects, "Z f", api.ErrNone}, {ofObjects, "A m", api.ErrNone}, {ofObjects, "A", api.ErrNone},
		{ofClasses, "A g", api.OK}, {ofClasses, "C k", api.OK}, {ofClasses, "B f", api.OK}, {ofClasses, "A f", api.ErrKind}, {ofClasses, "C f", api.ErrKind}, {ofClasses, "B l", api.ErrKind},
		{ofClasses, "A z", api.ErrNone}, {ofClasses, "D g", api.ErrNone}, {ofClasses, "Z g", api.ErrNone}, {ofClasses, "A s", api.ErrNone},
		{callStatic, "A s ()V", api.OK}, {callStatic, "B s ()V", api.OK}, {callStatic, "C of (ILA;)LA;", api.OK}, {callStatic, "A of (I)LA;", api.ErrNone}, {callStatic, "A m ()V", api.ErrNone},
		{callStatic, "D s ()V", api.ErrNone}, {callStatic, "I m ()V", api.ErrNone}, {callStatic, "Z s ()V", api.ErrNone}, {callStatic, "A z ()V", api.ErrNone}, {callStatic, "A s", api.ErrNone},
		{callOf, "A m ()V", api.OK}, {callOf, "B t (I)I", api.OK}, {callOf, "C o ()V", api.OK}, {callOf, "C j ([I)V", api.OK}, {callOf, "I m ()V", api.ErrKind}, {callOf, "J m ()V", api.ErrKind},
		{callOf, "A j ([I)V", api.ErrNone}, {callOf, "A s ()V", api.ErrNone}, {callOf, "A m (I)V", api.ErrNone}, {callOf, "I j ([I)V", api.ErrNone}, {callOf, "Z m ()V", api.ErrNone}, {callOf, "A <clinit> ()V", api.ErrNone},
		{callIface, "I m ()V", api.OK}, {callIface, "J m ()V", api.OK}, {callIface, "J j ([I)V", api.OK}, {callIface, "J q ()[I", api.OK}, {callIface, "A m ()V", api.ErrKind}, {callIface, "C j ([I)V", api.ErrKind},
		{callIface, "I j ([I)V", api.ErrNone}, {callIface, "A s ()V", api.ErrNone}, {callIface, "I", api.ErrNone}, {callIface, "Z m ()V", api.ErrNone},
	} {
		l := append(strings.Fields(c.names), "", "", "")
		for _, o := range c.ops {
			i := api.Instr{Op: o, Class: l[0], Name: l[1], Desc: l[2]}
			if got := Names(world(), i); got != c.want {
				t.Errorf("%d of %q: %d, not %d", o, c.names, got, c.want)
			}
			if got := Names(api.Program{}, i); got != api.ErrNone {
				t.Errorf("%d of %q without classes: %d", o, c.names, got)
			}
		}
	}
}

// TestNamesNothing: P16.1, what is no instruction, and those that name nothing, whatever else they have.
func TestNamesNothing(t *testing.T) {
	for _, o := range []api.Op{math.MinInt, -1, api.NoOp, api.LastOp + 1, math.MaxInt} {
		for _, names := range [][3]string{methodM, methodS, {"Z", "z", "z"}, {}} {
			i := api.Instr{Op: o, Class: names[0], Name: names[1], Desc: names[2]}
			if e := Names(world(), i); e != api.ErrForm {
				t.Errorf("%d: %d", o, e)
			}
		}
	}
	for o := api.NoOp + 1; o <= api.LastOp; o++ {
		if strings.ContainsAny(op.Shape(o), "CFM") {
			continue
		}
		i := api.Instr{Op: o, A: -1, B: -1, C: 99, K: -1, Class: "Z", Name: "", Desc: "z", Args: []int{-1}}
		if e := Names(world(), i); e != api.OK {
			t.Errorf("%d: %d", o, e)
		}
		if e := Names(api.Program{}, i); e != api.OK {
			t.Errorf("%d without classes: %d", o, e)
		}
	}
}

// TestNamesOfTwo: P16.1, of several of one name the first ones are there.
func TestNamesOfTwo(t *testing.T) {
	p := api.Program{Classes: []api.Class{
		{Name: "A", Iface: true, Fields: []api.Field{{Name: "f"}, {Name: "f", Static: true}}, Methods: []api.Method{abstract("m", "()V"), static("m", "()V", 0)}},
		{Name: "A", Abstract: true, Methods: []api.Method{static("s", "()V", 0)}},
	}}
	for _, c := range []struct {
		i    api.Instr
		want api.Errno
	}{
		{of(by(api.New), "A"), api.OK}, {of(by(api.Get), "A", "f"), api.OK}, {of(by(api.PutStatic), "A", "f"), api.ErrKind},
		{call(api.CallIface, 0, methodM), api.OK}, {call(api.Call, 0, methodM), api.ErrKind}, {call(api.CallStatic, 0, methodM), api.ErrNone}, {call(api.CallStatic, 0, methodS), api.ErrNone},
	} {
		if e := Names(p, c.i); e != c.want {
			t.Errorf("%v: %d", c.i, e)
		}
	}
	// Nor is a field there for a class and a field without names.
	p.Classes = append(p.Classes, api.Class{Fields: []api.Field{{Static: true}}})
	for _, class := range []string{"A", "Z"} {
		if e := Names(p, of(by(api.GetStatic), class, "z")); e != api.ErrNone {
			t.Errorf("%s: %d", class, e)
		}
	}
}

// TestStart: P16.1, what is known at first.
func TestStart(t *testing.T) {
	p := world()
	check := func(class, name, desc, want string) {
		t.Helper()
		if got, ok := Start(p, api.MethodRef{Class: class, Name: name, Desc: desc}); !ok || !slices.Equal(got, facts(want)) {
			t.Errorf("%s.%s%s: %v, %v, not %s", class, name, desc, got, ok, want)
		}
	}
	refuse := func(class, name, desc string) {
		t.Helper()
		if got, ok := Start(p, api.MethodRef{Class: class, Name: name, Desc: desc}); ok || len(got) > 0 {
			t.Errorf("%s.%s%s: %v, %v", class, name, desc, got, ok)
		}
	}
	check("A", "m", "()V", "LA")
	check("B", "m", "()V", "LB")
	check("A", "t", "(I)I", "LA i")
	check("B", "j", "([I)V", "LB [I")
	check("A", "of", "(ILA;)LA;", "i LA")
	check("A", "s", "()V", "")
	check("A", "<clinit>", "()V", "")
	refuse("C", "o", "()V")
	refuse("I", "m", "()V")
	// What a class inherits it does not have.
	refuse("B", "t", "(I)I")
	refuse("B", "s", "()V")
	refuse("A", "m", "(I)V")
	refuse("A", "z", "()V")
	refuse("Z", "m", "()V")
	refuse("", "", "")
	const all = "(I[ILA;[LA;LZ;[LZ;)V"
	p.Classes[3].Methods = []api.Method{static("x", all, 8), virtual("y", all, 9), static("z", all, 6)}
	check("D", "x", all, "i [I LA [LA LZ [LZ - -")
	check("D", "y", all, "LD i [I LA [LA LZ [LZ - -")
	check("D", "z", all, "i [I LA [LA LZ [LZ")
}

// TestStartRegs: P16.1, a fact for each register, however many the method has: MaxRegs and 1 at most.
func TestStartRegs(t *testing.T) {
	for _, c := range []struct{ regs, want int }{{3, 3}, {2, 2}, {1, 1}, {0, 0}, {-1, 0}, {math.MinInt, 0}, {api.MaxRegs, api.MaxRegs}, {api.MaxRegs + 1, api.MaxRegs + 1}, {api.MaxRegs + 2, api.MaxRegs + 1}, {math.MaxInt, api.MaxRegs + 1}} {
		p, ref := with(virtual("x", "(I)V", c.regs, by(api.End)))
		got, ok := Start(p, ref)
		want := slices.Concat(facts("LD i"), make([]api.Fact, api.MaxRegs+1))[:c.want]
		if !ok || !slices.Equal(got, want) {
			t.Errorf("%d: %v, %v", c.regs, got, ok)
		}
	}
}

// Of the registers that are asked: which facts there are, and which of them may be.
const (
	every  = "- i n a [I [LA [LB [LI [LZ LA LB LC LD LI LJ LZ"
	isSet  = "i n a [I [LA [LB [LI [LZ LA LB LC LD LI LJ LZ"
	number = "i"
	refs   = "n a [I [LA [LB [LI [LZ LA LB LC LD LI LJ LZ"
	arrays = "n [I [LA [LB [LI [LZ"
	ofA    = "n LA LB LC"
	ofB    = "n LB"
	ofC    = "n LC"
	ofD    = "n LD"
	ofI    = "n LA LB LC LI LJ"
	ofJ    = "n LB LC LJ"
	ints   = "n [I"
)

// way is what the registers 0, 1 and 2 may be; empty: whatever they are.
type way [3]string

// asking is an instruction of a method of such a descriptor, and what it asks: one of these ways.
type asking struct {
	desc string
	i    api.Instr
	ways []way
}

// askings is all instructions, with A, B and C (or two Args) in the registers 0, 1 and 2.
func askings() []asking {
	first, second, both := way{1: number}, way{1: refs}, way{1: number, 2: number}
	l := []asking{
		{"()V", by(api.Nop), []way{{}}}, {"()V", by(api.Const, 0, 7), []way{{}}}, {"()V", by(api.Nil, 0), []way{{}}}, {"()V", by(api.Move, 0, 1), []way{{1: isSet}}},
		{"()V", by(api.Arith, 0, 1, 2, api.Sub), []way{both}}, {"()V", by(api.Jump, 0), []way{{}}}, {"()V", by(api.Branch, 1, 0), []way{first}}, {"()V", by(api.BranchNil, 1, 0), []way{second}},
		{"()V", of(by(api.New, 0), "B"), []way{{}}}, {"()V", by(api.NewInts, 0, 1), []way{first}}, {"()V", of(by(api.NewRefs, 0, 1), "C"), []way{first}},
		{"()V", by(api.Len, 0, 1), []way{{1: arrays}}}, {"()V", by(api.Load, 0, 1, 2), []way{{1: arrays, 2: number}}},
		{"()V", by(api.Store, 0, 1, 2), []way{{"[I", number, number}, {"[LA", number, ofA}, {"[LB", number, ofB}, {"[LI", number, ofI}, {"[LZ", number, "n"}, {"n", number, isSet}}},
		{"()V", of(by(api.Get, 0, 1), "A", "r"), []way{{1: ofA}}}, {"()V", of(by(api.Get, 0, 1), "C", "f"), []way{{1: ofC}}},
		{"()V", of(by(api.Put, 1, 2), "A", "f"), []way{{1: ofA, 2: number}}}, {"()V", of(by(api.Put, 1, 2), "C", "r"), []way{{1: ofC, 2: ofI}}}, {"()V", of(by(api.Put, 1, 2), "B", "l"), []way{{1: ofB, 2: "n [LB"}}}, {"()V", of(by(api.Put, 1, 2), "B", "n"), []way{{1: ofB, 2: ints}}},
		{"()V", of(by(api.GetStatic, 0), "B", "f"), []way{{}}}, {"()V", of(by(api.PutStatic, 2), "B", "f"), []way{{2: ofB}}}, {"()V", of(by(api.PutStatic, 2), "C", "f"), nil}, {"()V", of(by(api.PutStatic, 2), "B", "g"), []way{{2: ofA}}}, {"()V", of(by(api.PutStatic, 2), "A", "k"), []way{{2: number}}},
		{"()V", call(api.CallStatic, 0, methodOf, 1, 2), []way{{1: number, 2: ofA}}}, {"()V", call(api.CallStatic, 0, methodOf, 2, 1), []way{{1: ofA, 2: number}}}, {"()V", call(api.CallStatic, 0, methodS), []way{{}}},
		{"()V", call(api.Call, 0, methodM, 1), []way{{1: ofA}}}, {"()V", call(api.Call, 0, methodT, 1, 2), []way{{1: ofA, 2: number}}}, {"()V", call(api.Call, 0, methodJ, 1, 2), []way{{1: ofB, 2: ints}}},
		{"()V", call(api.CallIface, 0, ifaceM, 1), []way{{1: ofI}}}, {"()V", call(api.CallIface, 0, ifaceJ, 1, 2), []way{{1: ofJ, 2: ints}}}, {"()V", call(api.CallIface, 0, ifaceQ, 1), []way{{1: ofI}}}, {"()V", call(api.CallIface, 0, [3]string{"J", "m", "()V"}, 1), []way{{1: ofJ}}},
		{"()V", of(by(api.Is, 0, 1), "D"), []way{second}}, {"()V", of(by(api.Cast, 0, 1), "I"), []way{second}},
		{"()V", by(api.In, 0), []way{{}}}, {"()V", by(api.Out, 1), []way{first}}, {"()V", by(api.Make, 0, 1), []way{first}}, {"()V", by(api.Ask, 0, 1), []way{first}},
		{"()V", by(api.Throw, 3), []way{{}}}, {"()V", by(api.Check, 1), []way{second}}, {"()V", of(by(api.Init), "C"), []way{{}}},
	}
	for _, answer := range [][2]string{{"()I", number}, {"(ILA;)LA;", ofA}, {"()LD;", ofD}, {"()LI;", ofI}, {"()[I", ints}, {"()[LB;", "n [LB"}, {"([I)LZ;", "n"}} {
		l = append(l, asking{answer[0], by(api.Return, 1), []way{{1: answer[1]}}}, asking{answer[0], by(api.End), nil})
	}
	return append(l, asking{"()V", by(api.Return, 1), nil}, asking{"(I)V", by(api.End), []way{{}}}, asking{"", by(api.Return, 1), nil}, asking{"", by(api.End), nil}, asking{"()", by(api.End), nil})
}

// allows tells whether one of the ways is as three registers are.
func (a asking) allows(s []api.Fact) bool {
	return slices.ContainsFunc(a.ways, func(w way) bool {
		for r, may := range w {
			if may != "" && !slices.Contains(facts(may), s[r]) {
				return false
			}
		}
		return true
	})
}

// TestAskings: that they are all instructions there are.
func TestAskings(t *testing.T) {
	for o := api.NoOp + 1; o <= api.LastOp; o++ {
		if !slices.ContainsFunc(askings(), func(a asking) bool { return a.i.Op == o }) {
			t.Errorf("%d", o)
		}
	}
}

// threes yields each three of some facts.
func threes(l []api.Fact) iter.Seq[[]api.Fact] {
	return func(yield func([]api.Fact) bool) {
		for _, a := range l {
			for _, b := range l {
				for _, c := range l {
					if !yield([]api.Fact{a, b, c}) {
						return
					}
				}
			}
		}
	}
}

// TestHolds: P16.2, what each instruction asks, whatever the registers are.
func TestHolds(t *testing.T) {
	p := world()
	for _, a := range askings() {
		ref, wrong := api.MethodRef{Class: "D", Name: "w", Desc: a.desc}, 0
		for s := range threes(facts(every)) {
			if got := Holds(p, ref, a.i, s); got != a.allows(s) && wrong < 3 {
				t.Errorf("%+v of %q: %v: %v", a.i, a.desc, s, got)
				wrong++
			}
		}
	}
}

// fitting is facts with which what is asked holds, if there are some.
func (a asking) fitting() ([]api.Fact, bool) {
	if len(a.ways) == 0 {
		return nil, false
	}
	var l []api.Fact
	for _, may := range a.ways[0] {
		l = append(l, append(facts(may), api.Fact{})[0])
	}
	return l, true
}

// registers is how an instruction's registers are told, each by its letter, or by its place among Args.
func registers(i *api.Instr) map[string]*int {
	l := map[string]*int{}
	for _, letter := range op.Shape(i.Op) {
		switch letter {
		case 'a':
			l["a"] = &i.A
		case 'b':
			l["b"] = &i.B
		case 'c':
			l["c"] = &i.C
		case 'v':
			i.Args = slices.Clone(i.Args)
			for n := range i.Args {
				l[string(rune('0'+n))] = &i.Args[n]
			}
		}
	}
	return l
}

// TestRegisters: P16.2, each register that it has is there; what it does not have does not matter.
func TestRegisters(t *testing.T) {
	p := world()
	for _, a := range askings() {
		s, can := a.fitting()
		if !can {
			continue
		}
		ref := api.MethodRef{Class: "D", Name: "w", Desc: a.desc}
		if !Holds(p, ref, a.i, s) {
			t.Errorf("%+v: %v: does not hold", a.i, s)
		}
		for name := range registers(&a.i) {
			for _, r := range []int{-1, len(s), len(s) + 1, math.MinInt, math.MaxInt} {
				i := a.i
				*registers(&i)[name] = r
				if Holds(p, ref, i, s) {
					t.Errorf("%+v: %v: holds", i, s)
				}
				// Of A that is not set the chapter says so of Holds alone.
				if _, sets := op.Sets(i); name == "a" && !sets && i.Op != api.Store {
					continue
				}
				if l, ok := After(p, i, s); ok || len(l) > 0 {
					t.Errorf("behind %+v: %v: %v", i, s, l)
				}
			}
		}
		i := a.i
		has := op.Shape(i.Op)
		for letter, r := range map[string]*int{"a": &i.A, "b": &i.B, "c": &i.C} {
			if !strings.Contains(has, letter) {
				*r = -7
			}
		}
		if !strings.Contains(has, "v") {
			i.Args = []int{-1, 99}
		}
		if !Holds(p, ref, i, s) {
			t.Errorf("%+v: %v: does not hold", i, s)
		}
		want, is := After(p, a.i, s)
		if l, ok := After(p, i, s); ok != is || !slices.Equal(l, want) {
			t.Errorf("behind %+v: %v: %v, %v", i, s, l, ok)
		}
	}
}

// TestVoidCall: P16.2, A of a call whose answer is Void is a register that it has.
func TestVoidCall(t *testing.T) {
	p, ref := world(), api.MethodRef{}
	for _, c := range []struct {
		a, regs int
		want    bool
	}{{0, 0, false}, {0, 1, true}, {1, 1, false}, {1, 2, true}, {-1, 1, false}} {
		if got := Holds(p, ref, call(api.CallStatic, c.a, methodS), make([]api.Fact, c.regs)); got != c.want {
			t.Errorf("%d of %d: %v", c.a, c.regs, got)
		}
	}
	if Holds(p, ref, call(api.Call, 0, methodM, 0), nil) || !Holds(p, ref, call(api.Call, 0, methodM, 0), facts("LA")) || Holds(p, ref, call(api.Call, 1, methodM, 0), facts("LA")) {
		t.Error("a call of an object")
	}
}

// TestHoldsArgs: P16.2, Args are as many as the descriptor asks, and it is one.
func TestHoldsArgs(t *testing.T) {
	p := world()
	p.Classes[0].Methods = append(p.Classes[0].Methods, static("u", "", 0), static("u", "()", 0), static("u", "(V)V", 0), static("u", "(IIIIIIIII)V", 0), virtual("v", "(", 0))
	l := facts("LB i LB i i i i i i i i")
	for _, c := range []struct {
		i    api.Instr
		want bool
	}{
		{call(api.CallStatic, 0, methodOf, 1, 2), true}, {call(api.CallStatic, 0, methodOf, 1), false}, {call(api.CallStatic, 0, methodOf), false}, {call(api.CallStatic, 0, methodOf, 1, 2, 2), false},
		{call(api.CallStatic, 0, methodS), true}, {call(api.CallStatic, 0, methodS, 0), false},
		{call(api.Call, 0, methodT, 0, 1), true}, {call(api.Call, 0, methodT, 0), false}, {call(api.Call, 0, methodT, 0, 1, 1), false}, {call(api.Call, 0, methodT), false}, {call(api.Call, 0, methodT, 1), false},
		{call(api.CallIface, 0, ifaceM, 0), true}, {call(api.CallIface, 0, ifaceM), false}, {call(api.CallIface, 0, ifaceM, 0, 0), false},
		{call(api.CallStatic, 0, [3]string{"A", "u", ""}), false}, {call(api.CallStatic, 0, [3]string{"A", "u", "()"}), false}, {call(api.CallStatic, 0, [3]string{"A", "u", "(V)V"}, 1), false},
		{call(api.CallStatic, 0, [3]string{"A", "u", "(IIIIIIIII)V"}, 1, 3, 4, 5, 6, 7, 8, 9, 10), false}, {call(api.Call, 0, [3]string{"A", "v", "("}, 0), false},
	} {
		if got := Holds(p, api.MethodRef{}, c.i, l); got != c.want {
			t.Errorf("%+v: %v", c.i, got)
		}
		// What is known behind it does not ask.
		if _, ok := After(p, c.i, l); !ok {
			t.Errorf("nothing behind %+v", c.i)
		}
	}
}

// TestUnnamed: P16.2, what names nothing that is there does not hold, and nothing is known behind it.
func TestUnnamed(t *testing.T) {
	p, l := world(), facts("LA LA i")
	for _, i := range []api.Instr{
		{}, {Op: -1}, {Op: api.LastOp + 1}, of(by(api.New, 0), "C"), of(by(api.New, 0), "I"), of(by(api.New, 0), "Z"), of(by(api.NewRefs, 0, 2), "Z"), of(by(api.Is, 0, 1), "Z"), of(by(api.Cast, 0, 1), "Z"), of(by(api.Init), "Z"),
		of(by(api.Get, 0, 1), "A", "z"), of(by(api.Get, 0, 1), "A", "k"), of(by(api.Put, 1, 2), "A", "k"), of(by(api.GetStatic, 0), "A", "f"), of(by(api.PutStatic, 2), "A", "f"),
		call(api.CallStatic, 0, methodM), call(api.Call, 0, methodS, 0), call(api.Call, 0, ifaceM, 0), call(api.CallIface, 0, methodM, 0),
	} {
		if Holds(p, api.MethodRef{Desc: "()V"}, i, l) {
			t.Errorf("%+v holds", i)
		}
		if behind, ok := After(p, i, l); ok || len(behind) > 0 {
			t.Errorf("behind %+v: %v", i, behind)
		}
	}
}

// TestAfter: P16.2, what is known behind an instruction, also where it does not hold.
func TestAfter(t *testing.T) {
	for _, c := range []struct {
		i             api.Instr
		before, after string // nothing: it goes nowhere
	}{
		{by(api.Nop), "LA i", "LA i"}, {by(api.Const, 1, 5), "LA - i", "LA i i"}, {by(api.Nil, 0), "i i", "n i"}, {by(api.In, 1), "n LA", "n i"},
		{by(api.Move, 0, 1), "i LA", "LA LA"}, {by(api.Move, 0, 1), "i -", "- -"}, {by(api.Move, 1, 1), "i n", "i n"}, {by(api.Move, 1, 0), "[LB i", "[LB [LB"},
		{by(api.Arith, 0, 1, 2, api.Less), "- i i", "i i i"}, {by(api.Arith, 2, 1, 0, api.Add), "- LA n", "- LA i"},
		{by(api.Jump, 3), "LA i", "LA i"}, {by(api.Branch, 0, 3), "LA i", "LA i"}, {by(api.BranchNil, 1, 3), "LA i", "LA i"},
		{of(by(api.New, 1), "B"), "n i", "n LB"}, {by(api.NewInts, 0, 1), "- i", "[I i"}, {by(api.NewInts, 0, 1), "- n", "[I n"}, {of(by(api.NewRefs, 1, 1), "I"), "- i", "- [LI"},
		{by(api.Len, 0, 1), "- [LA", "i [LA"}, {by(api.Len, 1, 1), "- i", "- i"},
		{by(api.Load, 0, 1, 2), "a [I i", "i [I i"}, {by(api.Load, 0, 1, 2), "a [LI i", "LI [LI i"}, {by(api.Load, 0, 1, 2), "a [LZ -", "LZ [LZ -"}, {by(api.Load, 1, 1, 2), "a [I i", "a i i"},
		{by(api.Load, 0, 1, 2), "LA a i", "- a i"}, {by(api.Load, 0, 1, 2), "LA LA i", "- LA i"}, {by(api.Load, 0, 1, 2), "LA - i", "- - i"}, {by(api.Load, 0, 1, 2), "LA i i", "- i i"},
		{by(api.Load, 0, 1, 2), "LA n i", ""}, {by(api.Load, 1, 1, 1), "n n n", ""}, {by(api.Load, 1, 0, 2), "[I n n", "[I i n"},
		{by(api.Store, 0, 1, 2), "[I i i", "[I i i"}, {by(api.Store, 0, 1, 2), "n i LA", "n i LA"}, {by(api.Store, 0, 1, 2), "- - -", "- - -"},
		{of(by(api.Get, 0, 1), "A", "f"), "- LA", "i LA"}, {of(by(api.Get, 0, 1), "B", "r"), "- n", "LI n"}, {of(by(api.Get, 1, 1), "C", "l"), "- LA", "- [LB"}, {of(by(api.Get, 0, 1), "A", "n"), "- i", "[I i"},
		{of(by(api.Put, 0, 1), "A", "f"), "LA i", "LA i"}, {of(by(api.Put, 0, 1), "A", "f"), "- -", "- -"},
		{of(by(api.GetStatic, 1), "B", "f"), "- -", "- LB"}, {of(by(api.GetStatic, 1), "C", "k"), "- -", "- i"}, {of(by(api.GetStatic, 0), "B", "g"), "i -", "LA -"}, {of(by(api.PutStatic, 1), "A", "k"), "n LA", "n LA"},
		{call(api.CallStatic, 0, methodOf, 1, 2), "- i LA", "LA i LA"}, {call(api.CallStatic, 2, methodOf, 0, 0), "- i i", "- i LA"}, {call(api.CallStatic, 0, methodS), "[I i", "[I i"}, {call(api.CallStatic, 1, methodS), "[I i", "[I i"},
		{call(api.Call, 1, methodT, 0, 1), "LA n", "LA i"}, {call(api.Call, 1, methodT, 1, 1), "- -", "- i"}, {call(api.Call, 0, methodM, 0), "LB", "LB"}, {call(api.CallIface, 0, ifaceM, 1), "i n", "i n"}, {call(api.CallIface, 1, ifaceQ, 0), "LJ n", "LJ [I"}, {call(api.CallIface, 0, ifaceQ, 0), "-", "[I"},
		{by(api.Return, 0), "LA i", "LA i"}, {by(api.End), "LA i", "LA i"}, {by(api.Throw, 1), "- i", "- i"},
		{of(by(api.Is, 0, 1), "B"), "LA LA", "i LA"}, {of(by(api.Cast, 0, 1), "B"), "i LA", "LB LA"}, {of(by(api.Cast, 1, 1), "I"), "i n", "i LI"}, {of(by(api.Cast, 0, 1), "D"), "i -", "LD -"},
		{by(api.Out, 0), "LA i", "LA i"}, {by(api.Make, 1, 0), "i i", "i a"}, {by(api.Make, 0, 0), "-", "a"}, {by(api.Ask, 0, 1), "LA i", "i i"}, {by(api.Check, 0), "LA i", "LA i"}, {of(by(api.Init), "I"), "LA i", "LA i"},
	} {
		got, ok := After(world(), c.i, facts(c.before))
		if ok != (c.after != "") || !slices.Equal(got, facts(c.after)) {
			t.Errorf("%+v: %s: %v, %v, not %s", c.i, c.before, got, ok, c.after)
		}
	}
	for _, none := range [][]api.Fact{nil, {}} {
		if got, ok := After(world(), by(api.Nop), none); !ok || len(got) > 0 {
			t.Errorf("without registers: %v, %v", got, ok)
		}
	}
}

// TestAfterOfOddField: P16.2, a field's Type that can't be is none that is known.
func TestAfterOfOddField(t *testing.T) {
	p := api.Program{Classes: []api.Class{{Name: "A", Fields: []api.Field{{Name: "f", Type: api.Type{Kind: api.Void}, Static: true}}}}}
	if got, ok := After(p, of(by(api.GetStatic, 0), "A", "f"), facts("i i")); !ok || !slices.Equal(got, facts("- i")) {
		t.Errorf("%v, %v", got, ok)
	}
	for _, f := range facts(every) {
		if Holds(p, api.MethodRef{}, of(by(api.PutStatic, 0), "A", "f"), []api.Fact{f}) {
			t.Errorf("%v holds", f)
		}
	}
}

// TestNothingIsTouched: P3, what is handed in stays as it is, the room behind it, too; what is answered is the caller's.
func TestNothingIsTouched(t *testing.T) {
	// Behind a branch two places are reached with one state.
	code := []api.Instr{by(api.Branch, 0, 3), by(api.Nop), by(api.Jump, 3), call(api.CallStatic, 1, methodOf, 0, 1), by(api.Branch, 0, 1), by(api.End)}
	build := func() (api.Program, api.MethodRef) { return with(static("x", "(ILA;)V", 4, code...)) }
	p, ref := build()
	room := facts("i LA i i i")
	l := room[:3]
	ask := func() any {
		start, _ := Start(p, ref)
		behind, _ := After(p, by(api.Nop), l)
		other, _ := After(p, by(api.Nil, 0), l)
		states, reached := States(p, ref)
		return [][][]api.Fact{{start, behind, other}, states, {make([]api.Fact, len(reached))}}
	}
	was := ask()
	for _, lists := range ask().([][][]api.Fact) {
		for at, list := range lists {
			kept := slices.Clone(slices.Concat(slices.Delete(slices.Clone(lists), at, at+1)...))
			for i := range list {
				list[i] = fact("LZ")
			}
			_ = append(list, fact("LZ"), fact("LZ"))
			if !slices.Equal(kept, slices.Concat(slices.Delete(slices.Clone(lists), at, at+1)...)) {
				t.Errorf("another list is %d, too", at)
			}
		}
	}
	Names(p, code[3])
	Holds(p, ref, code[3], l)
	Check(p, ref)
	if again := ask(); !reflect.DeepEqual(again, was) {
		t.Errorf("asked again: %v, not %v", again, was)
	}
	if same, _ := build(); !reflect.DeepEqual(p, same) {
		t.Errorf("%+v", p)
	}
	if !slices.Equal(room, facts("i LA i i i")) {
		t.Errorf("%v", room)
	}
}
