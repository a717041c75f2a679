package run

import (
	"math"
	"reflect"
	"slices"
	"strconv"
	"strings"
	"testing"

	"secateur/api"
	"secateur/norm"
	"secateur/sound"
	"secateur/step"
)

// in is an instruction; its registers are A, B and C.
func in(o api.Op, a, b, c int) api.Instr {
	return api.Instr{Op: o, A: a, B: b, C: c}
}

func number(r int, n int64) api.Instr {
	return api.Instr{Op: api.Const, A: r, K: n}
}

func jump(to int64) api.Instr {
	return api.Instr{Op: api.Jump, K: to}
}

func makes(r int, class string) api.Instr {
	return api.Instr{Op: api.New, A: r, Class: class}
}

var end = api.Instr{Op: api.End}

func ref(class, name, desc string) api.MethodRef {
	return api.MethodRef{Class: class, Name: name, Desc: desc}
}

// program is of a piece, if its code is: A begins by main; B below A puts out 20, when it is begun; ask answers 7.
func program(desc string, code ...api.Instr) api.Program {
	next := api.Field{Name: "next", Type: api.Type{Kind: api.Ref, Class: "A"}}
	last := api.Field{Name: "last", Type: api.Type{Kind: api.Ref, Class: "A"}, Static: true}
	return api.Program{
		Classes: []api.Class{
			{Name: "A", Fields: []api.Field{last, next}, Methods: []api.Method{
				{Name: "ask", Desc: "()I", Static: true, Regs: 1, Code: []api.Instr{number(0, 7), in(api.Return, 0, 0, 0)}},
				{Name: "main", Desc: desc, Static: true, Regs: 6, Code: code},
			}},
			{Name: "B", Super: "A", Methods: []api.Method{{Name: "<clinit>", Desc: "()V", Static: true, Regs: 1, Code: []api.Instr{number(0, 20), in(api.Out, 0, 0, 0), end}}}},
		},
		Names: []string{"A", "B", "A.ask", "Z"},
		Entry: ref("A", "main", desc),
	}
}

// Programs that do this and that: each is of a piece.
func programs() map[string]api.Program {
	put := api.Instr{Op: api.Put, B: 0, C: 1, Class: "A", Name: "next"}
	keep := api.Instr{Op: api.PutStatic, C: 0, Class: "A", Name: "last"}
	return map[string]api.Program{
		"ends at once":    program("()V", end),
		"ends with a 5":   program("()I", number(0, 5), in(api.Return, 0, 0, 0)),
		"puts out":        program("()V", number(0, 5), in(api.Out, 0, 0, 0), in(api.In, 1, 0, 0), in(api.Out, 0, 1, 0), end),
		"throws":          program("()V", in(api.In, 0, 0, 0), api.Instr{Op: api.Throw, K: 6}),
		"finds none":      program("()V", in(api.Nil, 0, 0, 0), in(api.Check, 0, 0, 0), end),
		"goes round":      program("()V", in(api.In, 0, 0, 0), in(api.Out, 0, 0, 0), jump(0)),
		"makes and makes": program("()V", in(api.Nil, 1, 0, 0), makes(0, "B"), put, keep, in(api.Move, 1, 0, 0), jump(1)),
		"looks up":        program("()V", in(api.In, 0, 0, 0), in(api.Make, 1, 0, 0), in(api.Ask, 2, 0, 0), in(api.Out, 0, 2, 0), jump(0)),
	}
}

// TestPrograms: what the other tests lean on is of a piece.
func TestPrograms(t *testing.T) {
	for what, p := range programs() {
		if v := sound.Check(p); v != (api.Verdict{}) {
			t.Errorf("%s: %+v", what, v)
		}
	}
}

// behindSteps is a machine behind so many steps.
func behindSteps(p api.Program, names api.Mapping, input []int64, steps int) *step.Machine {
	m := step.New(p, names, input)
	for range steps {
		m.Step()
	}
	return m
}

func check(t *testing.T, what string, got, want any) {
	t.Helper()
	if !reflect.DeepEqual(got, want) {
		t.Errorf("%s: %+v, not %+v", what, got, want)
	}
}

// TestExample: the one of the chapter.
func TestExample(t *testing.T) {
	for what, p := range programs() {
		if r := Plain(p, nil, 0); r.Status != api.Running || r.Steps != 0 || len(r.Events) > 0 {
			t.Errorf("%s: %+v", what, r)
		}
	}
}

// TestRun: P20.1, P20.4, the result behind as many steps as there is fuel, or till it ends.
func TestRun(t *testing.T) {
	input := []int64{0, 1, 2, 3}
	for what, p := range programs() {
		for fuel := range 40 {
			want := behindSteps(p, step.Identity(p), input, fuel).Result()
			got := Run(p, step.Identity(p), input, fuel)
			check(t, what+" "+strconv.Itoa(fuel), got, want)
			check(t, what+" plain "+strconv.Itoa(fuel), Plain(p, input, fuel), want)
			if got.Steps > fuel || got.Steps != fuel && got.Status == api.Running {
				t.Errorf("%s: %d steps with fuel %d", what, got.Steps, fuel)
			}
		}
	}
}

// TestEnds: P20.1, how these end.
func TestEnds(t *testing.T) {
	out := func(l ...int64) []api.Event {
		var some []api.Event
		for _, n := range l {
			some = append(some, api.Event{N: n})
		}
		return some
	}
	for what, want := range map[string]api.Result{
		"ends at once":    {Status: api.Exited, Steps: 1},
		"ends with a 5":   {Status: api.Exited, Code: 5, Steps: 2},
		"puts out":        {Status: api.Exited, Steps: 5, Events: []api.Event{{N: 5}, {In: true, N: 9}, {N: 9}}},
		"throws":          {Status: api.Trapped, Trap: api.TrapThrow, Code: 6, Steps: 2, Events: []api.Event{{In: true, N: 9}}},
		"finds none":      {Status: api.Trapped, Trap: api.TrapNil, Steps: 2},
		"makes and makes": {Status: api.Trapped, Trap: api.TrapHeap, Steps: 1 + 4 + 5*api.MaxHeap + 1, Events: out(20)},
	} {
		r := Plain(programs()[what], []int64{9}, 5000)
		if r.Status != want.Status || r.Code != want.Code || r.Trap != want.Trap || r.Steps != want.Steps || !slices.Equal(r.Events, want.Events) {
			t.Errorf("%s: %+v, not %+v", what, r, want)
		}
	}
}

// TestFuel: P20.1, P20.4, below 0 there is none; above MaxFuel there is so much.
func TestFuel(t *testing.T) {
	p := program("()V", in(api.Nop, 0, 0, 0), jump(0))
	for _, c := range [][2]int{{-1, 0}, {math.MinInt, 0}, {0, 0}, {1, 1}, {2, 2}, {99999, 99999}, {api.MaxFuel, api.MaxFuel}, {api.MaxFuel + 1, api.MaxFuel}, {math.MaxInt, api.MaxFuel}} {
		for what, r := range map[string]api.Result{"run": Run(p, api.Mapping{}, nil, c[0]), "plain": Plain(p, nil, c[0])} {
			if r.Steps != c[1] || r.Status != api.Running {
				t.Errorf("%s: %d steps with fuel %d", what, r.Steps, c[0])
			}
		}
	}
}

// TestMarksFuel: P20.1, likewise of what is held.
func TestMarksFuel(t *testing.T) {
	// An object is made by the last step that there is fuel for, another one by the one behind.
	code := []api.Instr{number(0, api.MaxFuel/2-2), number(1, 1), {Op: api.Arith, A: 0, B: 0, C: 1, K: api.Sub}, {Op: api.Branch, B: 0, K: 2}, in(api.Nop, 0, 0, 0), makes(2, "A"), makes(3, "A"), end}
	p := program("()V", code...)
	if r := Plain(p, nil, api.MaxFuel); len(r.Trace.Made) != 1 {
		t.Fatalf("%+v", r)
	}
	site := api.Site{Method: p.Entry, PC: 5, Class: "A"}
	place := api.Place{Kind: api.InReg, Method: p.Entry, Reg: 2}
	for _, fuel := range []int{api.MaxFuel, api.MaxFuel + 1, math.MaxInt} {
		check(t, "marks", Marks(p, api.Mapping{}, nil, fuel), []api.Held{{Place: place, Site: site}})
	}
	for _, fuel := range []int{api.MaxFuel - 1, 1, 0, -1, math.MinInt} {
		if l := Marks(p, api.Mapping{}, nil, fuel); len(l) > 0 {
			t.Errorf("with fuel %d: %v", fuel, l)
		}
	}
}

// TestNames: P20.1, Run goes by the names that it is given, Plain by the program's own.
func TestNames(t *testing.T) {
	p := program("()V", number(0, 2), in(api.Ask, 1, 0, 0), in(api.Out, 0, 1, 0), end)
	for _, c := range []struct {
		what string
		got  api.Result
		want int64
	}{
		{"its own", Plain(p, nil, 99), 7},
		{"its own, told", Run(p, step.Identity(p), nil, 99), 7},
		{"none", Run(p, api.Mapping{}, nil, 99), 0},
		{"other ones", Run(p, api.Mapping{Classes: []api.Pair{{Old: "A", New: "Z"}}, Methods: []api.Pair{{Old: "ask()I", New: "ask"}}}, nil, 99), 0},
	} {
		if len(c.got.Events) != 1 || c.got.Events[0].N != c.want {
			t.Errorf("%s: %+v", c.what, c.got)
		}
	}
	m := program("()V", number(0, 0), in(api.Make, 1, 0, 0), end)
	if len(Marks(m, step.Identity(m), nil, 99)) != 1 || len(Marks(m, api.Mapping{}, nil, 99)) != 0 {
		t.Errorf("%v", Marks(m, step.Identity(m), nil, 99))
	}
}

// TestMarks: P20.1, what is held ahead of the first step, and behind each, once, in the order in which it came first.
func TestMarks(t *testing.T) {
	input := []int64{0, 1, 2, 3}
	for what, p := range programs() {
		for fuel := range 40 {
			var want []api.Held
			for steps := range fuel + 1 {
				for _, h := range behindSteps(p, step.Identity(p), input, steps).Held() {
					if !slices.Contains(want, h) {
						want = append(want, h)
					}
				}
			}
			if got := Marks(p, step.Identity(p), input, fuel); !slices.Equal(got, want) {
				t.Errorf("%s: with fuel %d: %v, not %v", what, fuel, got, want)
			}
		}
	}
}

// TestMarksOrder: P20.1, what is gone again is told, and what came first stands first.
func TestMarksOrder(t *testing.T) {
	p := program("()V", makes(4, "A"), makes(1, "A"), in(api.Move, 2, 4, 0), in(api.Nil, 4, 0, 0), in(api.Nil, 1, 0, 0), in(api.Nil, 2, 0, 0), makes(0, "A"), in(api.Move, 4, 0, 0), makes(4, "B"), end)
	held := func(r, at int, class string) api.Held {
		return api.Held{Place: api.Place{Kind: api.InReg, Method: p.Entry, Reg: r}, Site: api.Site{Method: p.Entry, PC: at, Class: class}}
	}
	want := []api.Held{held(4, 0, "A"), held(1, 1, "A"), held(2, 0, "A"), held(0, 6, "A"), held(4, 6, "A"), held(4, 8, "B")}
	for _, fuel := range []int{99, 13, 14} {
		check(t, "marks", Marks(p, step.Identity(p), nil, fuel), want)
	}
	check(t, "ahead of the last one", Marks(p, step.Identity(p), nil, 12), want[:5])
	check(t, "the first one", Marks(p, step.Identity(p), nil, 1), want[:1])
}

// TestMarksOfTrapped: P20.1, what is held behind the step that traps is told, too.
func TestMarksOfTrapped(t *testing.T) {
	p := program("()V", makes(4, "A"), api.Instr{Op: api.Throw})
	if l := Marks(p, step.Identity(p), nil, 99); len(l) != 1 {
		t.Errorf("%v", l)
	}
	p.Entry.Name = "z"
	if r := Plain(p, nil, 99); len(Marks(p, step.Identity(p), nil, 99)) != 0 || r.Trap != api.TrapWrong || r.Steps != 0 {
		t.Errorf("%+v", r)
	}
}

// some is results of which no two look alike from outside.
func some() []api.Result {
	return []api.Result{
		{},
		{Status: api.Exited}, {Status: api.Trapped},
		{Code: 1}, {Code: -1}, {Trap: api.TrapNil}, {Trap: api.TrapZero},
		{Status: api.Exited, Code: 1},
		{Events: []api.Event{{N: 1}}}, {Events: []api.Event{{N: 2}}}, {Events: []api.Event{{In: true, N: 1}}}, {Events: []api.Event{{}}}, {Events: []api.Event{{In: true}}},
		{Events: []api.Event{{N: 1}, {N: 2}}}, {Events: []api.Event{{N: 2}, {N: 1}}}, {Events: []api.Event{{N: 1}, {N: 2}, {N: 2}}},
	}
}

// TestAlike: P20.2, P20.5, whether Status, Code, Trap and Events are alike.
func TestAlike(t *testing.T) {
	for i, a := range some() {
		for k, b := range some() {
			if Alike(a, b) != (i == k) {
				t.Errorf("%+v, %+v: %v", a, b, i != k)
			}
		}
		b := a
		b.Steps, b.Trace = 9, api.Trace{Entered: []api.MethodRef{ref("A", "m", "()V")}, Edges: []api.Edge{{}}, Made: []api.Site{{}}, Began: []string{"A"}, Read: []api.FieldRef{{}}, Found: []string{"A"}}
		if b.Events == nil {
			b.Events = []api.Event{}
		}
		if !Alike(a, b) || !Alike(b, a) {
			t.Errorf("%+v, %+v", a, b)
		}
	}
}

// TestAlikeRuns: P20.5, each run is like itself; of both alike, and goes on from one to a third.
func TestAlikeRuns(t *testing.T) {
	var l []api.Result
	for _, p := range programs() {
		for _, fuel := range []int{0, 1, 2, 5, 40} {
			l = append(l, Plain(p, nil, fuel), Plain(p, []int64{1, 2}, fuel))
		}
	}
	alike := 0
	for _, a := range l {
		if !Alike(a, a) {
			t.Errorf("%+v", a)
		}
		for _, b := range l {
			if Alike(a, b) != Alike(b, a) {
				t.Errorf("%+v, %+v", a, b)
			}
			if !Alike(a, b) {
				continue
			}
			alike++
			for _, c := range l {
				if Alike(b, c) && !Alike(a, c) {
					t.Errorf("%+v, %+v, %+v", a, b, c)
				}
			}
		}
	}
	if alike <= len(l) || alike == len(l)*len(l) {
		t.Errorf("%d are alike", alike)
	}
}

// TestOutside: P20.2, whether a name that was found is none of some.
func TestOutside(t *testing.T) {
	for _, c := range []struct {
		found, names string
		want         bool
	}{
		{"", "", false}, {"", "A", false}, {"A", "", true}, {"A", "A", false}, {"A", "B", true}, {"A B", "B A", false}, {"A B", "A", true}, {"A B", "B", true}, {"A", "A B C", false}, {"A B C", "C D A B", false}, {"A B C", "A C", true}, {"A.m", "A m", true}, {"A", "a", true}, {"A", "AA", true},
	} {
		r := api.Result{Trace: api.Trace{Found: strings.Fields(c.found), Began: []string{"Z"}, Entered: []api.MethodRef{{Class: "Z"}}}}
		if got := Outside(r, strings.Fields(c.names)); got != c.want {
			t.Errorf("%q, %q: %v", c.found, c.names, got)
		}
	}
	if !Outside(api.Result{Trace: api.Trace{Found: []string{""}}}, nil) || Outside(api.Result{Trace: api.Trace{Found: []string{""}}}, []string{""}) {
		t.Errorf("an empty name")
	}
}

// TestOutsideOfRuns: P20.2, of what runs found.
func TestOutsideOfRuns(t *testing.T) {
	p := programs()["looks up"]
	for _, c := range []struct {
		input []int64
		names string
		want  bool
	}{{[]int64{0}, "A", false}, {[]int64{0}, "B", true}, {[]int64{1}, "B", false}, {[]int64{2}, "A", true}, {[]int64{2}, "A.ask A", false}, {[]int64{3}, "A", false}, {[]int64{0, 1, 2, 3}, "A B A.ask", false}, {[]int64{0, 1, 2, 3}, "A B", true}} {
		if got := Outside(Plain(p, append(c.input, 3, 3, 3), 12+5*len(c.input)), strings.Fields(c.names)); got != c.want {
			t.Errorf("%v, %q: %v", c.input, c.names, got)
		}
	}
}

func beginning[T comparable](a, b []T) bool {
	return len(a) <= len(b) && slices.Equal(a, b[:len(a)])
}

// TestMoreFuel: P20.3, with more fuel a run goes on where it stood; one that has ended is the same.
func TestMoreFuel(t *testing.T) {
	for what, p := range programs() {
		for _, input := range [][]int64{nil, {0, 1, 2, 3}} {
			was, marks := Plain(p, input, 0), Marks(p, step.Identity(p), input, 0)
			for fuel := 1; fuel < 40; fuel++ {
				is, more := Plain(p, input, fuel), Marks(p, step.Identity(p), input, fuel)
				a, b := was.Trace, is.Trace
				if !beginning(was.Events, is.Events) || !beginning(a.Entered, b.Entered) || !beginning(a.Edges, b.Edges) || !beginning(a.Made, b.Made) || !beginning(a.Began, b.Began) || !beginning(a.Read, b.Read) || !beginning(a.Found, b.Found) || !beginning(marks, more) {
					t.Errorf("%s: %+v behind %+v", what, is, was)
				}
				if was.Status != api.Running && !reflect.DeepEqual(was, is) {
					t.Errorf("%s: %+v, not %+v", what, is, was)
				}
				was, marks = is, more
			}
		}
	}
}

// TestApart: P3, P5, what is handed in stays as it is, and what is answered is the caller's.
func TestApart(t *testing.T) {
	for what, p := range programs() {
		names, input := step.Identity(p), []int64{0, 1, 2, 3}
		was, wasNames := norm.Clone(p), step.Identity(p)
		r, l := Run(p, names, input, 40), Marks(p, names, input, 40)
		again, more := Run(p, names, input, 40), Marks(p, names, input, 40)
		for at := range r.Events {
			r.Events[at].N = 99
		}
		for at := range l {
			l[at] = api.Held{}
		}
		if !reflect.DeepEqual(Run(p, names, input, 40), again) || !slices.Equal(Marks(p, names, input, 40), more) {
			t.Errorf("%s: %+v", what, again)
		}
		if !norm.Same(p, was) || !reflect.DeepEqual(names, wasNames) || !slices.Equal(input, []int64{0, 1, 2, 3}) {
			t.Errorf("%s: %v, %v, %v", what, p, names, input)
		}
		Alike(r, again)
		Outside(r, []string{"A"})
	}
}

// TestNothing: P1, of nothing at all.
func TestNothing(t *testing.T) {
	r := Plain(api.Program{}, nil, 9)
	if r.Trap != api.TrapWrong || r.Steps != 0 || len(Marks(api.Program{}, api.Mapping{}, nil, 9)) > 0 || !Alike(r, Run(api.Program{}, api.Mapping{}, nil, -9)) || Outside(r, nil) {
		t.Errorf("%+v", r)
	}
}
