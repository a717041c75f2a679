package step

import (
	"math"
	"reflect"
	"slices"
	"strconv"
	"strings"
	"testing"

	"secateur/api"
	"secateur/kind"
	"secateur/norm"
	"secateur/op"
	"secateur/sound"
)

// by is an instruction with its registers and numbers, in the order of its shape.
func by(o api.Op, l ...int) api.Instr {
	i := api.Instr{Op: o}
	for _, letter := range op.Shape(o) {
		if len(l) == 0 {
			break
		}
		switch letter {
		case 'a':
			i.A = l[0]
		case 'b':
			i.B = l[0]
		case 'c':
			i.C = l[0]
		case 'k', 't', 'r':
			i.K = int64(l[0])
		default:
			continue
		}
		l = l[1:]
	}
	return i
}

// of is an instruction with a class, or with a class and a member of it.
func of(i api.Instr, class string, member ...string) api.Instr {
	i.Class = class
	i.Name = strings.Join(member, "")
	return i
}

// call is a call of a method, told as its class, name and descriptor, with blanks between.
func call(o api.Op, a int, method string, args ...int) api.Instr {
	m := ref(method)
	return api.Instr{Op: o, A: a, Class: m.Class, Name: m.Name, Desc: m.Desc, Args: args}
}

// ref reads a method's class, name and descriptor, with blanks between.
func ref(s string) api.MethodRef {
	l := append(strings.Fields(s), "", "", "")
	return api.MethodRef{Class: l[0], Name: l[1], Desc: l[2]}
}

func fieldRef(class, name string) api.FieldRef {
	return api.FieldRef{Class: class, Name: name}
}

func field(name, text string, static bool) api.Field {
	of, _ := kind.Parse(text)
	return api.Field{Name: name, Type: of, Static: static}
}

func virtual(name, desc string, code ...api.Instr) api.Method {
	return api.Method{Name: name, Desc: desc, Regs: 4, Code: code}
}

func static(name, desc string, code ...api.Instr) api.Method {
	m := virtual(name, desc, code...)
	m.Static = true
	return m
}

func abstract(name, desc string) api.Method {
	return api.Method{Name: name, Desc: desc, Abstract: true}
}

// putsOut is the beginning of a class that puts out a number.
func putsOut(n int) api.Method {
	return static("<clinit>", "()V", by(api.Const, 0, n), by(api.Out, 0), end)
}

// gives is code that answers a number.
func gives(n int) []api.Instr {
	return []api.Instr{by(api.Const, 3, n), by(api.Return, 3)}
}

var end = by(api.End)

// world is of a piece: B below A, C below B, abstract, D below C; A is of I, D of J, which is below I; E is alone. N below M below L below K: of these K, L and N put out 10, 20 and 40, when they are begun.
func world() api.Program {
	return api.Program{
		Classes: []api.Class{
			{Name: "A", Ifaces: []string{"I"}, Fields: []api.Field{field("a", "I", false), field("b", "LA;", false), field("c", "[I", false), field("d", "[LA;", false), field("p", "I", true), field("q", "LA;", true)}, Methods: []api.Method{
				virtual("m", "()I", gives(1)...), static("s", "(II)I", by(api.Arith, 2, 0, 1, api.Sub), by(api.Return, 2)), virtual("t", "(LA;I)I", by(api.Out, 2), of(by(api.Get, 3, 1), "A", "a"), by(api.Return, 3)), virtual("v", "()V", end),
			}},
			{Name: "B", Super: "A", Fields: []api.Field{field("a", "I", false), field("e", "LE;", false)}, Methods: []api.Method{virtual("m", "()I", gives(2)...), static("w", "()V", by(api.Const, 0, 5), by(api.Out, 0), end)}},
			{Name: "C", Super: "B", Abstract: true, Methods: []api.Method{abstract("o", "()I")}},
			{Name: "D", Super: "C", Ifaces: []string{"J"}, Methods: []api.Method{virtual("o", "()I", gives(4)...), virtual("v", "()V", by(api.Const, 0, 6), by(api.Out, 0), end)}},
			{Name: "E", Methods: []api.Method{virtual("m", "()I", gives(5)...), static("same", "(LA;)LA;", by(api.Return, 0))}},
			{Name: "I", Iface: true, Abstract: true, Methods: []api.Method{abstract("m", "()I")}},
			{Name: "J", Iface: true, Abstract: true, Ifaces: []string{"I"}, Methods: []api.Method{abstract("o", "()I")}},
			{Name: "K", Fields: []api.Field{field("x", "I", true), field("y", "I", false)}, Methods: []api.Method{putsOut(10), static("s", "()V", end)}},
			{Name: "L", Super: "K", Fields: []api.Field{field("x", "I", true)}, Methods: []api.Method{putsOut(20), static("ask", "()I", gives(21)...)}},
			{Name: "M", Super: "L", Methods: []api.Method{static("s", "()I", gives(30)...), static("s", "()V", end)}},
			{Name: "Main"},
			{Name: "N", Super: "M", Methods: []api.Method{putsOut(40), static("s", "(I)V", end)}},
		},
	}
}

// with is world with a method of Main by which it begins, and which has eight registers.
func with(desc string, code ...api.Instr) api.Program {
	p := world()
	m := static("main", desc, code...)
	m.Regs = 8
	class(&p, "Main").Methods = []api.Method{m}
	p.Entry = ref("Main main " + desc)
	return p
}

// class is the class of that name in a program that has it.
func class(p *api.Program, name string) *api.Class {
	return &p.Classes[norm.Class(*p, name)]
}

// told is what a run looks like from outside: what it puts out, with a < what comes in, and how it ends: = and its code, ! and its trap (and its code, if it has one), or .. if it goes on.
func told(r api.Result) string {
	var l []string
	for _, e := range r.Events {
		s := strconv.FormatInt(e.N, 10)
		if e.In {
			s = "<" + s
		}
		l = append(l, s)
	}
	code := strconv.FormatInt(r.Code, 10)
	switch {
	case r.Status == api.Running && r.Trap == api.NoTrap && r.Code == 0:
		l = append(l, "..")
	case r.Status == api.Exited && r.Trap == api.NoTrap:
		l = append(l, "="+code)
	case r.Status == api.Trapped && r.Code == 0:
		l = append(l, "!"+strconv.Itoa(int(r.Trap)))
	case r.Status == api.Trapped:
		l = append(l, "!"+strconv.Itoa(int(r.Trap))+":"+code)
	default:
		l = append(l, "?")
	}
	return strings.Join(l, " ")
}

// enough is how many steps the tests' programs do at the most.
const enough = 5000

// ran is a machine behind its last step.
func ran(p api.Program, input ...int64) *Machine {
	return onward(New(p, Identity(p), input))
}

func onward(m *Machine) *Machine {
	for range enough {
		if !m.Step() {
			break
		}
	}
	return m
}

// doing is code, and what it looks like from outside.
type doing struct {
	what string
	code []api.Instr
	want string
}

// checkAll runs each as main, and then checks it; of a program that is of a piece, if sure.
func checkAll(t *testing.T, sure bool, l []doing, input ...int64) {
	t.Helper()
	for _, c := range l {
		p := with("()V", append(c.code, end)...)
		if v := sound.Check(p); sure && v != (api.Verdict{}) {
			t.Errorf("%s: %+v", c.what, v)
		}
		if got := told(ran(p, input...).Result()); got != c.want {
			t.Errorf("%s: %s, not %s", c.what, got, c.want)
		}
	}
}

func checkList[T comparable](t *testing.T, what string, got []T, want ...T) {
	t.Helper()
	if !slices.Equal(got, want) {
		t.Errorf("%s: %v, not %v", what, got, want)
	}
}

func pairs(l ...string) []api.Pair {
	var some []api.Pair
	for at := 0; at+1 < len(l); at += 2 {
		some = append(some, api.Pair{Old: l[at], New: l[at+1]})
	}
	return some
}

// TestIdentity: P19.1, each class by its name, each method by its name and descriptor, once; no fields.
func TestIdentity(t *testing.T) {
	m := Identity(world())
	var own []api.Pair
	for _, name := range []string{"A", "B", "C", "D", "E", "I", "J", "K", "L", "M", "Main", "N"} {
		own = append(own, api.Pair{Old: name, New: name})
	}
	checkList(t, "classes", m.Classes, own...)
	checkList(t, "methods", m.Methods, pairs(
		"<clinit>()V", "<clinit>", "ask()I", "ask", "m()I", "m", "o()I", "o", "s()I", "s", "s()V", "s", "s(I)V", "s", "s(II)I", "s", "same(LA;)LA;", "same", "t(LA;I)I", "t", "v()V", "v", "w()V", "w")...)
	if len(m.Fields) > 0 {
		t.Errorf("fields: %v", m.Fields)
	}
	p := world()
	slices.Reverse(p.Classes)
	for at := range p.Classes {
		slices.Reverse(p.Classes[at].Methods)
	}
	if other := Identity(p); !reflect.DeepEqual(m, other) {
		t.Errorf("the other way round: %v", other)
	}
	p.Classes = append(p.Classes, p.Classes...)
	if other := Identity(p); !reflect.DeepEqual(m, other) {
		t.Errorf("each twice: %v", other)
	}
	if none := Identity(api.Program{}); len(none.Classes)+len(none.Fields)+len(none.Methods) > 0 {
		t.Errorf("of nothing: %v", none)
	}
}

// TestIdentityRises: P19.1, it rises as mappings do, by the old names.
func TestIdentityRises(t *testing.T) {
	p := api.Program{Classes: []api.Class{{Name: "b"}, {Name: "A", Methods: []api.Method{abstract("a", "()V"), abstract("a", "(I)I"), abstract("B", "()V"), abstract("ab", "()V"), abstract("a$", "()V")}}, {Name: "$"}}}
	m := Identity(p)
	for _, l := range [][]api.Pair{m.Classes, m.Methods} {
		if !slices.IsSortedFunc(l, func(a, b api.Pair) int { return strings.Compare(a.Old, b.Old) }) {
			t.Errorf("%v", l)
		}
	}
	checkList(t, "classes", m.Classes, pairs("$", "$", "A", "A", "b", "b")...)
	if len(m.Methods) != 5 {
		t.Errorf("methods: %v", m.Methods)
	}
}

// TestWorld: what the other tests lean on is of a piece.
func TestWorld(t *testing.T) {
	if v := sound.Check(with("()V", end)); v != (api.Verdict{}) {
		t.Errorf("%+v", v)
	}
}

// TestNew: P19.1, ahead of its first step it is at the first place of its entry; its class is begun.
func TestNew(t *testing.T) {
	p := with("()V", by(api.Nop), end)
	m := New(p, Identity(p), nil)
	r := m.Result()
	if told(r) != ".." || r.Steps != 0 || m.Deep() != 1 {
		t.Errorf("%+v, %d", r, m.Deep())
	}
	checkAt(t, "new", m, "Main main ()V", 0)
	checkList(t, "entered", r.Trace.Entered, ref("Main main ()V"))
	checkList(t, "began", r.Trace.Began, "Main")
	if len(r.Events)+len(r.Trace.Edges)+len(r.Trace.Made)+len(r.Trace.Read)+len(r.Trace.Found) > 0 {
		t.Errorf("%+v", r)
	}
}

func checkAt(t *testing.T, what string, m *Machine, method string, place int) {
	t.Helper()
	if got, at := m.At(); got != ref(method) || at != place {
		t.Errorf("%s: %v, %d, not %s, %d", what, got, at, method, place)
	}
}

// TestNewBegins: P19.1, the entry's class is begun, and those above it; these frames are gone through ahead of it.
func TestNewBegins(t *testing.T) {
	p := world()
	class(&p, "M").Methods = []api.Method{static("s", "()V", by(api.Const, 0, 1), by(api.Out, 0), end)}
	p.Entry = ref("M s ()V")
	m := New(p, Identity(p), nil)
	if m.Deep() != 3 || m.Result().Steps != 0 {
		t.Errorf("%d frames, %d steps", m.Deep(), m.Result().Steps)
	}
	checkAt(t, "at first", m, "K <clinit> ()V", 0)
	r := onward(m).Result()
	if told(r) != "10 20 1 =0" || r.Steps != 9 {
		t.Errorf("%s in %d steps", told(r), r.Steps)
	}
	slices.Sort(r.Trace.Began)
	checkList(t, "began", r.Trace.Began, "K", "L", "M")
	checkList(t, "edges", r.Trace.Edges)
}

// TestNewWrong: P19.1, without an entry that is Static it has gone wrong at once.
func TestNewWrong(t *testing.T) {
	spoilt := map[string]func(*api.Program){
		"no class":       func(p *api.Program) { p.Entry.Class = "Z" },
		"no such name":   func(p *api.Program) { p.Entry.Name = "mai" },
		"no such desc":   func(p *api.Program) { p.Entry.Desc = "()I" },
		"not its own":    func(p *api.Program) { p.Entry = ref("L s ()V") },
		"not static":     func(p *api.Program) { p.Entry = ref("A v ()V") },
		"nothing at all": func(p *api.Program) { *p = api.Program{} },
		"no entry":       func(p *api.Program) { p.Entry = api.MethodRef{} },
	}
	for what, spoil := range spoilt {
		p := with("()V", end)
		spoil(&p)
		m := New(p, Identity(p), []int64{1})
		r := m.Result()
		if told(r) != "!9" || r.Steps != 0 || m.Step() || m.Deep() != 0 || len(m.Held()) > 0 {
			t.Errorf("%s: %+v", what, r)
		}
		if !reflect.DeepEqual(m.Result(), r) {
			t.Errorf("%s: %+v behind a step", what, m.Result())
		}
	}
}

// TestNewOfTwo: P19.1, of several of one name the first one counts.
func TestNewOfTwo(t *testing.T) {
	p := with("()V", by(api.Const, 0, 1), by(api.Out, 0), end)
	p.Classes = append(p.Classes, api.Class{Name: "Main", Methods: []api.Method{static("main", "()V", by(api.Throw, 1))}})
	main := class(&p, "Main")
	main.Methods = append(main.Methods, static("main", "()V", by(api.Throw, 2)))
	if got := told(ran(p).Result()); got != "1 =0" {
		t.Errorf("%s", got)
	}
}

// TestNil: a nil machine answers nothing; nor does one that nobody made.
func TestNil(t *testing.T) {
	for what, m := range map[string]*Machine{"nil": nil, "not made": {}} {
		at, place := m.At()
		if m.Step() || m.Deep() != 0 || len(m.Held()) > 0 || at != (api.MethodRef{}) || !reflect.DeepEqual(m.Result(), api.Result{}) {
			t.Errorf("%s: %v, %d", what, m.Result(), place)
		}
		if what == "nil" && place != 0 {
			t.Errorf("%s: %d", what, place)
		}
	}
}

// TestExamples: the two of the chapter.
func TestExamples(t *testing.T) {
	r := ran(with("()I", by(api.Const, 0, 2), by(api.Return, 0))).Result()
	if told(r) != "=2" || r.Steps != 2 {
		t.Errorf("%+v", r)
	}
	p := with("()I", by(api.Const, 0, 0), by(api.Const, 1, 9), by(api.Ask, 1, 0), by(api.Return, 1))
	p.Names = []string{"Z.z"}
	if r = ran(p).Result(); told(r) != "=0" {
		t.Errorf("%+v", r)
	}
}

// TestStep: P19.2, P19.4, a step is one instruction; behind the last one there is none, and what has ended stays as it is.
func TestStep(t *testing.T) {
	for what, c := range map[string]struct {
		code  []api.Instr
		want  string
		steps int
	}{
		"an end":       {[]api.Instr{by(api.Nop), by(api.Const, 0, 3), by(api.Out, 0), by(api.Jump, 4), by(api.End)}, "3 =0", 5},
		"a trap":       {[]api.Instr{by(api.Const, 0, 3), by(api.Out, 0), by(api.Throw, 7), by(api.End)}, "3 !8:7", 3},
		"one that was": {[]api.Instr{by(api.Nil, 0), by(api.Nop), by(api.Check, 0), by(api.End)}, "!2", 3},
	} {
		p := with("()V", c.code...)
		m := New(p, Identity(p), nil)
		for at := range c.steps {
			if r := m.Result(); r.Steps != at || r.Status != api.Running {
				t.Errorf("%s: ahead of %d: %+v", what, at, r)
			}
			if !m.Step() {
				t.Errorf("%s: no step %d", what, at)
			}
		}
		r, deep, held := m.Result(), m.Deep(), m.Held()
		if told(r) != c.want || r.Steps != c.steps {
			t.Errorf("%s: %s in %d steps, not %s in %d", what, told(r), r.Steps, c.want, c.steps)
		}
		for range 3 {
			if m.Step() || !reflect.DeepEqual(m.Result(), r) || m.Deep() != deep || !reflect.DeepEqual(m.Held(), held) {
				t.Errorf("%s: %+v behind the end, not %+v", what, m.Result(), r)
			}
		}
	}
}

// TestAt: P19.3, where the last frame is, step by step.
func TestAt(t *testing.T) {
	p := with("()V", by(api.Const, 0, 1), by(api.Branch, 0, 3), by(api.Nop), call(api.CallStatic, 1, "A s (II)I", 0, 0), by(api.Branch, 1, 0), by(api.End))
	m := New(p, Identity(p), nil)
	for at, c := range []struct {
		method string
		place  int
		deep   int
	}{{"Main main ()V", 0, 1}, {"Main main ()V", 1, 1}, {"Main main ()V", 3, 1}, {"A s (II)I", 0, 2}, {"A s (II)I", 1, 2}, {"Main main ()V", 4, 1}, {"Main main ()V", 5, 1}} {
		checkAt(t, "step "+strconv.Itoa(at), m, c.method, c.place)
		if m.Deep() != c.deep {
			t.Errorf("step %d: %d frames", at, m.Deep())
		}
		if !m.Step() {
			t.Errorf("step %d: none", at)
		}
	}
	if got, _ := m.At(); m.Deep() != 0 || got != (api.MethodRef{}) || m.Result().Status != api.Exited {
		t.Errorf("behind the end: %d frames, %v, %+v", m.Deep(), got, m.Result())
	}
}

// TestApart: P3, P5, what is handed in, and what was answered, is not seen again, and stays as it is.
func TestApart(t *testing.T) {
	p := with("()V", by(api.In, 0), by(api.Out, 0), by(api.Const, 1, 0), by(api.Make, 2, 1), of(by(api.Is, 3, 2), "A"), by(api.Out, 3), call(api.Call, 4, "A m ()I", 2), by(api.Out, 4), of(by(api.GetStatic, 0), "A", "p"), by(api.Out, 0), end)
	p.Names = []string{"A"}
	names, input := Identity(p), append(make([]int64, 0, 9), 5)
	was, wasNames := norm.Clone(p), Identity(p)
	m, other := New(p, names, input), New(p, names, input)
	for m.Step() {
		r, held := m.Result(), m.Held()
		for _, e := range [][]api.Event{r.Events, r.Events[:cap(r.Events)]} {
			for at := range e {
				e[at] = api.Event{N: 99}
			}
		}
		spoil(r.Trace.Entered, ref("Z z ()V"))
		spoil(r.Trace.Edges, api.Edge{PC: 9})
		spoil(r.Trace.Made, api.Site{PC: 9})
		spoil(r.Trace.Began, "Z")
		spoil(r.Trace.Read, fieldRef("Z", "z"))
		spoil(r.Trace.Found, "Z")
		spoil(held, api.Held{})
		if other.Step(); !reflect.DeepEqual(m.Result(), other.Result()) || !reflect.DeepEqual(m.Held(), other.Held()) {
			t.Errorf("%+v, not %+v", m.Result(), other.Result())
		}
	}
	if got := told(m.Result()); got != "<5 5 1 1 0 =0" {
		t.Errorf("%s", got)
	}
	if !norm.Same(p, was) || !reflect.DeepEqual(names, wasNames) || input[0] != 5 {
		t.Errorf("%v, %v, %v", p, names, input)
	}
	checkList(t, "spare room", input[1:9], make([]int64, 8)...)
	m = New(p, names, input)
	p.Names[0], names.Classes[0].New, input[0] = "Z", "Z", 6
	for at := range p.Classes {
		p.Classes[at] = api.Class{Name: "Z"}
	}
	was.Classes[norm.Class(was, "Main")].Methods[0].Code[1] = by(api.Nop)
	if got := told(onward(m).Result()); got != "<5 5 1 1 0 =0" {
		t.Errorf("behind a change: %s", got)
	}
}

// spoil sets all members of a list, and of its spare room.
func spoil[T any](l []T, to T) {
	for at := range l[:cap(l)] {
		l[:cap(l)][at] = to
	}
}

// TestCodeApart: P3, code that is handed in is not seen again.
func TestCodeApart(t *testing.T) {
	p := with("()V", by(api.Const, 0, 1), call(api.CallStatic, 1, "A s (II)I", 0, 0), by(api.Out, 1), end)
	m := New(p, Identity(p), nil)
	main := class(&p, "Main").Methods[0].Code
	main[1].Args[0] = 7
	main[2] = by(api.Throw, 1)
	class(&p, "A").Methods[1].Code[0] = by(api.Throw, 2)
	if got := told(onward(m).Result()); got != "0 =0" {
		t.Errorf("%s", got)
	}
}

// TestReckon: P19.3, what is reckoned.
func TestReckon(t *testing.T) {
	const least, most = math.MinInt64, math.MaxInt64
	for _, c := range [][4]int64{
		{api.Add, 2, 3, 5}, {api.Add, most, 1, least}, {api.Add, least, least, 0}, {api.Sub, 2, 3, -1}, {api.Sub, least, 1, most}, {api.Sub, 0, least, least},
		{api.Mul, -4, 3, -12}, {api.Mul, most, 2, -2}, {api.Mul, least, -1, least}, {api.Mul, 1 << 32, 1 << 32, 0},
		{api.Div, 7, 2, 3}, {api.Div, -7, 2, -3}, {api.Div, 7, -2, -3}, {api.Div, -7, -2, 3}, {api.Div, 0, 5, 0}, {api.Div, 1, 2, 0}, {api.Div, least, -1, least}, {api.Div, least, 1, least}, {api.Div, most, -1, -most},
		{api.Rem, 7, 2, 1}, {api.Rem, -7, 2, -1}, {api.Rem, 7, -2, 1}, {api.Rem, -7, -2, -1}, {api.Rem, 6, 3, 0}, {api.Rem, least, -1, 0}, {api.Rem, least, most, -1},
		{api.And, 12, 10, 8}, {api.And, -1, 6, 6}, {api.Or, 12, 10, 14}, {api.Or, least, 1, least + 1}, {api.Xor, 12, 10, 6}, {api.Xor, -1, -1, 0},
		{api.Less, 1, 2, 1}, {api.Less, 2, 1, 0}, {api.Less, 1, 1, 0}, {api.Less, -1, 0, 1}, {api.Less, least, most, 1}, {api.Less, most, least, 0},
		{api.Equal, 4, 4, 1}, {api.Equal, 4, 5, 0}, {api.Equal, 5, 4, 0}, {api.Equal, 0, 0, 1}, {api.Equal, 0, least, 0},
	} {
		if n, trap := Reckon(c[0], c[1], c[2]); n != c[3] || trap != api.NoTrap {
			t.Errorf("%v: %d, %d", c, n, trap)
		}
	}
	for _, a := range []int64{least, -1, 0, 1, most} {
		for _, o := range []int64{api.Div, api.Rem} {
			if n, trap := Reckon(o, a, 0); n != 0 || trap != api.TrapZero {
				t.Errorf("%d of %d by 0: %d, %d", o, a, n, trap)
			}
		}
		for _, o := range []int64{least, -1, api.LastSum + 1, 256, 1 << 32, most} {
			if n, trap := Reckon(o, a, 0); n != 0 || trap != api.TrapWrong {
				t.Errorf("%d of %d: %d, %d", o, a, n, trap)
			}
			if n, trap := Reckon(o, 3, 2); n != 0 || trap != api.TrapWrong {
				t.Errorf("%d: %d, %d", o, n, trap)
			}
		}
	}
}
