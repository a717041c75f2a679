package sound

import (
	"reflect"
	"slices"
	"strconv"
	"strings"
	"testing"

	"secateur/api"
	"secateur/hier"
	"secateur/kind"
	"secateur/merge"
	"secateur/norm"
	"secateur/slot"
	"secateur/verify"
)

// typed reads a type's text; some that can't be, too.
func typed(s string) api.Type {
	t, e := kind.Parse(s)
	if e != api.OK {
		return api.Type{Kind: api.Kind(len(s))}
	}
	return t
}

func field(name, text string) api.Field {
	return api.Field{Name: name, Type: typed(text)}
}

func staticField(name, text string) api.Field {
	return api.Field{Name: name, Type: typed(text), Static: true}
}

// What a method may be: with code for objects, abstract, static.
func coded(name, desc string, code ...api.Instr) api.Method {
	return api.Method{Name: name, Desc: desc, Regs: 4, Code: code}
}

func abstract(name, desc string) api.Method {
	return api.Method{Name: name, Desc: desc, Abstract: true}
}

func static(name, desc string, code ...api.Instr) api.Method {
	m := coded(name, desc, code...)
	m.Static = true
	return m
}

var end = api.Instr{Op: api.End}

func iface(name string, ifaces []string, l ...api.Method) api.Class {
	return api.Class{Name: name, Iface: true, Abstract: true, Ifaces: ifaces, Methods: l}
}

func ref(class, name, desc string) api.MethodRef {
	return api.MethodRef{Class: class, Name: name, Desc: desc}
}

// world is of a piece: B below A, C below A, abstract, D alone; A is of I, B of J, which is below I.
func world() api.Program {
	back, number := api.Instr{Op: api.Return, B: 0}, api.Instr{Op: api.Const, A: 0, K: 7}
	none := api.Instr{Op: api.Nil, A: 1}
	return api.Program{
		Classes: []api.Class{
			{Name: "A", Ifaces: []string{"I"}, Fields: []api.Field{field("a", "I"), field("b", "LJ;"), staticField("c", "[LD;"), field("d", "[I")}, Methods: []api.Method{
				static("<clinit>", "()V", api.Instr{Op: api.Nil, A: 0}, api.Instr{Op: api.PutStatic, C: 0, Class: "A", Name: "c"}, end),
				coded("m", "()V", end),
				static("s", "(LD;I)LC;", api.Instr{Op: api.Out, B: 1}, none, api.Instr{Op: api.Return, B: 1}),
				coded("t", "(LB;I)LA;", api.Instr{Op: api.Arith, A: 2, B: 2, C: 2, K: api.Mul}, back),
			}},
			{Name: "B", Super: "A", Ifaces: []string{"J"}, Methods: []api.Method{
				coded("j", "([LC;)V", api.Instr{Op: api.Jump, K: 2}, api.Instr{Op: api.New, A: 0, Class: "D"}, end),
				static("main", "()V", api.Instr{Op: api.New, A: 0, Class: "B"}, none, api.Instr{Op: api.Call, Class: "A", Name: "m", Desc: "()V", Args: []int{0}},
					api.Instr{Op: api.CallIface, Class: "J", Name: "j", Desc: "([LC;)V", Args: []int{0, 1}}, end),
			}},
			{Name: "C", Super: "A", Abstract: true, Methods: []api.Method{abstract("o", "([I)LI;")}},
			{Name: "D", Methods: []api.Method{static("main", "()I", number, back), static("x", "(I)V", end)}},
			iface("I", nil, abstract("m", "()V")),
			iface("J", []string{"I"}, abstract("j", "([LC;)V")),
		},
		Names: []string{"D.main", "Z"},
		Entry: ref("B", "main", "()V"),
	}
}

// class is the class of that name in a program that has it.
func class(p *api.Program, name string) *api.Class {
	return &p.Classes[norm.Class(*p, name)]
}

// method is the first method of that name in a class.
func method(p *api.Program, name, of string) *api.Method {
	c := class(p, name)
	return &c.Methods[slices.IndexFunc(c.Methods, func(m api.Method) bool { return m.Name == of })]
}

// spoilt is what is done to a program, and what it comes to.
type spoilt struct {
	what  string
	spoil func(*api.Program)
	want  api.Verdict
}

func wrong(e api.Errno, class, name, desc string, at int) api.Verdict {
	return api.Verdict{Errno: e, Method: ref(class, name, desc), At: at}
}

func checkAll(t *testing.T, ask func(api.Program) api.Verdict, l []spoilt) {
	t.Helper()
	for _, c := range l {
		p := world()
		c.spoil(&p)
		if v := ask(p); v != c.want {
			t.Errorf("%s: %+v, not %+v", c.what, v, c.want)
		}
	}
}

func nothing(*api.Program) {}

// fieldOf gives a class one field more, of a type, ahead of the others.
func fieldOf(name, text string) func(*api.Program) {
	return func(p *api.Program) {
		c := class(p, name)
		c.Fields = slices.Insert(c.Fields, 0, field("Z", text))
	}
}

// descOf gives a class one method more, of a descriptor, where it stands in order.
func descOf(name, desc string, static bool) func(*api.Program) {
	return func(p *api.Program) {
		c := class(p, name)
		m := api.Method{Name: "Z", Desc: desc, Static: static, Regs: 9, Code: []api.Instr{{Op: api.Throw}}}
		if c.Iface {
			m = abstract("Z", desc)
		}
		c.Methods = append(c.Methods, m)
		*p = norm.Sorted(*p)
	}
}

func then(l ...func(*api.Program)) func(*api.Program) {
	return func(p *api.Program) {
		for _, spoil := range l {
			spoil(p)
		}
	}
}

// strange is how types name classes that are not there.
func strange() []spoilt {
	onlyType := func(p *api.Program) {
		p.Classes = slices.DeleteFunc(p.Classes, func(c api.Class) bool { return c.Name == "C" })
	}
	return []spoilt{
		{"a field of no class", fieldOf("A", "LZ;"), wrong(api.ErrNone, "A", "Z", "", 0)},
		{"a field of an array of no class", fieldOf("A", "[LZ;"), wrong(api.ErrNone, "A", "Z", "", 0)},
		{"a static field", func(p *api.Program) { class(p, "A").Fields[2].Type = typed("LZ;") }, wrong(api.ErrNone, "A", "c", "", 0)},
		{"a field like a method", func(p *api.Program) { class(p, "A").Fields[1].Type = typed("Lm;") }, wrong(api.ErrNone, "A", "b", "", 0)},
		{"a parameter", descOf("D", "(ILZ;)I", true), wrong(api.ErrNone, "D", "Z", "(ILZ;)I", 0)},
		{"an array as a parameter", descOf("D", "([LZ;)V", false), wrong(api.ErrNone, "D", "Z", "([LZ;)V", 0)},
		{"an answer", descOf("D", "(LA;)LAA;", true), wrong(api.ErrNone, "D", "Z", "(LA;)LAA;", 0)},
		{"an array as an answer", descOf("D", "()[La;", false), wrong(api.ErrNone, "D", "Z", "()[La;", 0)},
		{"an interface's", descOf("J", "(LZ;)V", false), wrong(api.ErrNone, "J", "Z", "(LZ;)V", 0)},
		{"an abstract class's", func(p *api.Program) { method(p, "C", "o").Desc = "([I)LZ;" }, wrong(api.ErrNone, "C", "o", "([I)LZ;", 0)},
		{"of two fields the first one", func(p *api.Program) {
			class(p, "A").Fields[0].Type, class(p, "A").Fields[1].Type = typed("LZ;"), typed("LY;")
		}, wrong(api.ErrNone, "A", "a", "", 0)},
		{"a field ahead of a method", then(descOf("A", "(LZ;)V", true), fieldOf("A", "LY;")), wrong(api.ErrNone, "A", "Z", "", 0)},
		{"of two methods the first one", then(descOf("A", "(LZ;)V", true), descOf("A", "(LY;)V", true)), wrong(api.ErrNone, "A", "Z", "(LY;)V", 0)},
		{"a method ahead of another class's field", then(fieldOf("B", "LZ;"), descOf("A", "()LZ;", true)), wrong(api.ErrNone, "A", "Z", "()LZ;", 0)},
		{"of two classes the first one", then(fieldOf("D", "LZ;"), descOf("B", "()LZ;", true)), wrong(api.ErrNone, "B", "Z", "()LZ;", 0)},
		{"a class that is gone", onlyType, wrong(api.ErrNone, "A", "s", "(LD;I)LC;", 0)},
	}
}

// TestTypes: P17.1, the first class that a type names and the program does not have.
func TestTypes(t *testing.T) {
	checkAll(t, Types, strange())
	checkAll(t, Types, []spoilt{
		{"nothing", nothing, api.Verdict{}},
		{"no classes", func(p *api.Program) { p.Classes = nil }, api.Verdict{}},
		{"each type", then(fieldOf("A", "LA;"), fieldOf("A", "[LJ;"), fieldOf("A", "[I"), fieldOf("A", "I"), descOf("A", "(LA;[LD;I[I)[LI;", true), descOf("A", "()V", true), descOf("A", "()I", true)), api.Verdict{}},
		{"no types", then(fieldOf("A", "V"), fieldOf("A", ""), fieldOf("A", "unknown"), descOf("A", "(LZ;", true), descOf("A", "LZ;", true), descOf("A", "", true)), api.Verdict{}},
		{"other names", func(p *api.Program) {
			p.Names, p.Entry, class(p, "B").Super, class(p, "B").Ifaces = []string{"Z"}, ref("Z", "z", "(LZ;)V"), "Z", []string{"Z"}
			method(p, "D", "main").Code = []api.Instr{{Op: api.New, Class: "Z"}, {Op: api.CallStatic, Class: "Z", Name: "z", Desc: "(LZ;)V"}}
		}, api.Verdict{}},
	})
}

// TestTypesAsTheyStand: P17.1, also where classes stand in no order, or several have one name.
func TestTypesAsTheyStand(t *testing.T) {
	p := api.Program{Classes: []api.Class{
		{Name: "B", Fields: []api.Field{field("y", "LA;"), field("x", "[LZ;"), field("a", "LZ;")}},
		{Name: "A", Fields: []api.Field{field("f", "LZ;")}},
		{Name: "A", Methods: []api.Method{static("n", "()LY;", end), static("m", "()LX;", end)}},
	}}
	for _, want := range []api.Verdict{wrong(api.ErrNone, "B", "x", "", 0), wrong(api.ErrNone, "A", "n", "()LY;", 0), wrong(api.ErrNone, "A", "m", "()LX;", 0), {}} {
		if v := Types(p); v != want {
			t.Errorf("%+v, not %+v", v, want)
		}
		more := []string{"Z", "Y", "X", "W"}[len(p.Classes)-3]
		p.Classes = append(p.Classes, api.Class{Name: more})
	}
}

// badEntries is how an entry is none, or can't be.
func badEntries() []spoilt {
	entry := func(class, name, desc string) func(*api.Program) {
		return func(p *api.Program) { p.Entry = ref(class, name, desc) }
	}
	bad := func(what, class, name, desc string, first ...func(*api.Program)) spoilt {
		return spoilt{what, then(append(first, entry(class, name, desc))...), wrong(api.ErrEntry, class, name, desc, 0)}
	}
	ofIface := func(p *api.Program) {
		class(p, "I").Methods = append(class(p, "I").Methods, static("main", "()V", end))
	}
	return []spoilt{
		bad("none", "", "", ""), bad("no class", "Z", "main", "()V"), bad("no name", "B", "mainz", "()V"), bad("another answer", "B", "main", "()I"),
		bad("a class above", "C", "main", "()V"), bad("a class below", "B", "s", "(LD;I)LC;"), bad("for objects", "A", "m", "()V"), bad("abstract", "I", "m", "()V"), bad("abstract, with parameters", "C", "o", "([I)LI;"),
		bad("with a parameter", "D", "x", "(I)V"), bad("with another answer", "A", "s", "(LD;I)LC;"), bad("a beginning", "A", "<clinit>", "()V"), bad("of an interface", "I", "main", "()V", ofIface),
		bad("no descriptor", "D", "x", "z", func(p *api.Program) { method(p, "D", "x").Desc = "z" }), bad("another name", "D", "x y", "()V", func(p *api.Program) { method(p, "D", "x").Name, method(p, "D", "x").Desc = "x y", "()V" }),
		bad("another class's name", "D D", "main", "()I", func(p *api.Program) { class(p, "D").Name = "D D" }), bad("without a class's name", "", "main", "()I", func(p *api.Program) { class(p, "D").Name = "" }),
		bad("an answer of a class", "D", "x", "()LA;", func(p *api.Program) { method(p, "D", "x").Desc = "()LA;" }),
	}
}

// entryOf asks Entry as the others are asked.
func entryOf(p api.Program) api.Verdict {
	if e := Entry(p); e != api.OK {
		return api.Verdict{Errno: e, Method: p.Entry}
	}
	return api.Verdict{}
}

// TestEntry: P17.1, the method by which it begins.
func TestEntry(t *testing.T) {
	checkAll(t, entryOf, badEntries())
	checkAll(t, entryOf, []spoilt{
		{"without an answer", nothing, api.Verdict{}},
		{"with a number", func(p *api.Program) { p.Entry = ref("D", "main", "()I") }, api.Verdict{}},
		{"of an abstract class", func(p *api.Program) {
			class(p, "C").Methods = append(class(p, "C").Methods, static("main", "()V", end))
			p.Entry.Class = "C"
		}, api.Verdict{}},
		{"whatever else", func(p *api.Program) { p.Classes[0], p.Classes[3].Super = api.Class{}, "Z" }, api.Verdict{}},
		{"no classes", func(p *api.Program) { p.Classes = nil }, wrong(api.ErrEntry, "B", "main", "()V", 0)},
		{"of two classes the first one", func(p *api.Program) {
			p.Classes = slices.Insert(p.Classes, 0, api.Class{Name: "B"})
		}, wrong(api.ErrEntry, "B", "main", "()V", 0)},
		{"of two classes the second one, an interface", func(p *api.Program) {
			p.Classes = append(p.Classes, api.Class{Name: "B", Iface: true})
		}, api.Verdict{}},
		{"of two methods the first one", func(p *api.Program) {
			class(p, "B").Methods = slices.Insert(class(p, "B").Methods, 0, coded("main", "()V", end))
		}, wrong(api.ErrEntry, "B", "main", "()V", 0)},
	})
}

// TestMethods: P17.1, all methods that are not Abstract, as they stand.
func TestMethods(t *testing.T) {
	want := []api.MethodRef{
		ref("A", "<clinit>", "()V"), ref("A", "m", "()V"), ref("A", "s", "(LD;I)LC;"), ref("A", "t", "(LB;I)LA;"),
		ref("B", "j", "([LC;)V"), ref("B", "main", "()V"), ref("D", "main", "()I"), ref("D", "x", "(I)V"),
	}
	if got := Methods(world()); !slices.Equal(got, want) {
		t.Errorf("%v", got)
	}
	p := api.Program{Classes: []api.Class{
		{Name: "B", Methods: []api.Method{static("y", "()V"), abstract("n", "()V"), coded("x", "z"), {}}}, {Name: "A"}, iface("I", nil, coded("i", "()V")), {Name: "B", Methods: []api.Method{coded("y", "()V")}},
	}}
	want = []api.MethodRef{ref("B", "y", "()V"), ref("B", "x", "z"), ref("B", "", ""), ref("I", "i", "()V"), ref("B", "y", "()V")}
	if got := Methods(p); !slices.Equal(got, want) {
		t.Errorf("%v", got)
	}
	for _, p := range []api.Program{{}, {Classes: []api.Class{{Name: "A"}, iface("I", nil, abstract("m", "()V"))}}} {
		if got := Methods(p); len(got) > 0 {
			t.Errorf("%v", got)
		}
	}
}

// codeOf gives a method other code.
func codeOf(of, name string, code ...api.Instr) func(*api.Program) {
	return func(p *api.Program) { method(p, of, name).Code = code }
}

// steps is how a program is spoilt, step by step: what each step of Check finds.
func steps() [][]spoilt {
	newZ, nop, unset := api.Instr{Op: api.New, Class: "Z"}, api.Instr{Op: api.Nop}, api.Instr{Op: api.Out, B: 3}
	return [][]spoilt{
		{
			{"in no order", func(p *api.Program) { p.Classes[4], p.Classes[5] = p.Classes[5], p.Classes[4] }, api.Verdict{Errno: api.ErrOrder}},
			{"a field that can't be", fieldOf("D", "V"), api.Verdict{Errno: api.ErrForm}},
			{"an instruction that does not fit", codeOf("D", "x", api.Instr{Op: api.Out, B: 4}, end), api.Verdict{Errno: api.ErrForm}},
			{"an entry that can't be", func(p *api.Program) { p.Entry.Desc = "()LA;" }, api.Verdict{Errno: api.ErrForm}},
			{"too many names", func(p *api.Program) { p.Names = make([]string, api.MaxNames+1) }, api.Verdict{Errno: api.ErrLong}},
		}, {
			{"no Super", func(p *api.Program) { class(p, "C").Super = "Z" }, wrong(api.ErrNone, "C", "", "", 0)},
			{"no interface", func(p *api.Program) { class(p, "J").Ifaces = []string{"D"} }, wrong(api.ErrKind, "J", "", "", 0)},
			{"in a ring", func(p *api.Program) { class(p, "A").Super = "B" }, wrong(api.ErrCycle, "A", "", "", 0)},
		}, strange(), {
			{"it lacks what it must have", func(p *api.Program) { class(p, "B").Methods = class(p, "B").Methods[1:] }, wrong(api.ErrNone, "B", "j", "([LC;)V", 0)},
			{"static where one above is not", func(p *api.Program) {
				class(p, "B").Methods = slices.Insert(class(p, "B").Methods, 1, static("m", "()V", end))
				class(p, "B").Methods[1].Name, class(p, "B").Methods[2].Name = "m", "n"
			}, wrong(api.ErrKind, "B", "m", "()V", 0)},
		}, {
			{"no entry", func(p *api.Program) { p.Entry = api.MethodRef{} }, api.Verdict{Errno: api.ErrEntry}},
			{"an entry for objects", func(p *api.Program) { p.Entry = ref("A", "m", "()V") }, wrong(api.ErrEntry, "A", "m", "()V", 0)},
			{"another class's entry", func(p *api.Program) { p.Entry.Class = "D" }, wrong(api.ErrEntry, "D", "main", "()V", 0)},
		}, {
			{"no class", codeOf("D", "x", nop, nop, newZ, end), wrong(api.ErrNone, "D", "x", "(I)V", 2)},
			{"what was never set", codeOf("D", "x", nop, unset, end), wrong(api.ErrKind, "D", "x", "(I)V", 1)},
			{"behind its end", codeOf("A", "<clinit>", nop), wrong(api.ErrShort, "A", "<clinit>", "()V", 0)},
			{"of two methods the first one", then(codeOf("A", "t", nop, nop, unset, nop), codeOf("A", "m", unset, end), codeOf("D", "x", newZ)), wrong(api.ErrKind, "A", "m", "()V", 0)},
			{"of two classes the first one", then(codeOf("D", "main", unset, nop), codeOf("B", "main", nop, nop)), wrong(api.ErrShort, "B", "main", "()V", 1)},
			{"the last one alone", codeOf("D", "x", newZ, end), wrong(api.ErrNone, "D", "x", "(I)V", 0)},
			{"no answer", codeOf("D", "main", end), wrong(api.ErrKind, "D", "main", "()I", 0)},
		},
	}
}

// TestCheck: P17.2, what each step finds, with where it lies.
func TestCheck(t *testing.T) {
	checkAll(t, Check, []spoilt{{"nothing", nothing, api.Verdict{}}})
	for _, l := range steps() {
		checkAll(t, Check, l)
	}
	for what, p := range map[string]api.Program{"nothing at all": {}, "no classes": {Classes: []api.Class{}}} {
		if v := Check(p); v != (api.Verdict{Errno: api.ErrEntry}) {
			t.Errorf("%s: %+v", what, v)
		}
	}
}

// TestCheckOrder: P17.2, of several faults the first step's is told.
func TestCheckOrder(t *testing.T) {
	one := [][2]int{{0, 0}, {1, 0}, {2, 2}, {3, 0}, {4, 2}, {5, 0}}
	for set := range 1 << len(one) {
		var want api.Verdict
		p, what := world(), []string{}
		for at := len(one) - 1; at >= 0; at-- {
			if set>>at&1 == 1 {
				c := steps()[one[at][0]][one[at][1]]
				c.spoil(&p)
				want, what = c.want, append(what, c.what)
			}
		}
		if v := Check(p); v != want {
			t.Errorf("%s: %+v, not %+v", strings.Join(what, ", "), v, want)
		}
	}
}

// linked is the unit of a program that can be linked.
func linked(t *testing.T, p api.Program) api.Unit {
	t.Helper()
	u, e := slot.Link(p)
	if e != api.OK {
		t.Fatalf("it does not link: %d", e)
	}
	return u
}

func checkUnit(t *testing.T, what string, u api.Unit, want api.Verdict) {
	t.Helper()
	if v := Unit(u); v != want {
		t.Errorf("%s: %+v, not %+v", what, v, want)
	}
}

// TestUnit: P17.2, a unit is of a piece with its program, if it has its tables.
func TestUnit(t *testing.T) {
	other := api.Verdict{Errno: api.ErrOrder}
	checkUnit(t, "linked", linked(t, world()), api.Verdict{})
	checkUnit(t, "not linked", api.Unit{Program: world()}, other)
	checkUnit(t, "without tables", api.Unit{Program: world(), Linked: true}, other)
	u := linked(t, world())
	u.Linked = false
	checkUnit(t, "with tables, not linked", u, other)
	u = linked(t, world())
	u.Tables[0].Slots[0].Impl = "B"
	checkUnit(t, "with another table", u, other)
	u = linked(t, world())
	u.Tables = u.Tables[1:]
	checkUnit(t, "without one table", u, other)
	checkUnit(t, "nothing", api.Unit{}, api.Verdict{Errno: api.ErrEntry})
	for _, l := range steps() {
		for _, c := range l {
			p := world()
			c.spoil(&p)
			want := Check(p)
			checkUnit(t, c.what+", not linked", api.Unit{Program: p}, want)
			if u, e := slot.Link(p); e == api.OK {
				checkUnit(t, c.what, u, want)
			}
		}
	}
}

// tall is a program of so many classes one below the other, each with 32 methods that are its own alone.
func tall(classes int) api.Program {
	p := api.Program{Entry: ref("A", "a", "()V")}
	for at := range classes {
		name := string(rune('A' + at))
		c := api.Class{Name: name}
		if at > 0 {
			c.Super = string(rune('A' + at - 1))
		}
		for i := range api.MaxMembers {
			c.Methods = append(c.Methods, coded("m"+name+strconv.Itoa(100+i), "()V", end))
		}
		p.Classes = append(p.Classes, c)
	}
	p.Classes[0].Methods[0] = static("a", "()V", end)
	p.Classes[0].Methods = norm.Sorted(p).Classes[0].Methods
	return p
}

// TestTall: P17.5, a program of a piece that has too many slots to be linked: no unit of it is of a piece.
func TestTall(t *testing.T) {
	for classes, want := range map[int]api.Errno{8: api.OK, 9: api.ErrLong} {
		p := tall(classes)
		if v := Check(p); v != (api.Verdict{}) {
			t.Errorf("%d: %+v", classes, v)
		}
		u, e := slot.Link(p)
		if e != want {
			t.Errorf("%d: %d", classes, e)
		}
		v := Unit(api.Unit{Program: p, Linked: true, Tables: u.Tables})
		if (v == api.Verdict{}) != (want == api.OK) || v.Errno != api.OK && v != (api.Verdict{Errno: api.ErrOrder}) {
			t.Errorf("%d: %+v", classes, v)
		}
	}
}

// TestNothingIsTouched: P3, what is handed in stays as it is, the room behind it, too; what is answered is the caller's.
func TestNothingIsTouched(t *testing.T) {
	roomy := func() api.Program {
		p := world()
		p.Classes = slices.Grow(p.Classes, 3)
		for at := range p.Classes {
			p.Classes[at].Methods = slices.Grow(p.Classes[at].Methods, 3)
		}
		return p
	}
	for _, l := range append(steps(), []spoilt{{"nothing", nothing, api.Verdict{}}}) {
		for _, c := range l {
			p, same := roomy(), roomy()
			c.spoil(&p)
			c.spoil(&same)
			u, _ := slot.Link(p)
			Check(p)
			Types(p)
			Entry(p)
			Unit(api.Unit{Program: p, Linked: true, Tables: u.Tables})
			was := Methods(p)
			kept := slices.Clone(was)
			Methods(p)[0].Name = "other"
			if !slices.Equal(was, kept) {
				t.Errorf("%s: another list is written to", c.what)
			}
			if !reflect.DeepEqual(p, same) || !reflect.DeepEqual(p.Classes[:cap(p.Classes)], same.Classes[:cap(same.Classes)]) {
				t.Errorf("%s: %+v", c.what, p)
			}
			for at, c := range p.Classes {
				if other := same.Classes[at].Methods; !reflect.DeepEqual(c.Methods[:cap(c.Methods)], other[:cap(other)]) {
					t.Errorf("%s: %+v", c.Name, c.Methods)
				}
			}
		}
	}
}

// oneByOne is what is wrong with a program as each part of it tells by itself: without anything wrong nothing.
func oneByOne(p api.Program) []api.Verdict {
	var l []api.Verdict
	add := func(e api.Errno, m api.MethodRef, at int) {
		if e != api.OK {
			l = append(l, api.Verdict{Errno: e, Method: m, At: at})
		}
	}
	add(norm.Right(p), api.MethodRef{}, 0)
	e, name := hier.Check(p)
	add(e, api.MethodRef{Class: name}, 0)
	v := Types(p)
	add(v.Errno, v.Method, v.At)
	e, m := slot.Check(p)
	add(e, m, 0)
	add(Entry(p), p.Entry, 0)
	for _, m := range Methods(p) {
		e, at := verify.Check(p, m)
		add(e, m, at)
	}
	return l
}

// strangers is where fields and descriptors name a class that is not there, told by merge.Missing.
func strangers(p api.Program) []api.Verdict {
	var l []api.Verdict
	for _, c := range p.Classes {
		missing := func(alone api.Class) bool {
			return slices.ContainsFunc(merge.Missing(api.Program{Classes: []api.Class{alone}}), func(name string) bool { return norm.Class(p, name) == api.None })
		}
		for _, f := range c.Fields {
			if missing(api.Class{Fields: []api.Field{f}}) {
				l = append(l, wrong(api.ErrNone, c.Name, f.Name, "", 0))
			}
		}
		for _, m := range c.Methods {
			if missing(api.Class{Methods: []api.Method{{Desc: m.Desc}}}) {
				l = append(l, wrong(api.ErrNone, c.Name, m.Name, m.Desc, 0))
			}
		}
	}
	return l
}

// firstOf is the first one, or nothing.
func firstOf(l []api.Verdict) api.Verdict {
	return append(l, api.Verdict{})[0]
}
