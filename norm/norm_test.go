package norm

import (
	"math/rand"
	"reflect"
	"slices"
	"strconv"
	"strings"
	"testing"

	"secateur/api"
)

// long is a name of so many letters.
func long(size int) string {
	return strings.Repeat("x", size)
}

// many is a list of n members, each as its number tells.
func many[T any](n int, one func(i int) T) []T {
	l := make([]T, n)
	for i := range l {
		l[i] = one(i)
	}
	return l
}

// numbered is a name by which members rise.
func numbered(i int) string {
	return "n" + strconv.Itoa(10000+i)
}

// whole is a program that is right, with something of each kind: an abstract class A, B below it, an interface I.
func whole() api.Program {
	return api.Program{
		Classes: []api.Class{
			{
				Name: "A", Abstract: true, Ifaces: []string{"I", "J"},
				Fields: []api.Field{
					{Name: "f", Type: api.Type{Kind: api.Int}},
					{Name: "g", Type: api.Type{Kind: api.Refs, Class: "a/B"}, Static: true},
				},
				Methods: []api.Method{
					{Name: "<clinit>", Desc: "()V", Static: true, Code: []api.Instr{{Op: api.End}}},
					{Name: "m", Desc: "()V", Abstract: true},
					{Name: "m", Desc: "(I)LA;", Regs: 3, Code: []api.Instr{
						{Op: api.Get, A: 2, B: 0, Class: "A", Name: "f"},
						{Op: api.Call, A: 0, Class: "A", Name: "m", Desc: "(I)LA;", Args: []int{0, 1}},
						{Op: api.Branch, B: 2, K: 0},
						{Op: api.Return, B: 0},
					}},
				},
			},
			{
				Name: "B", Super: "A", Ifaces: []string{"J"},
				Fields: []api.Field{{Name: "h", Type: api.Type{Kind: api.Ref, Class: "I"}}},
				Methods: []api.Method{
					{Name: "main", Desc: "()I", Static: true, Regs: 1, Code: []api.Instr{{Op: api.New, A: 0, Class: "B"}, {Op: api.Const, A: 0, K: -3}, {Op: api.Return, B: 0}}},
				},
			},
			{Name: "I", Iface: true, Abstract: true, Ifaces: []string{"J"}, Methods: []api.Method{{Name: "m", Desc: "()V", Abstract: true}}},
		},
		Names: []string{"B", "", "any \xff text", "B"},
		Entry: api.MethodRef{Class: "B", Name: "main", Desc: "()I"},
	}
}

// change is something done to a program, and what Right says then.
type change struct {
	what string
	do   func(p *api.Program)
	want api.Errno
}

func checkChanges(t *testing.T, l []change) {
	t.Helper()
	for _, c := range l {
		p := whole()
		c.do(&p)
		if e := Right(p); e != c.want {
			t.Errorf("%s: %d, not %d", c.what, e, c.want)
		}
	}
}

// method and field are in places of whole's class A; code is the one of "m(I)LA;".
func method(p *api.Program, at int) *api.Method { return &p.Classes[0].Methods[at] }
func field(p *api.Program, at int) *api.Field   { return &p.Classes[0].Fields[at] }
func code(p *api.Program, at int) *api.Instr    { return &p.Classes[0].Methods[2].Code[at] }

// P8.1
func TestWhatIsRight(t *testing.T) {
	if e := Right(api.Program{}); e != api.OK {
		t.Errorf("nothing: %d", e)
	}
	checkChanges(t, []change{
		{"whole", func(p *api.Program) {}, api.OK},
		{"no entry", func(p *api.Program) { p.Entry = api.MethodRef{} }, api.OK},
		{"an entry without an answer", func(p *api.Program) { p.Entry.Desc = "()V" }, api.OK},
		{"an entry that is not there", func(p *api.Program) { p.Entry = api.MethodRef{Class: "none/Such", Name: "$", Desc: "()V"} }, api.OK},
		{"a class without anything", func(p *api.Program) { p.Classes[1] = api.Class{Name: "B"} }, api.OK},
		{"an interface without anything", func(p *api.Program) { p.Classes[2] = api.Class{Name: "I", Iface: true, Abstract: true} }, api.OK},
		{"an abstract class without anything", func(p *api.Program) { p.Classes[2] = api.Class{Name: "I", Abstract: true} }, api.OK},
		{"a Super that is not there", func(p *api.Program) { p.Classes[1].Super = "none/Such" }, api.OK},
		{"Ifaces that are no interfaces", func(p *api.Program) { p.Classes[1].Ifaces = []string{"/", "A", "C"} }, api.OK},
		{"its own interface", func(p *api.Program) { p.Classes[2].Ifaces = []string{"I"} }, api.OK},
		{"a Super that is its interface, too", func(p *api.Program) { p.Classes[1].Ifaces = []string{"A"} }, api.OK},
		{"a long name", func(p *api.Program) { p.Classes[2].Name = long(32) }, api.OK},
		{"a long Super", func(p *api.Program) { p.Classes[1].Super = long(32) }, api.OK},
		{"a long Iface", func(p *api.Program) { p.Classes[1].Ifaces[0] = long(32) }, api.OK},
		{"a long field", func(p *api.Program) { field(p, 1).Name = long(32) }, api.OK},
		{"a field of an array of numbers", func(p *api.Program) { field(p, 1).Type = api.Type{Kind: api.Ints} }, api.OK},
		{"a field and a method of one name", func(p *api.Program) { field(p, 1).Name = "m" }, api.OK},
		{"fewest registers", func(p *api.Program) {
			*method(p, 2) = api.Method{Name: "n", Desc: "(II)V", Regs: 3, Code: []api.Instr{{Op: api.End}}}
		}, api.OK},
		{"fewest registers of a static one", func(p *api.Program) {
			*method(p, 2) = api.Method{Name: "n", Desc: "(II)V", Static: true, Regs: 2, Code: []api.Instr{{Op: api.End}}}
		}, api.OK},
		{"most registers", func(p *api.Program) { method(p, 2).Regs = api.MaxRegs }, api.OK},
		{"most code", func(p *api.Program) {
			method(p, 2).Code = slices.Repeat([]api.Instr{{Op: api.Jump, K: 255}}, api.MaxCode)
		}, api.OK},
		{"registers of a class's beginning", func(p *api.Program) { method(p, 0).Regs = 7 }, api.OK},
		{"code that goes on behind its end", func(p *api.Program) { method(p, 0).Code[0].Op = api.Nop }, api.OK},
		{"names that do not rise", func(p *api.Program) { p.Names = []string{"b", "a", "b", ""} }, api.OK},
	})
}

// P8.1: as many as may be, and one more; ahead of what can't be, and of what does not rise.
func TestWhatIsTooMuch(t *testing.T) {
	name := func(i int) string { return numbered(i) }
	class := func(i int) api.Class { return api.Class{Name: numbered(i)} }
	aField := func(i int) api.Field { return api.Field{Name: numbered(i), Type: api.Type{Kind: api.Int}} }
	aMethod := func(i int) api.Method {
		return api.Method{Name: numbered(i), Desc: "()V", Static: true, Code: []api.Instr{{Op: api.End}}}
	}
	for _, c := range []struct {
		what string
		most int
		do   func(p *api.Program, n int)
	}{
		{"classes", 64, func(p *api.Program, n int) { p.Classes = many(n, class) }},
		{"names", 64, func(p *api.Program, n int) { p.Names = make([]string, n) }},
		{"interfaces", 8, func(p *api.Program, n int) { p.Classes[1].Ifaces = many(n, name) }},
		{"interfaces of the last one", 8, func(p *api.Program, n int) { p.Classes[2].Ifaces = many(n, name) }},
		{"fields", 32, func(p *api.Program, n int) { p.Classes[1].Fields = many(n, aField) }},
		{"methods", 32, func(p *api.Program, n int) { p.Classes[1].Methods = many(n, aMethod) }},
		{"a name's bytes", 64, func(p *api.Program, n int) { p.Names[3] = strings.Repeat("\xff", n) }},
	} {
		set := func(n int) func(p *api.Program) { return func(p *api.Program) { c.do(p, n) } }
		checkChanges(t, []change{
			{c.what + ", as many as may be", set(c.most), api.OK},
			{c.what + ", one more", set(c.most + 1), api.ErrLong},
			{c.what + ", far more", set(5000), api.ErrLong},
			{c.what + ", and an entry that can't be", func(p *api.Program) { c.do(p, c.most+1); p.Entry.Name = "" }, api.ErrLong},
			{c.what + ", in another order", func(p *api.Program) { c.do(p, c.most+1); slices.Reverse(p.Classes) }, api.ErrLong},
		})
	}
}

// P8.1
func TestClassesThatCannotBe(t *testing.T) {
	l := []change{
		{"its own Super", func(p *api.Program) { p.Classes[1].Super = "B" }, api.ErrForm},
		{"an abstract method of a class that is not", func(p *api.Program) { p.Classes[0].Abstract = false }, api.ErrForm},
		{"an interface that is not abstract", func(p *api.Program) { p.Classes[2].Abstract, p.Classes[2].Methods = false, nil }, api.ErrForm},
		{"an interface with a Super", func(p *api.Program) { p.Classes[2].Super = "A" }, api.ErrForm},
		{"an interface with a field", func(p *api.Program) { p.Classes[2].Fields = p.Classes[0].Fields[:1] }, api.ErrForm},
		{"an interface with a static field", func(p *api.Program) { p.Classes[2].Fields = p.Classes[0].Fields[1:] }, api.ErrForm},
		{"an interface with code", func(p *api.Program) { p.Classes[2].Methods = p.Classes[0].Methods[2:] }, api.ErrForm},
		{"an interface with a beginning", func(p *api.Program) { p.Classes[2].Methods = p.Classes[0].Methods[:1] }, api.ErrForm},
		{"an interface with a static method", func(p *api.Program) { p.Classes[2].Methods = p.Classes[1].Methods }, api.ErrForm},
		{"an interface with code behind", func(p *api.Program) {
			p.Classes[2].Methods = append(p.Classes[2].Methods, api.Method{Name: "n", Desc: "()V", Regs: 1, Code: []api.Instr{{Op: api.End}}})
		}, api.ErrForm},
		{"a field's beginning", func(p *api.Program) { field(p, 0).Name = api.InitName }, api.ErrForm},
		{"a field of nothing", func(p *api.Program) { field(p, 0).Type = api.Type{Kind: api.Void} }, api.ErrForm},
		{"a field of no type", func(p *api.Program) { field(p, 0).Type = api.Type{} }, api.ErrForm},
		{"a number of a class", func(p *api.Program) { field(p, 0).Type.Class = "A" }, api.ErrForm},
		{"a reference of no class", func(p *api.Program) { field(p, 1).Type.Class = "" }, api.ErrForm},
		{"a reference of no class's name", func(p *api.Program) { field(p, 1).Type.Class = "a.B" }, api.ErrForm},
		{"what can't be, in another order", func(p *api.Program) { p.Classes[0].Name = ""; slices.Reverse(p.Classes) }, api.ErrForm},
	}
	for _, s := range []string{"", "a.B", "a B", "<clinit>", "LA;", long(33), "A\n", "\xff"} {
		l = append(l, change{"a class " + s, func(p *api.Program) { p.Classes[1].Name = s }, api.ErrForm})
		l = append(l, change{"an interface " + s, func(p *api.Program) { p.Classes[1].Ifaces = []string{s} }, api.ErrForm})
		l = append(l, change{"a second interface " + s, func(p *api.Program) { p.Classes[0].Ifaces[1] = s }, api.ErrForm})
		if s != "" {
			l = append(l, change{"a Super " + s, func(p *api.Program) { p.Classes[1].Super = s }, api.ErrForm})
		}
	}
	for _, s := range []string{"", "a/b", "a.b", "<init>", long(33), "\x00"} {
		l = append(l, change{"a field " + s, func(p *api.Program) { field(p, 1).Name = s }, api.ErrForm})
		l = append(l, change{"a method " + s, func(p *api.Program) { method(p, 2).Name = s }, api.ErrForm})
		l = append(l, change{"an abstract method " + s, func(p *api.Program) { method(p, 1).Name = s }, api.ErrForm})
	}
	checkChanges(t, l)
}

// P8.1
func TestMethodsThatCannotBe(t *testing.T) {
	end := []api.Instr{{Op: api.End}}
	checkChanges(t, []change{
		{"no descriptor", func(p *api.Program) { method(p, 2).Desc = "" }, api.ErrForm},
		{"no descriptor, but a type", func(p *api.Program) { method(p, 2).Desc = "I" }, api.ErrForm},
		{"too many parameters", func(p *api.Program) { method(p, 2).Desc, method(p, 2).Regs = "(IIIIIIIII)V", 32 }, api.ErrForm},
		{"an abstract one without a descriptor", func(p *api.Program) { method(p, 1).Desc = "()" }, api.ErrForm},
		{"too many registers", func(p *api.Program) { method(p, 2).Regs = 33 }, api.ErrForm},
		{"registers below 0", func(p *api.Program) {
			*method(p, 0) = api.Method{Name: "c", Desc: "()V", Static: true, Regs: -1, Code: end}
		}, api.ErrForm},
		{"too few registers", func(p *api.Program) { *method(p, 2) = api.Method{Name: "n", Desc: "(II)V", Regs: 2, Code: end} }, api.ErrForm},
		{"no register of its object", func(p *api.Program) { *method(p, 2) = api.Method{Name: "n", Desc: "()V", Code: end} }, api.ErrForm},
		{"too few of a static one", func(p *api.Program) {
			*method(p, 2) = api.Method{Name: "n", Desc: "(II)V", Static: true, Regs: 1, Code: end}
		}, api.ErrForm},
		{"no code", func(p *api.Program) { method(p, 2).Code = nil }, api.ErrForm},
		{"empty code", func(p *api.Program) { method(p, 2).Code = []api.Instr{} }, api.ErrForm},
		{"too much code", func(p *api.Program) { method(p, 2).Code = slices.Repeat(end, api.MaxCode+1) }, api.ErrForm},
		{"no instruction", func(p *api.Program) { code(p, 3).Op = api.NoOp }, api.ErrForm},
		{"a register that is none", func(p *api.Program) { code(p, 0).B = 3 }, api.ErrForm},
		{"a place that is none", func(p *api.Program) { code(p, 2).K = 4 }, api.ErrForm},
		{"too few Args", func(p *api.Program) { code(p, 1).Args = []int{0} }, api.ErrForm},
		{"what the shape lacks", func(p *api.Program) { code(p, 3).Name = "m" }, api.ErrForm},
		{"an abstract one that is static", func(p *api.Program) { method(p, 1).Static = true }, api.ErrForm},
		{"an abstract beginning", func(p *api.Program) { *method(p, 0) = api.Method{Name: "<clinit>", Desc: "()V", Abstract: true} }, api.ErrForm},
		{"an abstract one with code", func(p *api.Program) { method(p, 1).Code = end }, api.ErrForm},
		{"an abstract one with registers", func(p *api.Program) { method(p, 1).Regs = 1 }, api.ErrForm},
		{"an abstract one with registers below 0", func(p *api.Program) { method(p, 1).Regs = -1 }, api.ErrForm},
		{"a beginning that is not static", func(p *api.Program) { method(p, 0).Static, method(p, 0).Regs = false, 1 }, api.ErrForm},
		{"a beginning with an answer", func(p *api.Program) { method(p, 0).Desc = "()I" }, api.ErrForm},
		{"a beginning with a parameter", func(p *api.Program) { method(p, 0).Desc, method(p, 0).Regs = "(I)V", 1 }, api.ErrForm},
		{"one that can't be, among those of the last class", func(p *api.Program) { p.Classes[2].Methods[0].Regs = 1 }, api.ErrForm},
	})
}

// P8.1
func TestEntriesThatCannotBe(t *testing.T) {
	var l []change
	for _, e := range []api.MethodRef{
		{Class: "B"}, {Name: "main"}, {Desc: "()V"}, {Class: "B", Name: "main"}, {Class: "B", Desc: "()V"}, {Name: "main", Desc: "()I"},
		{Class: "a.B", Name: "main", Desc: "()I"}, {Class: long(33), Name: "main", Desc: "()I"},
		{Class: "B", Name: "a/main", Desc: "()I"}, {Class: "B", Name: "<clinit>", Desc: "()V"}, {Class: "B", Name: long(33), Desc: "()V"},
		{Class: "B", Name: "main", Desc: "(I)V"}, {Class: "B", Name: "main", Desc: "()LB;"}, {Class: "B", Name: "main", Desc: "()[I"}, {Class: "B", Name: "main", Desc: "()V "},
	} {
		l = append(l, change{"the entry " + e.Class + "." + e.Name + e.Desc, func(p *api.Program) { p.Entry = e }, api.ErrForm})
		l = append(l, change{"the entry of another order " + e.Class + "." + e.Name + e.Desc, func(p *api.Program) { p.Entry = e; slices.Reverse(p.Classes) }, api.ErrForm})
	}
	checkChanges(t, l)
}

// disorders is what is right, but not in order: out of the order, or twice.
func disorders() []change {
	return []change{
		{"classes", func(p *api.Program) { slices.Reverse(p.Classes) }, api.ErrOrder},
		{"the last two classes", func(p *api.Program) { slices.Reverse(p.Classes[1:]) }, api.ErrOrder},
		{"a class twice", func(p *api.Program) { p.Classes[0].Name = "B" }, api.ErrOrder},
		{"classes by their bytes", func(p *api.Program) { p.Classes[0].Name = "a" }, api.ErrOrder},
		{"interfaces", func(p *api.Program) { slices.Reverse(p.Classes[0].Ifaces) }, api.ErrOrder},
		{"an interface twice", func(p *api.Program) { p.Classes[0].Ifaces[0] = "J" }, api.ErrOrder},
		{"interfaces of the last class", func(p *api.Program) { p.Classes[2].Ifaces = []string{"K", "J"} }, api.ErrOrder},
		{"fields", func(p *api.Program) { slices.Reverse(p.Classes[0].Fields) }, api.ErrOrder},
		{"a field twice, of another type", func(p *api.Program) { field(p, 1).Name = "f" }, api.ErrOrder},
		{"methods", func(p *api.Program) { slices.Reverse(p.Classes[0].Methods) }, api.ErrOrder},
		{"methods of one name", func(p *api.Program) { slices.Reverse(p.Classes[0].Methods[1:]) }, api.ErrOrder},
		{"a method twice", func(p *api.Program) { p.Classes[0].Methods[1] = p.Classes[0].Methods[2] }, api.ErrOrder},
		{"methods by their names ahead of their descriptors", func(p *api.Program) { method(p, 1).Name = "n" }, api.ErrOrder},
	}
}

// P8.1, P8.2
func TestWhatIsNotInOrder(t *testing.T) {
	checkChanges(t, disorders())
	for _, c := range disorders() {
		p := whole()
		if !InOrder(p) {
			t.Fatal("what is right is not in order")
		}
		c.do(&p)
		if InOrder(p) {
			t.Errorf("%s: in order", c.what)
		}
	}
	if !InOrder(api.Program{}) {
		t.Error("nothing is not in order")
	}
	// What can't be may be in order; Names, code and the entry have none.
	if !InOrder(api.Program{
		Classes: []api.Class{{Name: "", Ifaces: []string{"", " "}}, {Name: "\xff", Methods: []api.Method{{}, {Desc: "x"}, {Name: " "}}}},
		Names:   []string{"b", "a", "a"}, Entry: api.MethodRef{Class: "x"},
	}) {
		t.Error("what can't be is not in order")
	}
}

// turned is programs that are not in order: those of disorders, and some that a fixed seed turns about.
func turned() []api.Program {
	var l []api.Program
	for _, c := range disorders() {
		p := whole()
		c.do(&p)
		l = append(l, p)
	}
	chance := rand.New(rand.NewSource(1))
	name := func() string { return string(rune('a' + chance.Intn(4))) }
	for range 500 {
		p := whole()
		p.Classes = many(chance.Intn(8), func(i int) api.Class {
			return api.Class{
				Name: name(), Super: strconv.Itoa(i),
				Ifaces:  many(chance.Intn(4), func(int) string { return name() }),
				Fields:  many(chance.Intn(6), func(i int) api.Field { return api.Field{Name: name(), Type: api.Type{Kind: api.Kind(i)}} }),
				Methods: many(chance.Intn(20), func(i int) api.Method { return api.Method{Name: name(), Desc: name(), Regs: i} }),
			}
		})
		l = append(l, p)
	}
	return l
}

// P8.2
func TestSortedAsWritten(t *testing.T) {
	p := whole()
	slices.Reverse(p.Classes)
	for i := range p.Classes {
		slices.Reverse(p.Classes[i].Ifaces)
		slices.Reverse(p.Classes[i].Fields)
		slices.Reverse(p.Classes[i].Methods)
	}
	if s := Sorted(p); !reflect.DeepEqual(s, whole()) {
		t.Errorf("what is turned about: %+v", s)
	}
	for _, p := range turned() {
		s := Sorted(p)
		if !reflect.DeepEqual(s.Names, p.Names) || s.Entry != p.Entry {
			t.Fatalf("Names %q, entry %v", s.Names, s.Entry)
		}
		checkSorted(t, p.Classes, s.Classes, func(a, b api.Class) bool { return a.Name <= b.Name }, func(a, b api.Class) bool {
			checkSorted(t, a.Ifaces, b.Ifaces, func(a, b string) bool { return a <= b }, func(a, b string) bool { return a == b })
			checkSorted(t, a.Fields, b.Fields, func(a, b api.Field) bool { return a.Name <= b.Name }, func(a, b api.Field) bool { return a == b })
			checkSorted(t, a.Methods, b.Methods, func(a, b api.Method) bool {
				return a.Name < b.Name || a.Name == b.Name && a.Desc <= b.Desc
			}, func(a, b api.Method) bool { return reflect.DeepEqual(a, b) })
			a.Ifaces, a.Fields, a.Methods = b.Ifaces, b.Fields, b.Methods
			return reflect.DeepEqual(a, b)
		})
	}
}

// checkSorted holds a list against the one it came from: its members do not fall, those that neither is above stand as they stood, and none goes.
func checkSorted[T any](t *testing.T, from, to []T, below func(a, b T) bool, same func(a, b T) bool) {
	t.Helper()
	if len(from) != len(to) {
		t.Fatalf("%d become %d", len(from), len(to))
	}
	var want []T
	for _, x := range from {
		// Behind all that are not above it: where it goes if it came later.
		at := len(want)
		for at > 0 && !below(want[at-1], x) {
			at--
		}
		want = slices.Insert(want, at, x)
	}
	for i := range want {
		if !same(want[i], to[i]) {
			t.Fatalf("place %d: %+v, not %+v", i, to[i], want[i])
		}
	}
}

// P8.4
func TestSortedOfSortedIsSorted(t *testing.T) {
	for _, p := range append(turned(), whole(), api.Program{}) {
		once := Sorted(p)
		if twice := Sorted(once); !reflect.DeepEqual(twice, once) {
			t.Fatalf("%+v becomes %+v", once, twice)
		}
		if InOrder(p) && !reflect.DeepEqual(once, p) {
			t.Fatalf("what is in order becomes %+v", once)
		}
	}
}

// differences is each part of a program with another value.
func differences() []change {
	return []change{
		{"a class less", func(p *api.Program) { p.Classes = p.Classes[:2] }, 0},
		{"no classes", func(p *api.Program) { p.Classes = nil }, 0},
		{"another order", func(p *api.Program) { slices.Reverse(p.Classes) }, 0},
		{"a name less", func(p *api.Program) { p.Names = p.Names[:3] }, 0},
		{"another name", func(p *api.Program) { p.Names[2] = "A" }, 0},
		{"names in another order", func(p *api.Program) { p.Names[0], p.Names[1] = p.Names[1], p.Names[0] }, 0},
		{"the entry's class", func(p *api.Program) { p.Entry.Class = "A" }, 0},
		{"the entry's name", func(p *api.Program) { p.Entry.Name = "m" }, 0},
		{"the entry's descriptor", func(p *api.Program) { p.Entry.Desc = "()V" }, 0},
		{"Name", func(p *api.Program) { p.Classes[0].Name = "a" }, 0},
		{"Super", func(p *api.Program) { p.Classes[1].Super = "" }, 0},
		{"Iface", func(p *api.Program) { p.Classes[2].Iface = false }, 0},
		{"Abstract", func(p *api.Program) { p.Classes[0].Abstract = false }, 0},
		{"Ifaces", func(p *api.Program) { p.Classes[0].Ifaces[1] = "K" }, 0},
		{"an interface less", func(p *api.Program) { p.Classes[2].Ifaces = nil }, 0},
		{"a field less", func(p *api.Program) { p.Classes[0].Fields = p.Classes[0].Fields[:1] }, 0},
		{"a field's name", func(p *api.Program) { field(p, 0).Name = "e" }, 0},
		{"a field's kind", func(p *api.Program) { field(p, 0).Type.Kind = api.Ints }, 0},
		{"a field's class", func(p *api.Program) { field(p, 1).Type.Class = "A" }, 0},
		{"a field's Static", func(p *api.Program) { field(p, 1).Static = false }, 0},
		{"a method less", func(p *api.Program) { p.Classes[2].Methods = nil }, 0},
		{"a method's name", func(p *api.Program) { method(p, 2).Name = "n" }, 0},
		{"a method's descriptor", func(p *api.Program) { method(p, 2).Desc = "(I)LB;" }, 0},
		{"a method's Static", func(p *api.Program) { method(p, 2).Static = true }, 0},
		{"a method's Abstract", func(p *api.Program) { method(p, 1).Abstract = false }, 0},
		{"a method's Regs", func(p *api.Program) { method(p, 2).Regs = 4 }, 0},
		{"an instruction less", func(p *api.Program) { method(p, 2).Code = method(p, 2).Code[:3] }, 0},
		{"Op", func(p *api.Program) { code(p, 2).Op = api.BranchNil }, 0},
		{"A", func(p *api.Program) { code(p, 0).A = 1 }, 0},
		{"B", func(p *api.Program) { code(p, 0).B = 1 }, 0},
		{"C", func(p *api.Program) { code(p, 0).C = 1 }, 0},
		{"K", func(p *api.Program) { code(p, 2).K = 1 }, 0},
		{"Class", func(p *api.Program) { code(p, 0).Class = "B" }, 0},
		{"an instruction's name", func(p *api.Program) { code(p, 0).Name = "g" }, 0},
		{"Desc", func(p *api.Program) { code(p, 1).Desc = "(I)LB;" }, 0},
		{"Args", func(p *api.Program) { code(p, 1).Args[1] = 2 }, 0},
		{"an Arg more", func(p *api.Program) { code(p, 1).Args = []int{0, 1, 2} }, 0},
	}
}

// P8.2
func TestSameAsWritten(t *testing.T) {
	if !Same(whole(), whole()) || !Same(api.Program{}, api.Program{}) {
		t.Error("what is alike")
	}
	for _, c := range differences() {
		p := whole()
		c.do(&p)
		if Same(p, whole()) || Same(whole(), p) {
			t.Errorf("%s: the same", c.what)
		}
		if !Same(p, p) {
			t.Errorf("%s: not even itself", c.what)
		}
	}
	// An empty list is none.
	if !Same(api.Program{Classes: []api.Class{{}}}, api.Program{
		Classes: []api.Class{{Ifaces: []string{}, Fields: []api.Field{}, Methods: []api.Method{}}}, Names: []string{},
	}) {
		t.Error("an empty list")
	}
	if !Same(api.Program{Classes: []api.Class{{Methods: []api.Method{{Code: []api.Instr{}}}}}}, api.Program{Classes: []api.Class{{Methods: []api.Method{{}}}}}) {
		t.Error("empty code")
	}
}

// P8.5, P3: what is done to the one is not seen in the other, either way.
func TestCloneAndSortedAreInMemoryOfTheirOwn(t *testing.T) {
	for what, answer := range map[string]func(p api.Program) api.Program{"Clone": Clone, "Sorted": Sorted} {
		if c := answer(api.Program{}); !Same(c, api.Program{}) {
			t.Errorf("%s of nothing: %+v", what, c)
		}
		for _, c := range differences() {
			from := whole()
			to := answer(from)
			if !reflect.DeepEqual(to, whole()) {
				t.Fatalf("%s: %+v", what, to)
			}
			c.do(&to)
			if !reflect.DeepEqual(from, whole()) {
				t.Errorf("%s, %s: seen in what it was made from", what, c.what)
			}
			from = whole()
			to = answer(from)
			c.do(&from)
			if !reflect.DeepEqual(to, whole()) {
				t.Errorf("%s, %s: seen in what was answered", what, c.what)
			}
		}
	}
}

// roomy is a program of which each list has spare room behind its end, and what stands in that room.
func roomy() (api.Program, func() bool) {
	names := []string{"a", "b", "spare"}
	ifaces := []string{"J", "I", "spare"}
	fields := []api.Field{{Name: "g"}, {Name: "f"}, {Name: "spare"}}
	args := []int{1, 2, 99}
	code := []api.Instr{{Op: api.Call, Args: args[:2]}, {Op: api.End}, {Op: 99}}
	methods := []api.Method{{Name: "n"}, {Name: "m", Code: code[:2]}, {Name: "spare"}}
	classes := []api.Class{{Name: "B"}, {Name: "A", Ifaces: ifaces[:2], Fields: fields[:2], Methods: methods[:2]}, {Name: "spare"}}
	return api.Program{Classes: classes[:2], Names: names[:2]}, func() bool {
		return names[2] == "spare" && names[0] == "a" && ifaces[2] == "spare" && ifaces[0] == "J" &&
			fields[2].Name == "spare" && fields[0].Name == "g" && args[2] == 99 && code[2].Op == 99 &&
			methods[2].Name == "spare" && methods[0].Name == "n" && classes[2].Name == "spare" && classes[0].Name == "B"
	}
}

// P3
func TestNothingHandedInIsChanged(t *testing.T) {
	p, stands := roomy()
	was := Clone(p)
	grown := func(p api.Program) {
		p.Names = append(p.Names, "grown")
		p.Classes = append(p.Classes, api.Class{Name: "grown"})
		for i := range p.Classes {
			c := &p.Classes[i]
			c.Ifaces = append(c.Ifaces, "grown")
			c.Fields = append(c.Fields, api.Field{Name: "grown"})
			for j := range c.Methods {
				c.Methods[j].Code = append(c.Methods[j].Code, api.Instr{Op: 77})
				for k := range c.Methods[j].Code {
					c.Methods[j].Code[k].Args = append(c.Methods[j].Code[k].Args, 77)
				}
			}
			c.Methods = append(c.Methods, api.Method{Name: "grown"})
		}
	}
	grown(Clone(p))
	grown(Sorted(p))
	Right(p)
	Same(p, was)
	InOrder(p)
	Class(p, "A")
	l := append(Strings(p), "grown")
	l[0] = "changed"
	if !reflect.DeepEqual(p, was) || !stands() {
		t.Errorf("what was handed in is %+v", p)
	}
	if Strings(p)[0] != "B" {
		t.Errorf("what is answered again: %q", Strings(p))
	}
}

// P8.3
func TestPlacesAsWritten(t *testing.T) {
	p := whole()
	for _, c := range []struct {
		name string
		want int
	}{{"A", 0}, {"B", 1}, {"I", 2}, {"J", api.None}, {"", api.None}, {"a", api.None}, {"A ", api.None}} {
		if at := Class(p, c.name); at != c.want {
			t.Errorf("Class of %q: %d", c.name, at)
		}
	}
	for _, c := range []struct {
		name, desc string
		want       int
	}{
		{"<clinit>", "()V", 0}, {"m", "()V", 1}, {"m", "(I)LA;", 2},
		{"m", "()I", api.None}, {"m", "", api.None}, {"", "()V", api.None}, {"n", "()V", api.None}, {"<clinit>", "(I)LA;", api.None}, {"f", "I", api.None},
	} {
		if at := Method(p.Classes[0], c.name, c.desc); at != c.want {
			t.Errorf("Method of %q, %q: %d", c.name, c.desc, at)
		}
	}
	for _, c := range []struct {
		name string
		want int
	}{{"f", 0}, {"g", 1}, {"h", api.None}, {"", api.None}, {"m", api.None}} {
		if at := Field(p.Classes[0], c.name); at != c.want {
			t.Errorf("Field of %q: %d", c.name, at)
		}
	}
	if Class(api.Program{}, "") != api.None || Method(api.Class{}, "", "") != api.None || Field(api.Class{}, "") != api.None {
		t.Error("a place of nothing")
	}
	// The first one of several, in whatever order they stand.
	c := api.Class{
		Fields:  []api.Field{{Name: "z"}, {Name: "b"}, {Name: "a"}, {Name: "a"}, {Name: ""}},
		Methods: []api.Method{{Name: "z"}, {Name: "a", Desc: "x"}, {Name: "a"}, {Name: "a"}, {}},
	}
	if Field(c, "a") != 2 || Field(c, "") != 4 || Method(c, "a", "") != 2 || Method(c, "", "") != 4 {
		t.Error("places of members that are not in order")
	}
	if Class(api.Program{Classes: []api.Class{{Name: "z"}, {Name: "a"}, {Name: "a"}, {}}}, "a") != 1 {
		t.Error("a place of classes that are not in order")
	}
}

// P8.3
func TestStringsAsWritten(t *testing.T) {
	for _, c := range []struct {
		p    api.Program
		want []string
	}{
		{api.Program{}, nil},
		{whole(), []string{
			"A", "I", "J", "f", "I", "g", "[La/B;", "<clinit>", "()V", "m", "()V", "m", "(I)LA;", "A", "f", "A", "m", "(I)LA;",
			"B", "A", "J", "h", "LI;", "main", "()I", "B",
			"I", "J", "m", "()V",
			"B", "", "any \xff text", "B",
			"B", "main", "()I",
		}},
		// Without entry; a class without a Super; and each instruction as far as it has what.
		{api.Program{Names: []string{"n", "n"}, Classes: []api.Class{{Name: "B"}, {Name: "A", Super: "B", Methods: []api.Method{
			{Name: "y", Desc: "1", Code: []api.Instr{{Class: "c"}, {}, {Name: "n", Desc: "d"}}},
			{Name: "x", Desc: "2", Code: []api.Instr{{Desc: "e"}}},
		}}}}, []string{"B", "A", "B", "y", "1", "c", "n", "d", "x", "2", "e", "n", "n"}},
		// What can't be: a type without a text, names that are empty, an entry of which something is.
		{api.Program{Classes: []api.Class{{Fields: []api.Field{{}, {Name: "f", Type: api.Type{Kind: api.Ref}}}, Ifaces: []string{""}, Methods: []api.Method{{}}}}, Entry: api.MethodRef{Name: "m"}},
			[]string{"", "", "", "", "f", "", "", "", "", "m", ""}},
	} {
		if l := Strings(c.p); !slices.Equal(l, c.want) {
			t.Errorf("Strings: %q, not %q", l, c.want)
		}
	}
}

// P8.6
func TestWhatIsRightIsRightWithOneClassLess(t *testing.T) {
	for n := range 3 {
		p := whole()
		for len(p.Classes) > n {
			for at := range p.Classes {
				less := whole()
				less.Classes = slices.Delete(slices.Clone(p.Classes), at, at+1)
				if e := Right(less); e != api.OK {
					t.Errorf("without class %d of %d: %d", at, len(p.Classes), e)
				}
			}
			p.Classes = p.Classes[1:]
		}
	}
	p := api.Program{Classes: many(64, func(i int) api.Class { return api.Class{Name: numbered(i), Super: numbered((i + 1) % 64)} })}
	for at := range p.Classes {
		if e := Right(api.Program{Classes: slices.Delete(slices.Clone(p.Classes), at, at+1)}); e != api.OK {
			t.Errorf("without class %d of 64: %d", at, e)
		}
	}
}
