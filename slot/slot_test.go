package slot

import (
	"math/rand"
	"reflect"
	"slices"
	"strconv"
	"testing"

	"secateur/api"
	"secateur/find"
	"secateur/hier"
	"secateur/norm"
	"secateur/pack"
)

// What a method may be: with code for objects, abstract, static.
func coded(name, desc string) api.Method {
	return api.Method{Name: name, Desc: desc, Regs: 4, Code: []api.Instr{{Op: api.Nop}, {Op: api.End}}}
}

func abstract(name, desc string) api.Method {
	return api.Method{Name: name, Desc: desc, Abstract: true}
}

func static(name, desc string) api.Method {
	m := coded(name, desc)
	m.Static = true
	return m
}

func class(name, super string, ifaces []string, l ...api.Method) api.Class {
	return api.Class{Name: name, Super: super, Ifaces: ifaces, Methods: l}
}

func open(name, super string, ifaces []string, l ...api.Method) api.Class {
	c := class(name, super, ifaces, l...)
	c.Abstract = true
	return c
}

func iface(name string, ifaces []string, l ...api.Method) api.Class {
	c := open(name, "", ifaces, l...)
	c.Iface = true
	return c
}

func program(l ...api.Class) api.Program {
	return api.Program{Classes: l}
}

// family is right, and of a piece: C below B below A, D alone; A is of I, B of J, and K is below J.
func family() api.Program {
	p := program(
		open("A", "", []string{"I"}, static("<clinit>", "()V"), coded("m", "()V"), coded("m", "(I)V"), abstract("o", "()V"), static("s", "()V")),
		class("B", "A", []string{"J"}, static("<clinit>", "()V"), coded("i", "()V"), coded("j", "()V"), coded("m", "()V"), coded("o", "()V")),
		class("C", "B", nil, coded("m", "()V"), static("main", "()V"), static("s", "()V")),
		class("D", "", nil),
		iface("I", nil, abstract("i", "()V"), abstract("m", "()V")),
		iface("J", nil, abstract("j", "()V")),
		iface("K", []string{"J"}, abstract("k", "()V")),
	)
	p.Entry = api.MethodRef{Class: "C", Name: "main", Desc: "()V"}
	return p
}

// slotsOf reads slots from three texts each: Name, Desc, Impl.
func slotsOf(l ...string) []api.Slot {
	var slots []api.Slot
	for three := range slices.Chunk(l, 3) {
		slots = append(slots, api.Slot{Name: three[0], Desc: three[1], Impl: three[2]})
	}
	return slots
}

// familyTables is the tables of family, in order.
func familyTables() []api.Table {
	return []api.Table{
		{Class: "A", Slots: slotsOf("i", "()V", "", "m", "()V", "A", "m", "(I)V", "A", "o", "()V", "")},
		{Class: "B", Slots: slotsOf("i", "()V", "B", "j", "()V", "B", "m", "()V", "B", "m", "(I)V", "A", "o", "()V", "B")},
		{Class: "C", Slots: slotsOf("i", "()V", "B", "j", "()V", "B", "m", "()V", "C", "m", "(I)V", "A", "o", "()V", "B")},
		{Class: "D"},
		{Class: "I", Slots: slotsOf("i", "()V", "", "m", "()V", "")},
		{Class: "J", Slots: slotsOf("j", "()V", "")},
		{Class: "K", Slots: slotsOf("j", "()V", "", "k", "()V", "")},
	}
}

func sameTables(a, b []api.Table) bool {
	return slices.EqualFunc(a, b, func(a, b api.Table) bool { return a.Class == b.Class && slices.Equal(a.Slots, b.Slots) })
}

func checkTable(t *testing.T, p api.Program, class string, l ...string) {
	t.Helper()
	if got, ok := Table(p, class); !ok || got.Class != class || !slices.Equal(got.Slots, slotsOf(l...)) {
		t.Errorf("%q: %v, %v, not %q", class, got, ok, l)
	}
}

func checkNoTable(t *testing.T, p api.Program, class string) {
	t.Helper()
	if got, ok := Table(p, class); ok || got.Class != "" || len(got.Slots) > 0 {
		t.Errorf("%q: %v, %v", class, got, ok)
	}
}

func checkFound(t *testing.T, what string, p api.Program, want api.Errno, who ...string) {
	t.Helper()
	var m api.MethodRef
	if want != api.OK {
		m = api.MethodRef{Class: who[0], Name: who[1], Desc: who[2]}
	}
	if e, got := Check(p); e != want || got != m {
		t.Errorf("%s: %d of %v, not %d of %v", what, e, got, want, m)
	}
}

// TestTable: P13.1, a class's slots: in order, each once, none static, nor a beginning.
func TestTable(t *testing.T) {
	p := family()
	for _, want := range familyTables() {
		if got, ok := Table(p, want.Class); !ok || !sameTables([]api.Table{got}, []api.Table{want}) {
			t.Errorf("%s: %v, %v", want.Class, got, ok)
		}
	}
	for _, name := range []string{"", "Z", "a", "AA"} {
		checkNoTable(t, p, name)
	}
	checkNoTable(t, api.Program{}, "")
	sorted := program(class("A", "", nil, coded("b", "()V"), coded("a", "(I)V"), coded("B", "()V"), coded("a", "()V"), coded("ab", "()V"), coded("a", "()I")))
	checkTable(t, sorted, "A", "B", "()V", "A", "a", "()I", "A", "a", "()V", "A", "a", "(I)V", "A", "ab", "()V", "A", "b", "()V", "A")
}

// TestTableImpl: P13.1, whose code a slot has is what find.Dispatch tells.
func TestTableImpl(t *testing.T) {
	p := program(
		class("A", "", []string{"I"}, coded("m", "()V"), coded("n", "()V"), static("s", "()V")),
		open("B", "A", nil, abstract("m", "()V"), static("n", "()V"), coded("s", "()V")),
		class("C", "B", []string{"J"}, coded("x", "()V")),
		class("D", "C", nil, coded("n", "()V"), coded("x", "()I")),
		iface("I", nil, abstract("s", "()V"), abstract("x", "()V")), iface("J", nil, abstract("m", "()V"), abstract("x", "()V")),
	)
	checkTable(t, p, "A", "m", "()V", "A", "n", "()V", "A", "s", "()V", "", "x", "()V", "")
	// What is abstract, or static, hides what is above it.
	checkTable(t, p, "B", "m", "()V", "", "n", "()V", "", "s", "()V", "B", "x", "()V", "")
	checkTable(t, p, "C", "m", "()V", "", "n", "()V", "", "s", "()V", "B", "x", "()V", "C")
	checkTable(t, p, "D", "m", "()V", "", "n", "()V", "D", "s", "()V", "B", "x", "()I", "D", "x", "()V", "C")
}

// TestTableOfNoPiece: P13.1, where the program is not of a piece.
func TestTableOfNoPiece(t *testing.T) {
	odd := program(class("A", "Z", []string{"Y"}, coded("<clinit>", "()V"), abstract("<clinit>", "()I"), coded("", ""), static("s", "()V")))
	checkTable(t, odd, "A", "", "", "A")
	checkNoTable(t, odd, "Z")
	ring := program(class("B", "A", nil, coded("m", "()V")), class("A", "B", nil, coded("n", "()V")), iface("I", []string{"I"}, abstract("i", "()V")))
	checkTable(t, ring, "A", "m", "()V", "B", "n", "()V", "A")
	checkTable(t, ring, "B", "m", "()V", "B", "n", "()V", "A")
	checkTable(t, ring, "I", "i", "()V", "")
	// A class of Ifaces is above, but its code is not found.
	crossed := program(class("A", "", []string{"B"}), class("B", "", nil, coded("m", "()V")))
	checkTable(t, crossed, "A", "m", "()V", "")
	nameless := program(class("A", "", nil), class("", "", nil, coded("m", "()V")))
	checkTable(t, nameless, "A", "m", "()V", "")
	checkTable(t, nameless, "", "m", "()V", "")
}

// TestTableOfTwo: P13.1, of several classes and methods of one name the first ones are declared.
func TestTableOfTwo(t *testing.T) {
	p := program(
		class("A", "", nil, static("m", "()V"), coded("m", "()V"), coded("n", "()V"), static("n", "()V"), abstract("n", "()V"), abstract("o", "()V"), coded("o", "()V")),
		class("A", "B", nil, coded("x", "()V")), class("B", "A", nil), class("B", "", nil, coded("n", "()V")),
	)
	checkTable(t, p, "A", "n", "()V", "A", "o", "()V", "")
	checkTable(t, p, "B", "n", "()V", "A", "o", "()V", "")
	// What one ancestor has static, another one may have not.
	p.Classes[2].Ifaces = []string{"I"}
	p.Classes = append(p.Classes, iface("I", nil, abstract("m", "()V")))
	checkTable(t, p, "B", "m", "()V", "", "n", "()V", "A", "o", "()V", "")
}

func checkTables(t *testing.T, what string, p api.Program, want []api.Table, e api.Errno) {
	t.Helper()
	if got, errno := Tables(p); errno != e || !sameTables(got, want) {
		t.Errorf("%s: %v, %d", what, got, errno)
	}
}

// TestTables: P13.1, of each class, in the order of names.
func TestTables(t *testing.T) {
	p := family()
	checkTables(t, "in order", p, familyTables(), api.OK)
	slices.Reverse(p.Classes)
	checkTables(t, "turned about", p, familyTables(), api.OK)
	checkTables(t, "nothing at all", api.Program{}, nil, api.OK)
	twice := program(class("B", "", nil), class("A", "", nil, coded("m", "()V")), class("B", "A", nil, coded("n", "()V")), class("A", "", nil))
	one, other := api.Table{Class: "A", Slots: slotsOf("m", "()V", "A")}, api.Table{Class: "B"}
	checkTables(t, "two of a name", twice, []api.Table{one, one, other, other}, api.OK)
}

// full is a class below as many others as give it so many slots together, and the others.
func full(slots int) api.Program {
	p := program(class("n100", "", nil))
	for i := range slots {
		if i%api.MaxMembers == 0 {
			p.Classes = append(p.Classes, class("n"+strconv.Itoa(101+i), p.Classes[len(p.Classes)-1].Name, nil))
		}
		last := &p.Classes[len(p.Classes)-1]
		last.Methods = append(last.Methods, coded("m"+strconv.Itoa(100+i), "()V"))
	}
	return p
}

// TestTablesTooLong: P13.1, a class of more slots than may be.
func TestTablesTooLong(t *testing.T) {
	p := full(api.MaxSlots)
	l, e := Tables(p)
	if e != api.OK || len(l) != len(p.Classes) || len(l[len(l)-1].Slots) != api.MaxSlots {
		t.Errorf("as many as may be: %d tables, %d", len(l), e)
	}
	p = full(api.MaxSlots + 1)
	checkTables(t, "one more", p, nil, api.ErrLong)
	slices.Reverse(p.Classes)
	checkTables(t, "one more, turned about", p, nil, api.ErrLong)
	if got, ok := Table(p, p.Classes[0].Name); !ok || len(got.Slots) != api.MaxSlots+1 {
		t.Errorf("alone: %d slots, %v", len(got.Slots), ok)
	}
}

// TestPlace: P13.1, a slot's place, in tables of any size.
func TestPlace(t *testing.T) {
	var table api.Table
	for size := range 40 {
		for at, s := range table.Slots {
			if got := Place(table, s.Name, s.Desc); got != at {
				t.Errorf("%d of %d: %d", at, size, got)
			}
			for _, none := range [][2]string{{s.Name, ""}, {s.Name, "(I)V"}, {s.Name + "0", s.Desc}, {"", s.Desc}, {s.Desc, s.Name}, {"z", s.Desc}} {
				if got := Place(table, none[0], none[1]); got != api.None {
					t.Errorf("%q: %d", none, got)
				}
			}
		}
		if got := Place(table, "a", "()V"); got != api.None {
			t.Errorf("what is not there: %d", got)
		}
		name, desc := "m"+strconv.Itoa(100+size/2), []string{"()I", "()V"}[size%2]
		table.Slots = append(table.Slots, api.Slot{Name: name, Desc: desc, Impl: strconv.Itoa(size)})
	}
	for _, want := range familyTables() {
		for at, s := range want.Slots {
			if got := Place(want, s.Name, s.Desc); got != at {
				t.Errorf("%s: %v: %d", want.Class, s, got)
			}
		}
	}
}

// TestPlaceInNoOrder: P13.1, the first slot, also where they stand in no order, and more than once.
func TestPlaceInNoOrder(t *testing.T) {
	chance := rand.New(rand.NewSource(13))
	for range 3000 {
		var table api.Table
		for range chance.Intn(9) {
			s := api.Slot{Name: string(rune('a' + chance.Intn(3))), Desc: []string{"()I", "()V"}[chance.Intn(2)], Impl: strconv.Itoa(chance.Intn(9))}
			table.Slots = append(table.Slots, s)
		}
		if chance.Intn(2) == 0 {
			slices.SortFunc(table.Slots, bySlot)
		}
		for _, name := range []string{"a", "b", "c", ""} {
			want := api.None
			for at, s := range slices.Backward(table.Slots) {
				if s.Name == name && s.Desc == "()V" {
					want = at
				}
			}
			if got := Place(table, name, "()V"); got != want {
				t.Fatalf("%s: %d, not %d: %v", name, got, want, table)
			}
		}
	}
}

// crowded is right, but has more strings than a pool may have: so many, with those of its tables.
func crowded(strings int) api.Program {
	const fields = api.MaxMembers
	var p api.Program
	for at := 0; at+1 < strings; {
		c := class("n"+strconv.Itoa(100+len(p.Classes)), "", nil)
		for at++; len(c.Fields) < fields && at+1 < strings; at++ {
			c.Fields = append(c.Fields, api.Field{Name: "f" + strconv.Itoa(10000+at), Type: api.Type{Kind: api.Int}})
		}
		p.Classes = append(p.Classes, c)
	}
	return p
}

// TestLink: P13.2, a program with its tables.
func TestLink(t *testing.T) {
	u, e := Link(family())
	if e != api.OK || !u.Linked || !norm.Same(u.Program, family()) || !sameTables(u.Tables, familyTables()) {
		t.Errorf("%+v, %d", u, e)
	}
	if u, e := Link(api.Program{}); e != api.OK || !pack.Same(u, api.Unit{Linked: true}) {
		t.Errorf("nothing at all: %+v, %d", u, e)
	}
	if u, e := Link(crowded(api.MaxPool)); e != api.OK || len(u.Tables) != len(u.Program.Classes) {
		t.Errorf("as many strings as may be: %d", e)
	}
	b, e := pack.Encode(u)
	if back, fault := pack.Decode(b); e != api.OK || fault.Errno != api.OK || !pack.Same(back, u) || !Linked(back) {
		t.Errorf("written and read: %d, %v", e, fault)
	}
}

// TestLinkErrors: P13.2, what can't be linked, and what is told first.
func TestLinkErrors(t *testing.T) {
	turned, wrong, long := family(), family(), full(api.MaxSlots+1)
	slices.Reverse(turned.Classes)
	wrong.Classes[1].Methods[1].Regs = -1
	both := full(api.MaxSlots + 1)
	slices.Reverse(both.Classes)
	form := full(api.MaxSlots + 1)
	form.Entry.Class = "-"
	many := program()
	for i := range api.MaxClasses + 1 {
		many.Classes = append(many.Classes, class("n"+strconv.Itoa(100+i), "", nil))
	}
	for _, c := range []struct {
		what string
		p    api.Program
		want api.Errno
	}{
		{"in no order", turned, api.ErrOrder}, {"what can't be", wrong, api.ErrForm}, {"too many classes", many, api.ErrLong},
		{"too many slots", long, api.ErrLong}, {"in no order, and too many slots", both, api.ErrOrder}, {"what can't be, and too many slots", form, api.ErrForm},
		{"too many strings", crowded(api.MaxPool + 1), api.ErrLong},
	} {
		if u, e := Link(c.p); e != c.want || !reflect.DeepEqual(u, api.Unit{}) {
			t.Errorf("%s: %+v, %d", c.what, u, e)
		}
	}
}

func checkLinked(t *testing.T, what string, u api.Unit, want bool) {
	t.Helper()
	if got := Linked(u); got != want {
		t.Errorf("%s: %v", what, got)
	}
}

// TestLinked: P13.2, whether a unit has its program's tables.
func TestLinked(t *testing.T) {
	unit := func() api.Unit { return api.Unit{Program: family(), Linked: true, Tables: familyTables()} }
	checkLinked(t, "as it is", unit(), true)
	checkLinked(t, "nothing at all", api.Unit{}, false)
	checkLinked(t, "nothing, but linked", api.Unit{Linked: true}, true)
	checkLinked(t, "empty lists", api.Unit{Program: program(class("A", "", nil)), Linked: true, Tables: []api.Table{{Class: "A", Slots: []api.Slot{}}}}, true)
	checkLinked(t, "crowded, but its own", api.Unit{Program: crowded(api.MaxPool + 1), Linked: true, Tables: tablesOf(crowded(api.MaxPool + 1))}, true)
	for what, change := range map[string]func(*api.Unit){
		"not linked":            func(u *api.Unit) { u.Linked = false },
		"no tables":             func(u *api.Unit) { u.Tables = nil },
		"a table less":          func(u *api.Unit) { u.Tables = u.Tables[:6] },
		"another table less":    func(u *api.Unit) { u.Tables = u.Tables[1:] },
		"a table more":          func(u *api.Unit) { u.Tables = append(u.Tables, api.Table{Class: "L"}) },
		"a table twice":         func(u *api.Unit) { u.Tables[2] = u.Tables[1] },
		"another class":         func(u *api.Unit) { u.Tables[3].Class = "E" },
		"turned about":          func(u *api.Unit) { slices.Reverse(u.Tables) },
		"a slot less":           func(u *api.Unit) { u.Tables[1].Slots = u.Tables[1].Slots[1:] },
		"no slots":              func(u *api.Unit) { u.Tables[5].Slots = nil },
		"a slot more":           func(u *api.Unit) { u.Tables[3].Slots = slotsOf("m", "()V", "") },
		"slots turned about":    func(u *api.Unit) { slices.Reverse(u.Tables[6].Slots) },
		"another Name":          func(u *api.Unit) { u.Tables[6].Slots[1].Name = "l" },
		"another Desc":          func(u *api.Unit) { u.Tables[6].Slots[1].Desc = "()I" },
		"another Impl":          func(u *api.Unit) { u.Tables[2].Slots[0].Impl = "C" },
		"an Impl less":          func(u *api.Unit) { u.Tables[2].Slots[0].Impl = "" },
		"an Impl more":          func(u *api.Unit) { u.Tables[0].Slots[0].Impl = "A" },
		"another program":       func(u *api.Unit) { u.Program.Classes[2].Methods = u.Program.Classes[2].Methods[1:] },
		"a program in no order": func(u *api.Unit) { slices.Reverse(u.Program.Classes) },
		"what can't be":         func(u *api.Unit) { u.Program.Entry.Desc = "" },
	} {
		u := unit()
		change(&u)
		checkLinked(t, what, u, false)
	}
	for _, l := range [][]api.Table{nil, {}, tablesOf(full(api.MaxSlots))} {
		checkLinked(t, "too many slots", api.Unit{Program: full(api.MaxSlots + 1), Linked: true, Tables: l}, false)
	}
}

func tablesOf(p api.Program) []api.Table {
	l, _ := Tables(p)
	return l
}

// TestCheck: P13.3, a program of which nothing is wrong.
func TestCheck(t *testing.T) {
	checkFound(t, "nothing at all", api.Program{}, api.OK)
	checkFound(t, "of a piece", family(), api.OK)
	turned := family()
	slices.Reverse(turned.Classes)
	checkFound(t, "turned about", turned, api.OK)
	checkFound(t, "static above static", program(class("A", "", nil, static("m", "()V")), class("B", "A", nil, static("m", "()V"))), api.OK)
	checkFound(t, "another descriptor", program(class("A", "", nil, static("m", "()V")), class("B", "A", nil, coded("m", "()I"))), api.OK)
	checkFound(t, "another name", program(class("A", "", nil, static("m", "()V")), class("B", "A", nil, coded("n", "()V"))), api.OK)
	checkFound(t, "side by side", program(class("A", "", nil, static("m", "()V")), class("B", "", nil, coded("m", "()V"))), api.OK)
	checkFound(t, "a beginning", program(class("A", "", nil, static("<clinit>", "()V")), class("B", "A", nil, coded("<clinit>", "()V"))), api.OK)
	checkFound(t, "a beginning the other way round", program(class("A", "", nil, coded("<clinit>", "()V")), class("B", "A", nil, static("<clinit>", "()V"))), api.OK)
	checkFound(t, "no more than abstract", program(open("A", "", nil, abstract("m", "()V")), open("B", "A", nil)), api.OK)
}

// TestCheckKind: P13.3, what is static here, and not there.
func TestCheckKind(t *testing.T) {
	base := class("A", "", nil, coded("a", "()V"), static("s", "()V"))
	checkFound(t, "above static", program(base, class("B", "A", nil, coded("a", "()V"), coded("s", "()V"))), api.ErrKind, "B", "s", "()V")
	checkFound(t, "above not", program(base, class("B", "A", nil, static("a", "()V"))), api.ErrKind, "B", "a", "()V")
	checkFound(t, "above abstract", program(open("A", "", nil, abstract("a", "()V")), open("B", "A", nil, static("a", "()V"))), api.ErrKind, "B", "a", "()V")
	checkFound(t, "far above", program(base, class("B", "A", nil), class("C", "B", nil, coded("s", "()V"))), api.ErrKind, "C", "s", "()V")
	checkFound(t, "an interface", program(class("B", "", []string{"J"}, static("i", "()V")), iface("I", nil, abstract("i", "()V")), iface("J", []string{"I"})), api.ErrKind, "B", "i", "()V")
	checkFound(t, "of interfaces", program(iface("I", nil, static("i", "()V")), iface("J", []string{"I"}, abstract("i", "()V"))), api.ErrKind, "J", "i", "()V")
	// Only what a class declares itself counts for it.
	checkFound(t, "above, and of an interface", program(base, class("B", "A", []string{"I"}), iface("I", nil, abstract("s", "()V"))), api.ErrNone, "B", "s", "()V")
	ring := program(class("A", "B", nil, coded("m", "()V")), class("B", "A", nil, static("m", "()V")))
	checkFound(t, "in a ring", ring, api.ErrKind, "A", "m", "()V")
	// It is enough that one of those above is otherwise.
	mixed := program(class("C", "B", nil, coded("m", "()V")), class("A", "", nil, coded("m", "()V")), class("B", "A", nil, static("m", "()V")))
	checkFound(t, "the one, and the other", mixed, api.ErrKind, "C", "m", "()V")
}

// TestCheckNone: P13.3, what a class that may have objects lacks.
func TestCheckNone(t *testing.T) {
	of := []string{"I"}
	i := iface("I", nil, abstract("i", "()V"), abstract("j", "(I)V"))
	checkFound(t, "all of an interface", program(class("A", "", of), i), api.ErrNone, "A", "i", "()V")
	checkFound(t, "one of an interface", program(class("A", "", of, coded("i", "()V")), i), api.ErrNone, "A", "j", "(I)V")
	checkFound(t, "another descriptor", program(class("A", "", of, coded("i", "()V"), coded("j", "()V")), i), api.ErrNone, "A", "j", "(I)V")
	checkFound(t, "all there", program(class("A", "", of, coded("i", "()V"), coded("j", "(I)V")), i), api.OK)
	checkFound(t, "all above", program(class("A", "", nil, coded("i", "()V"), coded("j", "(I)V")), class("B", "A", of), i), api.OK)
	checkFound(t, "below what is abstract", program(open("A", "", nil, abstract("m", "()V")), open("B", "A", nil), class("C", "B", nil)), api.ErrNone, "C", "m", "()V")
	checkFound(t, "abstract again", program(class("A", "", nil, coded("m", "()V")), open("B", "A", nil, abstract("m", "()V")), class("C", "B", nil)), api.ErrNone, "C", "m", "()V")
	checkFound(t, "abstract itself", program(open("A", "", of), i), api.OK)
	bare := i
	bare.Abstract = false
	checkFound(t, "an interface that is not abstract", program(bare), api.ErrNone, "I", "i", "()V")
	checkFound(t, "code of a class of Ifaces", program(class("A", "", []string{"B"}), class("B", "", nil, coded("m", "()V"))), api.ErrNone, "A", "m", "()V")
}

// TestCheckOrder: P13.3, what is told first: as classes and methods stand; slots as they rise.
func TestCheckOrder(t *testing.T) {
	a := open("A", "", nil, abstract("n", "()V"), static("s", "()V"), coded("t", "()V"), abstract("m", "(I)V"), abstract("m", "()V"))
	checkFound(t, "method by method", program(a, open("B", "A", nil, static("t", "()V"), coded("s", "()V"))), api.ErrKind, "B", "t", "()V")
	checkFound(t, "class by class", program(open("C", "A", nil, coded("s", "()V")), open("B", "A", nil, static("n", "()V")), a), api.ErrKind, "C", "s", "()V")
	checkFound(t, "all classes ahead of what is lacking", program(class("B", "A", nil), open("C", "A", nil, static("n", "()V")), a), api.ErrKind, "C", "n", "()V")
	checkFound(t, "slot by slot", program(a, class("B", "A", nil)), api.ErrNone, "B", "m", "()V")
	checkFound(t, "lacking, class by class", program(class("C", "A", nil, coded("m", "()V"), coded("m", "(I)V")), class("B", "A", nil), a), api.ErrNone, "C", "n", "()V")
}

// TestCheckTwice: P13.3, where two have one name: above are the first ones, but each class is gone through that stands there.
func TestCheckTwice(t *testing.T) {
	a := class("A", "", nil, static("m", "()V"), coded("m", "()V"))
	checkFound(t, "of two methods above the first one", program(a, class("B", "A", nil, coded("m", "()V"))), api.ErrKind, "B", "m", "()V")
	checkFound(t, "of two methods above not the second one", program(a, class("B", "A", nil, static("m", "()V"))), api.OK)
	checkFound(t, "two methods of one class", program(a, class("A", "", nil, static("m", "()V"))), api.OK)
	checkFound(t, "the second method", program(class("A", "", nil, static("m", "()V")), class("B", "A", nil, static("m", "()V"), coded("m", "()V"))), api.ErrKind, "B", "m", "()V")
	checkFound(t, "the second class above", program(class("A", "", nil), class("A", "", nil, static("m", "()V")), class("B", "A", nil, coded("m", "()V"))), api.OK)
	checkFound(t, "the second class below", program(class("A", "", nil, static("m", "()V")), class("B", "A", nil), class("B", "", nil, coded("m", "()V"))), api.ErrKind, "B", "m", "()V")
	i := iface("I", nil, abstract("i", "()V"))
	checkFound(t, "the second one may have objects", program(open("A", "", []string{"I"}), class("A", "", nil), i), api.ErrNone, "A", "i", "()V")
	checkFound(t, "the second one has code", program(class("A", "", []string{"I"}), class("A", "", nil, coded("i", "()V")), i), api.ErrNone, "A", "i", "()V")
}

// wild is a program of few names, that is hardly ever of a piece: names stand twice, are not there, and go round.
func wild(chance *rand.Rand) api.Program {
	one := func(l ...string) string { return l[chance.Intn(len(l))] }
	var p api.Program
	for range chance.Intn(8) {
		c := api.Class{Name: one("A", "B", "C", "D", "E"), Super: one("A", "B", "C", "D", "E", "", "", "Z"), Iface: chance.Intn(3) == 0, Abstract: chance.Intn(2) == 0}
		for range chance.Intn(3) {
			c.Ifaces = append(c.Ifaces, one("A", "B", "C", "D", "E", "Z"))
		}
		for range chance.Intn(4) {
			m := coded(one("m", "m", "n", "<clinit>"), one("()V", "()V", "()I"))
			if m.Static = chance.Intn(5) == 0; !m.Static && chance.Intn(3) == 0 {
				m = abstract(m.Name, m.Desc)
			}
			c.Methods = append(c.Methods, m)
		}
		p.Classes = append(p.Classes, c)
	}
	return p
}

// tame is a program that norm.Right finds nothing wrong with: what stands above a class comes ahead of it.
func tame(chance *rand.Rand) api.Program {
	var classes, ifaces []string
	var p api.Program
	for i, at := range chance.Perm(1 + chance.Intn(8)) {
		c := api.Class{Name: "n" + strconv.Itoa(100+at), Iface: i%3 == 1}
		c.Abstract = c.Iface || chance.Intn(3) == 0
		for _, name := range ifaces {
			if chance.Intn(3) == 0 {
				c.Ifaces = append(c.Ifaces, name)
			}
		}
		if c.Iface {
			ifaces = append(ifaces, c.Name)
		} else {
			if len(classes) > 0 && chance.Intn(5) > 0 {
				c.Super = classes[chance.Intn(len(classes))]
			}
			classes = append(classes, c.Name)
		}
		for _, name := range []string{"a", "b", "c", "d"} {
			if chance.Intn(2) == 0 {
				c.Methods = append(c.Methods, tameMethod(chance, c, name))
			}
		}
		p.Classes = append(p.Classes, c)
	}
	return norm.Sorted(p)
}

// tameMethod is a method that can be in a class.
func tameMethod(chance *rand.Rand, c api.Class, name string) api.Method {
	switch {
	case c.Iface || c.Abstract && chance.Intn(2) == 0:
		return abstract(name, "()V")
	case chance.Intn(12) == 0:
		return static(name, "()V")
	}
	return coded(name, "()V")
}

// programs is many programs that a fixed seed turns about, of both kinds.
func programs() []api.Program {
	chance := rand.New(rand.NewSource(13))
	var l []api.Program
	for range 1500 {
		l = append(l, wild(chance), tame(chance))
	}
	return l
}

// names is the names of a program's classes, rising, each once.
func names(p api.Program) []string {
	var l []string
	for _, c := range p.Classes {
		l = append(l, c.Name)
	}
	slices.Sort(l)
	return slices.Compact(l)
}

// reckoned is a class's slots, reckoned by asking for each name and descriptor that may be.
func reckoned(p api.Program, class string) []api.Slot {
	var l []api.Slot
	for _, name := range []string{"<clinit>", "a", "b", "c", "d", "m", "n"} {
		for _, desc := range []string{"()I", "()V"} {
			is := slices.ContainsFunc(hier.Ancestors(p, class), func(above string) bool {
				m, ok := find.Get(p, api.MethodRef{Class: above, Name: name, Desc: desc})
				return ok && !m.Static && name != api.InitName
			})
			if impl, _ := find.Dispatch(p, class, name, desc); is {
				l = append(l, api.Slot{Name: name, Desc: desc, Impl: impl.Class})
			}
		}
	}
	return l
}

// TestOnAll: P13.1, P13.3, held against what is reckoned otherwise.
func TestOnAll(t *testing.T) {
	found := map[api.Errno]int{}
	for _, p := range programs() {
		for _, name := range names(p) {
			if got, ok := Table(p, name); !ok || got.Class != name || !slices.Equal(got.Slots, reckoned(p, name)) {
				t.Fatalf("%s: %v: %+v", name, got, p)
			}
		}
		want, who := checked(p)
		if e, m := Check(p); e != want || m != who {
			t.Fatalf("%d of %v, not %d of %v: %+v", e, m, want, who, p)
		}
		found[want]++
	}
	for _, e := range []api.Errno{api.OK, api.ErrKind, api.ErrNone} {
		if found[e] < 200 {
			t.Errorf("only %d times %d", found[e], e)
		}
	}
}

// checked is what Check finds, told from what each class declares.
func checked(p api.Program) (api.Errno, api.MethodRef) {
	for _, c := range p.Classes {
		for _, m := range c.Methods {
			for _, above := range hier.Ancestors(p, c.Name) {
				other, ok := find.Get(p, api.MethodRef{Class: above, Name: m.Name, Desc: m.Desc})
				if ok && above != c.Name && m.Name != api.InitName && other.Static != m.Static {
					return api.ErrKind, api.MethodRef{Class: c.Name, Name: m.Name, Desc: m.Desc}
				}
			}
		}
	}
	for _, c := range p.Classes {
		for _, s := range reckoned(p, c.Name) {
			if !c.Abstract && s.Impl == "" {
				return api.ErrNone, api.MethodRef{Class: c.Name, Name: s.Name, Desc: s.Desc}
			}
		}
	}
	return api.OK, api.MethodRef{}
}

// TestDispatchByPlace: P13.4, the slots of what is above a class are slots of it, and have the code that is found.
func TestDispatchByPlace(t *testing.T) {
	count := 0
	for _, p := range programs() {
		for _, a := range names(p) {
			below, _ := Table(p, a)
			for _, b := range hier.Ancestors(p, a) {
				above, _ := Table(p, b)
				for _, s := range above.Slots {
					count++
					at := Place(below, s.Name, s.Desc)
					if at == api.None {
						t.Fatalf("%s below %s: %v: %+v", a, b, s, p)
					}
					if m, _ := find.Dispatch(p, a, s.Name, s.Desc); m.Class != below.Slots[at].Impl {
						t.Fatalf("%s: %v: %v: %+v", a, below.Slots[at], m, p)
					}
				}
			}
		}
	}
	if count < 10000 {
		t.Errorf("only %d slots", count)
	}
}

// TestLinkIsLinked: P13.5, a unit that Link answers is Linked; with a slot's Impl another one it is not.
func TestLinkIsLinked(t *testing.T) {
	count := 0
	for _, p := range programs() {
		u, e := Link(p)
		if e != api.OK {
			continue
		}
		if !Linked(u) {
			t.Fatalf("%+v", u)
		}
		for i := range u.Tables {
			for j := range u.Tables[i].Slots {
				count++
				impl := &u.Tables[i].Slots[j].Impl
				was := *impl
				if *impl += "x"; Linked(u) {
					t.Fatalf("%s instead of %q: %+v", *impl, was, u)
				}
				*impl = was
			}
		}
	}
	if count < 5000 {
		t.Errorf("only %d slots", count)
	}
}

// TestObjectsHaveCode: P13.6, where Check finds nothing, of each class that has objects.
func TestObjectsHaveCode(t *testing.T) {
	count := 0
	for _, p := range programs() {
		if e, _ := Check(p); e != api.OK {
			continue
		}
		for _, name := range names(p) {
			table, _ := Table(p, name)
			for _, s := range table.Slots {
				if !hier.Concrete(p, name) {
					continue
				}
				count++
				if m, ok := find.Get(p, api.MethodRef{Class: s.Impl, Name: s.Name, Desc: s.Desc}); !ok || m.Static || len(m.Code) == 0 {
					t.Fatalf("%s: %v: %+v", name, s, p)
				}
			}
		}
	}
	if count < 1000 {
		t.Errorf("only %d slots", count)
	}
}

// TestNothingIsTouched: P3, what is handed in stays as it is, the room behind a list, too.
func TestNothingIsTouched(t *testing.T) {
	roomy := func() api.Unit {
		p := family()
		for i, c := range p.Classes {
			p.Classes[i].Methods = append(c.Methods, coded("room", "()V"))[:len(c.Methods)]
		}
		slices.Reverse(p.Classes)
		p.Classes = append(p.Classes, class("room", "", nil))[:len(p.Classes)]
		tables := append(familyTables(), api.Table{Class: "room"})
		return api.Unit{Program: p, Linked: true, Tables: tables[:len(tables)-1]}
	}
	u, same := roomy(), roomy()
	for range 2 {
		Tables(u.Program)
		Table(u.Program, "C")
		Link(u.Program)
		Linked(u)
		Check(u.Program)
		Place(u.Tables[1], "m", "()V")
		// Once as they stand, once in order, so that Link and Linked come to their end.
		if !reflect.DeepEqual(whole(u), whole(same)) {
			t.Errorf("%+v", whole(u))
		}
		slices.Reverse(u.Program.Classes)
		slices.Reverse(same.Program.Classes)
	}
}

// whole is a unit with the room behind its lists.
func whole(u api.Unit) api.Unit {
	u.Program.Classes = slices.Clone(u.Program.Classes[:len(u.Program.Classes)+1])
	for i, c := range u.Program.Classes[:len(u.Program.Classes)-1] {
		u.Program.Classes[i].Methods = c.Methods[:len(c.Methods)+1]
	}
	u.Tables = u.Tables[:len(u.Tables)+1]
	return u
}

// TestAnswersAreTheCallers: P3, what is answered shares nothing with what was handed in, nor with itself.
func TestAnswersAreTheCallers(t *testing.T) {
	p := family()
	u, _ := Link(p)
	for i, c := range u.Program.Classes {
		for j, m := range c.Methods {
			for k := range m.Code {
				m.Code[k].Op = api.Throw
			}
			c.Methods[j] = api.Method{}
		}
		u.Program.Classes[i] = api.Class{}
	}
	if !reflect.DeepEqual(p, family()) {
		t.Errorf("%+v", p)
	}
	twice := program(class("A", "", nil, coded("m", "()V")), class("A", "", nil))
	l := tablesOf(twice)
	l[0].Slots[0].Impl = "changed"
	_ = append(l[0].Slots, api.Slot{Name: "more"})
	if l[1].Slots[0].Impl != "A" || !sameTables(tablesOf(twice)[:1], l[1:]) {
		t.Errorf("%v", l)
	}
}

// TestMany: P1, a long way up, round a ring, and many methods come to an end.
func TestMany(t *testing.T) {
	const size = api.MaxClasses + 10
	var p api.Program
	name := func(i int) string { return "n" + strconv.Itoa(1000+i%size) }
	for i := range size {
		p.Classes = append(p.Classes, class(name(i), name(i+1), []string{name(i + 2)}, coded("m"+strconv.Itoa(i), "()V")))
	}
	if l := tablesOf(p); len(l) != size || len(l[7].Slots) != size {
		t.Errorf("%d tables", len(l))
	}
	checkFound(t, "a ring", p, api.OK)
	wide := class("A", "", nil)
	for i := range 1500 {
		wide.Methods = append(wide.Methods, coded("m"+strconv.Itoa(i), "()V"))
	}
	p = program(wide)
	if got, ok := Table(p, "A"); !ok || len(got.Slots) != 1500 {
		t.Errorf("%d slots", len(got.Slots))
	}
	checkTables(t, "many methods", p, nil, api.ErrLong)
	checkFound(t, "many methods", p, api.OK)
}
