package step

import (
	"slices"
	"testing"

	"secateur/api"
	"secateur/sound"
)

// mainSite is the site of a place of main.
func mainSite(at int, class string) api.Site {
	return api.Site{Method: ref("Main main ()V"), PC: at, Class: class}
}

// Places that have an object of some site.
func inReg(method string, r int, site api.Site) api.Held {
	return api.Held{Place: api.Place{Kind: api.InReg, Method: ref(method), Reg: r}, Site: site}
}

func inMain(r int, site api.Site) api.Held {
	return inReg("Main main ()V", r, site)
}

func inStatic(class, name string, site api.Site) api.Held {
	return api.Held{Place: api.Place{Kind: api.InStatic, Field: fieldRef(class, name)}, Site: site}
}

func inField(of api.Site, class, name string, site api.Site) api.Held {
	return api.Held{Place: api.Place{Kind: api.InField, Site: of, Field: fieldRef(class, name)}, Site: site}
}

func inElement(of, site api.Site) api.Held {
	return api.Held{Place: api.Place{Kind: api.InElement, Site: of}, Site: site}
}

// heldBehind is what is held behind so many steps of main.
func heldBehind(t *testing.T, steps int, l []api.Instr, names ...string) []api.Held {
	t.Helper()
	p := with("()V", code(l, end)...)
	p.Names = names
	if v := sound.Check(p); v != (api.Verdict{}) {
		t.Errorf("%+v", v)
	}
	m := New(p, Identity(p), nil)
	for range steps {
		m.Step()
	}
	if m.Result().Trap != api.NoTrap {
		t.Errorf("%s", told(m.Result()))
	}
	return m.Held()
}

// TestHeldRegisters: P19.3, registers that have an object, and from where it comes.
func TestHeldRegisters(t *testing.T) {
	l := code(sets(0, 1), makes(2, "D"), by(api.NewInts, 1, 0), of(by(api.NewRefs, 3, 0), "I"), by(api.Make, 6, 0), by(api.Move, 5, 2), by(api.Nil, 2), by(api.Move, 4, 0), by(api.Make, 3, 0), makes(6, "B"))
	object, ints, refs, looked := mainSite(1, "D"), mainSite(2, "[I"), mainSite(3, "[LI;"), mainSite(4, "D")
	checkList(t, "at first", heldBehind(t, 1, l, "B", "D"))
	checkList(t, "an object", heldBehind(t, 2, l, "B", "D"), inMain(2, object))
	checkList(t, "an array", heldBehind(t, 3, l, "B", "D"), inMain(1, ints), inMain(2, object))
	checkList(t, "all", heldBehind(t, 5, l, "B", "D"), inMain(1, ints), inMain(2, object), inMain(3, refs), inMain(6, looked))
	checkList(t, "moved", heldBehind(t, 6, l, "B", "D"), inMain(1, ints), inMain(2, object), inMain(3, refs), inMain(5, object), inMain(6, looked))
	checkList(t, "none", heldBehind(t, 8, l, "B", "D"), inMain(1, ints), inMain(3, refs), inMain(5, object), inMain(6, looked))
	l[0] = sets(0, 0)
	checkList(t, "set again", heldBehind(t, 10, l, "B", "D"), inMain(1, ints), inMain(3, mainSite(8, "B")), inMain(5, object), inMain(6, mainSite(9, "B")))
	checkList(t, "behind the end", heldBehind(t, 11, l, "B", "D"))
}

// TestHeldFrames: P19.3, frames from the first one on, each place and site once.
func TestHeldFrames(t *testing.T) {
	p := with("()V", code(makes(1, "A"), sets(0, 1), call(api.CallStatic, 3, "E same (LA;)LA;", 1), call(api.Call, 4, "A t (LA;I)I", 3, 1, 0), end)...)
	class(&p, "E").Methods[1].Code = code(makes(1, "B"), makes(2, "D"), call(api.CallStatic, 3, "E same (LA;)LA;", 0), by(api.Return, 1))
	first, second, third := mainSite(0, "A"), api.Site{Method: ref("E same (LA;)LA;"), PC: 0, Class: "B"}, api.Site{Method: ref("E same (LA;)LA;"), PC: 1, Class: "D"}
	m := New(p, Identity(p), nil)
	for range 4 {
		m.Step()
	}
	same := "E same (LA;)LA;"
	checkList(t, "in two", m.Held(), inMain(1, first), inReg(same, 0, first), inReg(same, 1, second))
	m.Step()
	m.Step()
	checkList(t, "in three, one place of two frames once", m.Held(), inMain(1, first), inReg(same, 0, first), inReg(same, 1, second), inReg(same, 2, third))
	for range 20 {
		m.Step()
	}
	if m.Deep() != 9 {
		t.Errorf("%d frames", m.Deep())
	}
	checkList(t, "in many", m.Held(), inMain(1, first), inReg(same, 0, first), inReg(same, 1, second), inReg(same, 2, third))
}

// TestHeldOfOnePlace: P19.3, a place of two frames that has objects of two sites has both.
func TestHeldOfOnePlace(t *testing.T) {
	same := "E same (LA;)LA;"
	p := with("()V", code(makes(1, "A"), call(api.CallStatic, 3, same, 1), end)...)
	class(&p, "E").Methods[1].Code = code(makes(1, "B"), call(api.CallStatic, 3, same, 1), by(api.Return, 1))
	own := api.Site{Method: ref(same), PC: 0, Class: "B"}
	m := New(p, Identity(p), nil)
	for range 4 {
		m.Step()
	}
	checkList(t, "held", m.Held(), inMain(1, mainSite(0, "A")), inReg(same, 0, mainSite(0, "A")), inReg(same, 1, own), inReg(same, 0, own))
}

// TestHeldBack: P19.3, what a call answers is held where it goes.
func TestHeldBack(t *testing.T) {
	l := code(makes(1, "A"), call(api.CallStatic, 3, "E same (LA;)LA;", 1), by(api.Nil, 1))
	checkList(t, "held", heldBehind(t, 4, l), inMain(3, mainSite(0, "A")))
}

// TestHeldStatics: P19.3, static fields, by class and name, behind the registers.
func TestHeldStatics(t *testing.T) {
	p := with("()V", code(makes(7, "B"), of(by(api.PutStatic, 7), "D", "q"), makes(6, "E"), of(by(api.PutStatic, 6), "B", "z"), of(by(api.PutStatic, 6), "B", "b"), of(by(api.PutStatic, 7), "A", "a1"), sets(0, 1), by(api.NewInts, 1, 0), of(by(api.PutStatic, 1), "I1", "h"), of(by(api.PutStatic, 0), "A", "p"), by(api.Nop), end)...)
	a, b := class(&p, "A"), class(&p, "B")
	a.Fields = slices.Insert(a.Fields, 1, field("a1", "LA;", true))
	b.Fields = []api.Field{field("a", "I", false), field("b", "LE;", true), field("e", "LE;", false), field("z", "LE;", true)}
	at := slices.IndexFunc(p.Classes, func(c api.Class) bool { return c.Name == "J" })
	p.Classes = slices.Insert(p.Classes, at, api.Class{Name: "I1", Fields: []api.Field{field("h", "[I", true)}})
	if v := sound.Check(p); v != (api.Verdict{}) {
		t.Errorf("%+v", v)
	}
	m := New(p, Identity(p), nil)
	for range 10 {
		m.Step()
	}
	one, other, ints := mainSite(0, "B"), mainSite(2, "E"), mainSite(7, "[I")
	checkList(t, "held", m.Held(), inMain(1, ints), inMain(6, other), inMain(7, one), inStatic("A", "a1", one), inStatic("A", "q", one), inStatic("B", "b", other), inStatic("B", "z", other), inStatic("I1", "h", ints))
}

// TestHeldObjects: P19.3, object by object its fields, and its elements, with the site of what they are of.
func TestHeldObjects(t *testing.T) {
	put := func(b, c int, class, name string) api.Instr { return of(by(api.Put, b, c), class, name) }
	l := code(
		sets(0, 2), of(by(api.NewRefs, 1, 0), "I"), makes(2, "D"), by(api.NewInts, 3, 0), makes(4, "E"), of(by(api.NewRefs, 5, 0), "A"),
		put(2, 2, "A", "b"), put(2, 3, "A", "c"), put(2, 4, "B", "e"), put(2, 0, "B", "a"), sets(0, 1), by(api.Store, 1, 0, 2), by(api.Store, 5, 0, 2), by(api.Store, 3, 0, 0), put(2, 5, "A", "d"),
		by(api.Nil, 1), by(api.Nil, 2), by(api.Nil, 3), by(api.Nil, 4), by(api.Nil, 5),
	)
	refs, object, ints, alone, others := mainSite(1, "[LI;"), mainSite(2, "D"), mainSite(3, "[I"), mainSite(4, "E"), mainSite(5, "[LA;")
	checkList(t, "held", heldBehind(t, len(l), l),
		inElement(refs, object), inField(object, "A", "b", object), inField(object, "A", "c", ints), inField(object, "A", "d", others), inField(object, "B", "e", alone), inElement(others, object))
}

// TestHeldOnce: P19.3, places of one site are one; what is there is told once, from each site.
func TestHeldOnce(t *testing.T) {
	put := func(b, c int) api.Instr { return of(by(api.Put, b, c), "A", "b") }
	// It goes round once: of the two objects of B the second one has the first one, and that the second one of A, which has itself.
	l := code(by(api.Nil, 3), makes(0, "A"), makes(1, "B"), put(1, 3), by(api.BranchNil, 3, 6), by(api.Jump, 8), by(api.Move, 3, 1), by(api.Jump, 1), put(3, 0), put(0, 0))
	a, b := mainSite(1, "A"), mainSite(2, "B")
	checkList(t, "held", heldBehind(t, 14, l), inMain(0, a), inMain(1, b), inMain(3, b), inField(b, "A", "b", a), inField(a, "A", "b", a), inField(b, "A", "b", b))
	// An array's elements, of two sites in turn.
	l = code(sets(0, 5), of(by(api.NewRefs, 1, 0), "A"), makes(2, "A"), makes(3, "B"), sets(0, 0), by(api.Store, 1, 0, 3), sets(0, 1), by(api.Store, 1, 0, 2), sets(0, 3), by(api.Store, 1, 0, 3), sets(0, 4), by(api.Store, 1, 0, 2), by(api.Nil, 2), by(api.Nil, 3))
	array := mainSite(1, "[LA;")
	checkList(t, "elements", heldBehind(t, len(l), l), inMain(1, array), inElement(array, mainSite(3, "B")), inElement(array, mainSite(2, "A")))
}

// TestHeldTrapped: P19.2, P19.3, what has trapped holds what it held.
func TestHeldTrapped(t *testing.T) {
	p := with("()V", code(makes(0, "A"), by(api.Throw, 1))...)
	m := ran(p)
	if m.Deep() != 1 {
		t.Errorf("%d frames", m.Deep())
	}
	checkList(t, "trapped", m.Held(), inMain(0, mainSite(0, "A")))
}
