package hier

import (
	"math/rand"
	"slices"
	"strconv"
	"testing"

	"secateur/api"
	"secateur/norm"
)

// class and iface are classes with what stands above them alone.
func class(name, super string, ifaces ...string) api.Class {
	return api.Class{Name: name, Super: super, Ifaces: ifaces}
}

func iface(name string, ifaces ...string) api.Class {
	return api.Class{Name: name, Iface: true, Abstract: true, Ifaces: ifaces}
}

func program(l ...api.Class) api.Program {
	return api.Program{Classes: l}
}

// family is of a piece: D below C below A, B below A, E alone; I and J are interfaces, K below both.
func family() api.Program {
	return program(
		class("A", "", "I"), class("B", "A", "J"), class("C", "A"), class("D", "C", "K"), class("E", ""),
		iface("I"), iface("J"), iface("K", "I", "J"), iface("L"),
	)
}

func checkList(t *testing.T, what string, got []string, want ...string) {
	t.Helper()
	if !slices.Equal(got, want) {
		t.Errorf("%s: %q, not %q", what, got, want)
	}
}

func checkIs(t *testing.T, what string, got, want bool) {
	t.Helper()
	if got != want {
		t.Errorf("%s: %v", what, got)
	}
}

func checkFound(t *testing.T, what string, p api.Program, want api.Errno, who string) {
	t.Helper()
	if e, name := Check(p); e != want || name != who {
		t.Errorf("%s: %d of %q, not %d of %q", what, e, name, want, who)
	}
}

// TestSupers: P11.1, a class, and one above the other.
func TestSupers(t *testing.T) {
	p := family()
	checkList(t, "D", Supers(p, "D"), "D", "C", "A")
	checkList(t, "B", Supers(p, "B"), "B", "A")
	checkList(t, "E", Supers(p, "E"), "E")
	checkList(t, "an interface", Supers(p, "K"), "K")
	checkList(t, "one that is not there", Supers(p, "Z"))
	checkList(t, "an empty name", Supers(p, ""))
	checkList(t, "nothing at all", Supers(api.Program{}, "A"))
	checkList(t, "a part of a name", Supers(program(class("AB", "")), "A"))
}

// TestSupersOfNoPiece: P11.1, where the program is not of a piece.
func TestSupersOfNoPiece(t *testing.T) {
	checkList(t, "a Super that is not there", Supers(program(class("B", "Z")), "B"), "B")
	checkList(t, "itself", Supers(program(class("A", "A")), "A"), "A")
	ring := program(class("A", "B"), class("B", "C"), class("C", "A"), class("D", "B"))
	checkList(t, "a ring", Supers(ring, "B"), "B", "C", "A")
	checkList(t, "below a ring", Supers(ring, "D"), "D", "B", "C", "A")
	p := program(iface("I", "J"), class("A", "I"), iface("J"))
	p.Classes[0].Super = "B"
	p.Classes = append(p.Classes, class("B", "", "J"))
	checkList(t, "by an interface's Super", Supers(p, "A"), "A", "I", "B")
	twice := program(class("A", "B"), class("A", "C"), class("B", ""), class("C", ""), class("B", "C"))
	checkList(t, "of two the first one", Supers(twice, "A"), "A", "B")
	checkList(t, "a class without a name", Supers(program(class("A", ""), class("", "B"), class("B", "")), "A"), "A", "", "B")
}

// TestAncestors: P11.1, all that is above, rising, each once.
func TestAncestors(t *testing.T) {
	p := family()
	checkList(t, "A", Ancestors(p, "A"), "A", "I")
	checkList(t, "B", Ancestors(p, "B"), "A", "B", "I", "J")
	checkList(t, "C", Ancestors(p, "C"), "A", "C", "I")
	checkList(t, "D", Ancestors(p, "D"), "A", "C", "D", "I", "J", "K")
	checkList(t, "E", Ancestors(p, "E"), "E")
	checkList(t, "K", Ancestors(p, "K"), "I", "J", "K")
	checkList(t, "one that is not there", Ancestors(p, "Z"))
	checkList(t, "nothing at all", Ancestors(api.Program{}, ""))
	rising := program(class("a", "b", "Z", "a0"), class("b", ""), iface("Z", "z"), iface("z"), iface("a0"), iface("Y"))
	checkList(t, "rising by bytes", Ancestors(rising, "a"), "Z", "a", "a0", "b", "z")
}

// TestAncestorsOfNoPiece: P11.1, where the program is not of a piece.
func TestAncestorsOfNoPiece(t *testing.T) {
	checkList(t, "some that are not there", Ancestors(program(class("B", "Y", "X", "I", "Z"), iface("I", "W")), "B"), "B", "I")
	checkList(t, "itself", Ancestors(program(class("A", "A", "A")), "A"), "A")
	ring := program(iface("I", "J"), iface("J", "K"), iface("K", "I"), class("A", "", "J"))
	checkList(t, "a ring", Ancestors(ring, "J"), "I", "J", "K")
	checkList(t, "below a ring", Ancestors(ring, "A"), "A", "I", "J", "K")
	checkList(t, "an interface's Super", Ancestors(program(api.Class{Name: "I", Super: "A", Iface: true}, class("A", "B", "J"), class("B", ""), iface("J")), "I"), "A", "B", "I", "J")
	checkList(t, "a class among Ifaces", Ancestors(program(class("A", "", "B"), class("B", "C"), class("C", "")), "A"), "A", "B", "C")
	twice := program(class("A", "B", "I", "I"), iface("I"), class("A", "C"), class("B", ""), class("C", ""), iface("I", "J"), iface("J"))
	checkList(t, "of two the first one", Ancestors(twice, "A"), "A", "B", "I")
	checkList(t, "a class without a name", Ancestors(program(class("A", ""), class("", "", "I"), iface("I")), "A"), "", "A", "I")
}

// TestSub: P11.2, is one below another one?
func TestSub(t *testing.T) {
	p := family()
	for _, a := range known(p) {
		for _, b := range known(p) {
			checkIs(t, a+" below "+b, Sub(p, a, b), slices.Contains(Ancestors(p, a), b))
		}
	}
	checkIs(t, "D below A", Sub(p, "D", "A"), true)
	checkIs(t, "D below J", Sub(p, "D", "J"), true)
	checkIs(t, "D below itself", Sub(p, "D", "D"), true)
	checkIs(t, "A below D", Sub(p, "A", "D"), false)
	checkIs(t, "B below C", Sub(p, "B", "C"), false)
	checkIs(t, "what is not there below itself", Sub(p, "Z", "Z"), false)
	checkIs(t, "below what is not there", Sub(program(class("A", "Z")), "A", "Z"), false)
	ring := program(class("A", "B"), class("B", "A"))
	checkIs(t, "round a ring", Sub(ring, "A", "B") && Sub(ring, "B", "A"), true)
}

// names is the names of a program's classes, as they stand.
func names(p api.Program) []string {
	var l []string
	for _, c := range p.Classes {
		l = append(l, c.Name)
	}
	return l
}

// TestSubs: P11.2, all that are below.
func TestSubs(t *testing.T) {
	p := family()
	checkList(t, "A", Subs(p, "A"), "A", "B", "C", "D")
	checkList(t, "C", Subs(p, "C"), "C", "D")
	checkList(t, "I", Subs(p, "I"), "A", "B", "C", "D", "I", "K")
	checkList(t, "J", Subs(p, "J"), "B", "D", "J", "K")
	checkList(t, "L", Subs(p, "L"), "L")
	checkList(t, "one that is not there", Subs(p, "Z"))
	checkList(t, "named, but not there", Subs(program(class("A", "Z", "Y")), "Z"))
	checkList(t, "nothing at all", Subs(api.Program{}, "A"))
	slices.Reverse(p.Classes)
	checkList(t, "rising", Subs(p, "A"), "A", "B", "C", "D")
	twice := program(class("B", "A"), class("A", ""), class("B", ""), class("C", ""), class("C", "A"), class("A", "C"))
	checkList(t, "each once, of two the first one", Subs(twice, "A"), "A", "B")
	checkList(t, "round a ring", Subs(program(class("B", "A"), class("A", "B"), class("C", "B")), "A"), "A", "B", "C")
}

// TestCommon: P11.2, the nearest that both are below.
func TestCommon(t *testing.T) {
	p := family()
	for _, c := range []struct{ a, b, want string }{
		{"B", "C", "A"}, {"C", "B", "A"}, {"D", "B", "A"}, {"D", "C", "C"}, {"C", "D", "C"}, {"A", "D", "A"}, {"A", "A", "A"},
		{"D", "E", ""}, {"E", "E", "E"}, {"I", "I", "I"}, {"K", "K", "K"}, {"I", "K", ""}, {"K", "I", ""}, {"A", "I", ""}, {"I", "A", ""},
		{"D", "K", ""}, {"Z", "Z", ""}, {"A", "Z", ""}, {"Z", "A", ""}, {"", "", ""}, {"A", "", ""},
	} {
		if got := Common(p, c.a, c.b); got != c.want {
			t.Errorf("%s and %s: %q, not %q", c.a, c.b, got, c.want)
		}
	}
	// Where the program is not of a piece: a ring, and a Super that is an interface.
	ring := program(class("A", "B"), class("B", "A"), class("C", "A"))
	if got := Common(ring, "A", "B") + Common(ring, "B", "A") + Common(ring, "C", "B"); got != "ABA" {
		t.Errorf("in a ring: %s", got)
	}
	odd := program(class("A", "I"), class("B", "I"), iface("I"))
	if got := Common(odd, "A", "B"); got != "I" {
		t.Errorf("below an interface: %q", got)
	}
	if got := Common(odd, "A", "I") + Common(odd, "I", "A"); got != "" {
		t.Errorf("of one below an interface, and that: %q", got)
	}
	if got := Common(odd, "I", "I"); got != "I" {
		t.Errorf("of an interface and itself: %q", got)
	}
	byIface := program(class("A", ""), class("B", "", "A"), class("C", "A"))
	if got := Common(byIface, "A", "B") + Common(byIface, "B", "C"); got != "" {
		t.Errorf("of a class among Ifaces: %q", got)
	}
	twice := program(class("A", ""), iface("A"), iface("B"), class("B", "A"), class("C", "A"))
	if got := Common(twice, "A", "C") + Common(twice, "B", "C"); got != "A" {
		t.Errorf("of two the first one: %s", got)
	}
}

// TestConcrete: P11.2, what can have objects.
func TestConcrete(t *testing.T) {
	p := program(api.Class{Name: "A"}, api.Class{Name: "B", Abstract: true}, iface("I"), api.Class{Name: "B"}, api.Class{Name: "A", Abstract: true}, api.Class{Name: "J", Iface: true})
	checkIs(t, "A", Concrete(p, "A"), true)
	checkIs(t, "B", Concrete(p, "B"), false)
	checkIs(t, "I", Concrete(p, "I"), false)
	checkIs(t, "an interface that is not Abstract", Concrete(p, "J"), true)
	checkIs(t, "one that is not there", Concrete(p, "Z"), false)
	checkIs(t, "nothing at all", Concrete(api.Program{}, ""), false)
}

// TestCheckOne: P11.3, what one class has wrong.
func TestCheckOne(t *testing.T) {
	checkFound(t, "nothing", api.Program{}, api.OK, "")
	checkFound(t, "of a piece", family(), api.OK, "")
	turned := family()
	slices.Reverse(turned.Classes)
	checkFound(t, "turned about", turned, api.OK, "")
	i, a := iface("I"), class("A", "")
	checkFound(t, "no such Super", program(a, class("B", "Z"), i), api.ErrNone, "B")
	checkFound(t, "no such interface", program(a, i, class("B", "A", "I", "Z")), api.ErrNone, "B")
	checkFound(t, "no such interface of an interface", program(a, iface("I", "Z")), api.ErrNone, "I")
	checkFound(t, "an interface without a name", program(a, class("B", "A", "")), api.ErrNone, "B")
	checkFound(t, "a Super that is an interface", program(a, class("B", "I"), i), api.ErrKind, "B")
	checkFound(t, "an interface that is a class", program(a, class("B", "", "I", "A"), i), api.ErrKind, "B")
	checkFound(t, "an interface's that is a class", program(a, iface("I", "A")), api.ErrKind, "I")
	checkFound(t, "abstract, but no interface", program(api.Class{Name: "A", Abstract: true}, class("B", "A"), class("C", "A", "A")), api.ErrKind, "C")
	checkFound(t, "a class without a name", program(class("", "Z")), api.ErrNone, "")
}

// TestCheckOrder: P11.3, what is told first.
func TestCheckOrder(t *testing.T) {
	i, a := iface("I"), class("A", "")
	checkFound(t, "no such interface, and a Super of another kind", program(a, i, class("B", "I", "Z")), api.ErrNone, "B")
	checkFound(t, "no such Super, and an interface of another kind", program(a, i, class("B", "Z", "A")), api.ErrNone, "B")
	checkFound(t, "no such interface behind one of another kind", program(a, i, class("B", "", "A", "Z")), api.ErrNone, "B")
	checkFound(t, "class by class", program(a, class("C", "I"), class("B", "Z"), i), api.ErrKind, "C")
	checkFound(t, "class by class, turned about", program(i, class("B", "Z"), class("C", "I"), a), api.ErrNone, "B")
	checkFound(t, "a ring ahead of what is not there", program(class("A", "A"), class("B", "Z")), api.ErrNone, "B")
	checkFound(t, "a ring ahead of what is of another kind", program(class("A", "A"), class("B", "", "A")), api.ErrKind, "B")
	checkFound(t, "itself, of another kind", program(class("B", "", "B")), api.ErrKind, "B")
}

// TestCheckCycle: P11.3, what is above itself; what is only below that is not.
func TestCheckCycle(t *testing.T) {
	checkFound(t, "itself", program(class("A", "A")), api.ErrCycle, "A")
	checkFound(t, "an interface itself", program(class("A", ""), iface("I", "I")), api.ErrCycle, "I")
	checkFound(t, "two", program(class("C", ""), class("B", "A"), class("A", "B")), api.ErrCycle, "B")
	checkFound(t, "below a ring", program(class("C", "A"), class("A", "B"), class("B", "A")), api.ErrCycle, "A")
	checkFound(t, "of a ring's interface", program(class("C", "", "I"), iface("H", "I"), iface("I", "J", "K"), iface("J"), iface("K", "I")), api.ErrCycle, "I")
	checkFound(t, "two rings", program(class("D", "E"), class("C", "D"), class("B", "A"), class("A", "B"), class("E", "D")), api.ErrCycle, "D")
	checkFound(t, "two ways up", program(class("A", "", "I", "J"), iface("I", "K"), iface("J", "K"), iface("K")), api.OK, "")
	odd := program(class("A", "", "I"), api.Class{Name: "I", Super: "A", Iface: true, Abstract: true})
	checkFound(t, "by an interface's Super", odd, api.ErrCycle, "A")
}

// TestCheckTwice: P11.3, where two have one name: each is held against those that are found, the first ones.
func TestCheckTwice(t *testing.T) {
	checkFound(t, "the second one has no such Super", program(class("A", ""), class("A", "Z")), api.ErrNone, "A")
	checkFound(t, "the second one is below the first one", program(class("A", ""), class("A", "A")), api.ErrCycle, "A")
	checkFound(t, "the first one is of a kind", program(class("A", ""), iface("A"), class("B", "A")), api.OK, "")
	checkFound(t, "the first one is of another kind", program(iface("A"), class("A", ""), class("B", "A")), api.ErrKind, "B")
	checkFound(t, "only the second one is below", program(class("A", ""), class("B", "A"), class("B", ""), class("A", "")), api.OK, "")
}

// TestCheckEmpty: P11.3, a class without a name is found by an empty Super; that it is not there is no error.
func TestCheckEmpty(t *testing.T) {
	checkFound(t, "a class", program(class("A", ""), class("", "B"), class("B", "")), api.ErrCycle, "")
	checkFound(t, "a class alone", program(class("", "")), api.ErrCycle, "")
	checkFound(t, "a class that goes on", program(class("A", ""), class("", "B"), class("B", "A")), api.ErrCycle, "A")
	checkFound(t, "an interface", program(class("A", ""), iface("")), api.ErrKind, "A")
}

// wild is a program of few names, that is hardly ever of a piece: names stand twice, are not there, and go round.
func wild(chance *rand.Rand) api.Program {
	few := 2 + chance.Intn(7)
	name := func() string { return string(rune('A' + chance.Intn(few))) }
	var p api.Program
	for range chance.Intn(10) {
		c := api.Class{Name: name(), Iface: chance.Intn(3) == 0, Abstract: chance.Intn(3) == 0}
		if chance.Intn(4) > 0 {
			c.Super = name()
		}
		for range chance.Intn(3) {
			c.Ifaces = append(c.Ifaces, name())
		}
		p.Classes = append(p.Classes, c)
	}
	return p
}

// tame is a program that norm.Right finds nothing wrong with, nor Check: what stands above a class comes ahead of it.
func tame(chance *rand.Rand) api.Program {
	var classes, ifaces []string
	p := api.Program{}
	for i, at := range chance.Perm(1 + chance.Intn(12)) {
		c := api.Class{Name: "n" + strconv.Itoa(100+at), Iface: i%3 == 1}
		c.Abstract = c.Iface || chance.Intn(2) == 0
		for _, name := range ifaces {
			if chance.Intn(3) == 0 {
				c.Ifaces = append(c.Ifaces, name)
			}
		}
		if c.Iface {
			ifaces = append(ifaces, c.Name)
		} else {
			if len(classes) > 0 && chance.Intn(5) > 0 {
				c.Super = classes[chance.Intn(len(classes))]
			}
			classes = append(classes, c.Name)
		}
		p.Classes = append(p.Classes, c)
	}
	return norm.Sorted(p)
}

// programs is many programs that a fixed seed turns about, of both kinds.
func programs() []api.Program {
	chance := rand.New(rand.NewSource(11))
	var l []api.Program
	for range 600 {
		l = append(l, wild(chance), tame(chance))
	}
	return l
}

// known is the names that a program has, and some that it has not.
func known(p api.Program) []string {
	l := append(names(p), "Z", "")
	slices.Sort(l)
	return slices.Compact(l)
}

// reach is which class is, or is below which, reckoned by going on till nothing more comes.
func reach(p api.Program) map[[2]string]bool {
	is := map[[2]string]bool{}
	for more := true; more; {
		more = false
		for i, c := range p.Classes {
			if norm.Class(p, c.Name) != i {
				continue
			}
			to := []string{c.Name}
			for _, name := range append([]string{c.Super}, c.Ifaces...) {
				for _, other := range known(p) {
					if is[[2]string{name, other}] {
						to = append(to, other)
					}
				}
			}
			for _, name := range to {
				more = more || !is[[2]string{c.Name, name}]
				is[[2]string{c.Name, name}] = true
			}
		}
	}
	return is
}

// TestOnAll: P11.1, P11.2, P11.3, held against what is reckoned otherwise.
func TestOnAll(t *testing.T) {
	for _, p := range programs() {
		is := reach(p)
		for _, a := range known(p) {
			var ups, downs []string
			for _, b := range known(p) {
				if is[[2]string{a, b}] {
					ups = append(ups, b)
				}
				if is[[2]string{b, a}] {
					downs = append(downs, b)
				}
				checkIs(t, a+" below "+b, Sub(p, a, b), is[[2]string{a, b}])
			}
			checkList(t, "above "+a, Ancestors(p, a), ups...)
			checkList(t, "below "+a, Subs(p, a), downs...)
		}
		e, name := reckoned(p, is)
		checkFound(t, "in all", p, e, name)
		if t.Failed() {
			t.Fatalf("%+v", p)
		}
	}
}

// reckoned is what Check finds, by what is below what.
func reckoned(p api.Program, is map[[2]string]bool) (api.Errno, string) {
	for _, c := range p.Classes {
		e := api.OK
		for i, name := range append([]string{c.Super}, c.Ifaces...) {
			at := norm.Class(p, name)
			switch {
			case at == api.None && (i > 0 || name != ""):
				e = api.ErrNone
			case at != api.None && p.Classes[at].Iface != (i > 0) && e == api.OK:
				e = api.ErrKind
			}
		}
		if e != api.OK {
			return e, c.Name
		}
	}
	for _, c := range p.Classes {
		for _, name := range append([]string{c.Super}, c.Ifaces...) {
			if is[[2]string{name, c.Name}] {
				return api.ErrCycle, c.Name
			}
		}
	}
	return api.OK, ""
}

// TestBelowGoesOn: P11.4, what is below what is below a third one.
func TestBelowGoesOn(t *testing.T) {
	for _, p := range programs() {
		for _, c := range known(p) {
			below := Subs(p, c)
			for _, b := range below {
				for _, a := range Subs(p, b) {
					if !slices.Contains(below, a) {
						t.Fatalf("%s, %s, %s: %+v", a, b, c, p)
					}
				}
			}
		}
	}
}

// pieces is those of programs that are right, and that Check finds nothing in.
func pieces(t *testing.T) []api.Program {
	var l []api.Program
	for _, p := range programs() {
		if e, _ := Check(p); e == api.OK && norm.Right(p) == api.OK {
			l = append(l, p)
		}
	}
	if len(l) < 600 {
		t.Fatalf("only %d are of a piece", len(l))
	}
	return l
}

// TestCommonIsNearest: P11.5, the same from both sides, above both, and below all that is so.
func TestCommonIsNearest(t *testing.T) {
	for _, p := range pieces(t) {
		for _, a := range names(p) {
			for _, b := range names(p) {
				c := Common(p, a, b)
				if c != Common(p, b, a) {
					t.Fatalf("%s and %s: not the same from both sides: %+v", a, b, p)
				}
				if c != "" && !(Sub(p, a, c) && Sub(p, b, c)) {
					t.Fatalf("%s and %s: not both are below %s: %+v", a, b, c, p)
				}
				for _, over := range p.Classes {
					if !over.Iface && Sub(p, a, over.Name) && Sub(p, b, over.Name) && !Sub(p, c, over.Name) {
						t.Fatalf("%s and %s: %q is not below %s: %+v", a, b, c, over.Name, p)
					}
				}
			}
		}
	}
}

// TestNoTwoAreAlike: P11.6, where Check finds nothing.
func TestNoTwoAreAlike(t *testing.T) {
	for _, p := range programs() {
		if e, _ := Check(p); e != api.OK {
			continue
		}
		for _, a := range names(p) {
			for _, b := range names(p) {
				if a != b && Sub(p, a, b) && Sub(p, b, a) {
					t.Fatalf("%s and %s: %+v", a, b, p)
				}
			}
		}
	}
}

// TestNothingIsTouched: P3, what is handed in stays as it is, the room behind a list, too; what is answered is the caller's.
func TestNothingIsTouched(t *testing.T) {
	p := family()
	for i, c := range p.Classes {
		p.Classes[i].Ifaces = slices.Concat(c.Ifaces, []string{"room", "room"})[:len(c.Ifaces)]
	}
	for _, ask := range []func(api.Program, string) []string{Supers, Ancestors, Subs} {
		first := ask(p, "C")
		was := slices.Clone(first)
		for i := range first {
			first[i] = "changed"
		}
		_ = append(first, "more")
		checkList(t, "asked again", ask(p, "C"), was...)
	}
	Check(p)
	Sub(p, "D", "I")
	Common(p, "B", "C")
	Concrete(p, "B")
	if !norm.Same(p, family()) {
		t.Errorf("%+v", p)
	}
	for _, c := range p.Classes {
		checkList(t, "behind those of "+c.Name, c.Ifaces[len(c.Ifaces):len(c.Ifaces)+2], "room", "room")
	}
}

// TestMany: P1, a long way up, and a wide one, come to an end.
func TestMany(t *testing.T) {
	const size = 600
	var p api.Program
	name := func(i int) string { return "n" + strconv.Itoa(10000+i) }
	wide := class("wide", "")
	for i := range size {
		p.Classes = append(p.Classes, class(name(i), name((i+1)%size)))
		wide.Ifaces = append(wide.Ifaces, name(i))
	}
	p.Classes = append(p.Classes, wide)
	checkFound(t, "a ring and a class of all", p, api.ErrKind, "wide")
	if n := len(Supers(p, name(5))); n != size {
		t.Errorf("%d Supers", n)
	}
	if n := len(Ancestors(p, "wide")); n != size+1 {
		t.Errorf("%d ancestors", n)
	}
	p.Classes[size-1].Super = ""
	if n := len(Subs(p, name(size-1))); n != size+1 {
		t.Errorf("%d below", n)
	}
	p.Classes = p.Classes[:size]
	checkFound(t, "a long way up", p, api.OK, "")
}
