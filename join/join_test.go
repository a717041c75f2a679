package join

import (
	"math/rand"
	"reflect"
	"slices"
	"strconv"
	"strings"
	"testing"

	"secateur/api"
	"secateur/hier"
	"secateur/norm"
)

// fact reads a fact: - i n a are Unset, IsInt, IsNil and AnyRef, [I is IsInts, LA and [LA are of the class A.
func fact(s string) api.Fact {
	switch s {
	case "-":
		return api.Fact{}
	case "i":
		return api.Fact{Kind: api.IsInt}
	case "n":
		return api.Fact{Kind: api.IsNil}
	case "a":
		return api.Fact{Kind: api.AnyRef}
	case "[I":
		return api.Fact{Kind: api.IsInts}
	}
	if class, ok := strings.CutPrefix(s, "[L"); ok {
		return api.Fact{Kind: api.IsRefs, Class: class}
	}
	return api.Fact{Kind: api.IsRef, Class: strings.TrimPrefix(s, "L")}
}

func facts(s string) []api.Fact {
	var l []api.Fact
	for _, field := range strings.Fields(s) {
		l = append(l, fact(field))
	}
	return l
}

// class and iface are classes with what stands above them alone.
func class(name, super string, ifaces ...string) api.Class {
	return api.Class{Name: name, Super: super, Ifaces: ifaces}
}

func iface(name string, ifaces ...string) api.Class {
	return api.Class{Name: name, Iface: true, Abstract: true, Ifaces: ifaces}
}

func program(l ...api.Class) api.Program {
	return api.Program{Classes: l}
}

// family is of a piece: D below C below A, B below A, E alone; I and J are interfaces, K below both.
func family() api.Program {
	return program(
		class("A", "", "I"), class("B", "A", "J"), class("C", "A"), class("D", "C", "K"), class("E", ""),
		iface("I"), iface("J"), iface("K", "I", "J"),
	)
}

func checkFact(t *testing.T, what string, got, want api.Fact) {
	t.Helper()
	if got != want {
		t.Errorf("%s: %v, not %v", what, got, want)
	}
}

func checkFacts(t *testing.T, what string, got, want []api.Fact) {
	t.Helper()
	if !slices.Equal(got, want) {
		t.Errorf("%s: %v, not %v", what, got, want)
	}
}

// TestOf: P15.1, what is known of a value of a type.
func TestOf(t *testing.T) {
	for _, c := range []struct {
		t    api.Type
		want string
	}{
		{api.Type{Kind: api.Int}, "i"}, {api.Type{Kind: api.Ints}, "[I"},
		{api.Type{Kind: api.Ref, Class: "A"}, "LA"}, {api.Type{Kind: api.Refs, Class: "a/B"}, "[La/B"},
		{api.Type{Kind: api.Ref}, "L"}, {api.Type{Kind: api.Refs, Class: "\xff;"}, "[L\xff;"},
		{api.Type{}, "-"}, {api.Type{Kind: api.Void}, "-"}, {api.Type{Kind: -1}, "-"}, {api.Type{Kind: 6}, "-"},
		// Class is of IsRef and IsRefs alone.
		{api.Type{Kind: api.Void, Class: "A"}, "-"}, {api.Type{Kind: api.Int, Class: "A"}, "i"}, {api.Type{Kind: api.Ints, Class: "A"}, "[I"},
	} {
		checkFact(t, c.want, Of(c.t), fact(c.want))
	}
}

// TestIsRef: P15.1, five kinds are references.
func TestIsRef(t *testing.T) {
	for k := api.FactKind(-2); k <= api.AnyRef+2; k++ {
		is := k == api.IsNil || k == api.IsRef || k == api.IsInts || k == api.IsRefs || k == api.AnyRef
		for _, name := range []string{"", "A"} {
			if IsRef(api.Fact{Kind: k, Class: name}) != is {
				t.Errorf("%d: %v", k, !is)
			}
		}
	}
}

// every is one fact of each kind and of each class of family, and of one that is not there.
const every = "- i n a [I LA LB LC LD LE LI LJ LK LZ [LA [LB [LC [LD [LE [LI [LJ [LK [LZ"

// TestFits: P15.1, what can stand where a type is asked: these, and no others.
func TestFits(t *testing.T) {
	for _, c := range []struct {
		t    api.Type
		want string
	}{
		{api.Type{Kind: api.Int}, "i"}, {api.Type{Kind: api.Ints}, "n [I"},
		{api.Type{Kind: api.Ref, Class: "A"}, "n LA LB LC LD"}, {api.Type{Kind: api.Ref, Class: "B"}, "n LB"}, {api.Type{Kind: api.Ref, Class: "C"}, "n LC LD"}, {api.Type{Kind: api.Ref, Class: "E"}, "n LE"},
		{api.Type{Kind: api.Ref, Class: "I"}, "n LA LB LC LD LI LK"}, {api.Type{Kind: api.Ref, Class: "J"}, "n LB LD LJ LK"}, {api.Type{Kind: api.Ref, Class: "K"}, "n LD LK"},
		// What is not there nothing is, or is below, as hier.Sub tells.
		{api.Type{Kind: api.Ref, Class: "Z"}, "n"}, {api.Type{Kind: api.Ref}, "n"},
		{api.Type{Kind: api.Refs, Class: "A"}, "n [LA"}, {api.Type{Kind: api.Refs, Class: "I"}, "n [LI"}, {api.Type{Kind: api.Refs, Class: "Z"}, "n [LZ"}, {api.Type{Kind: api.Refs}, "n"},
		{api.Type{}, ""}, {api.Type{Kind: api.Void}, ""}, {api.Type{Kind: -1}, ""}, {api.Type{Kind: 6, Class: "A"}, ""},
	} {
		for _, f := range facts(every) {
			if got := Fits(family(), f, c.t); got != slices.Contains(facts(c.want), f) {
				t.Errorf("%v of %v: %v", f, c.t, got)
			}
		}
	}
	for _, k := range []api.FactKind{-1, 7} {
		for kind := api.NoKind; kind <= api.Refs; kind++ {
			if Fits(family(), api.Fact{Kind: k, Class: "A"}, api.Type{Kind: kind, Class: "A"}) {
				t.Errorf("%d of %d", k, kind)
			}
		}
	}
	if Fits(api.Program{}, fact("LA"), api.Type{Kind: api.Ref, Class: "A"}) || !Fits(api.Program{}, fact("[LA"), api.Type{Kind: api.Refs, Class: "A"}) {
		t.Error("without classes")
	}
}

// joins is what is known of one of two, a line each: both, and what they come to.
const joins = `
- - -
- i -
- n -
- a -
- [I -
- LA -
- [LA -
i i i
i n -
i a -
i [I -
i LA -
i [LA -
n n n
n a a
n [I [I
n LA LA
n LI LI
n LZ LZ
n [LA [LA
a a a
a [I a
a LA a
a [LA a
[I [I [I
[I LA a
[I [LA a
[LA [LA [LA
[LA [LB a
[LA [LI a
[LA LA a
[LZ [LZ [LZ
LA LA LA
LA LB LA
LA LC LA
LA LD LA
LA LE a
LA LI a
LB LC LA
LB LD LA
LB LJ a
LC LD LC
LD LE a
LD LK a
LE LE LE
LI LI LI
LI LJ a
LI LK a
LA LZ a
LI LZ a
LZ LZ LZ
`

// TestJoin: P15.2, what is known of one of two.
func TestJoin(t *testing.T) {
	for line := range strings.Lines(strings.TrimSpace(joins)) {
		l := facts(line)
		checkFact(t, line, Join(family(), l[0], l[1]), l[2])
		checkFact(t, "turned about: "+line, Join(family(), l[1], l[0]), l[2])
	}
	// What is no kind is alike with itself alone, and no reference.
	odd := api.Fact{Kind: 7, Class: "A"}
	checkFact(t, "no kind", Join(family(), odd, odd), odd)
	for _, f := range facts(every) {
		checkFact(t, "no kind, and another one", Join(family(), odd, f), api.Fact{})
		checkFact(t, "another one, and no kind", Join(family(), f, api.Fact{Kind: -1}), api.Fact{})
	}
}

// TestJoinOfNoPiece: P15.2, by hier.Common, where the program is not of a piece.
func TestJoinOfNoPiece(t *testing.T) {
	odd := program(class("A", "I"), class("B", "I"), iface("I"), class("C", "Z"), class("D", "Z"), class("A", ""))
	checkFact(t, "below an interface", Join(odd, fact("LA"), fact("LB")), fact("LI"))
	checkFact(t, "with that interface", Join(odd, fact("LA"), fact("LI")), fact("a"))
	checkFact(t, "below what is not there", Join(odd, fact("LC"), fact("LD")), fact("a"))
	checkFact(t, "without classes", Join(api.Program{}, fact("LC"), fact("LD")), fact("a"))
	checkFact(t, "without classes, alike", Join(api.Program{}, fact("LC"), fact("LC")), fact("LC"))
	// Of an empty name, too, if there is such a class.
	checkFact(t, "below a class without a name", Join(program(class("", ""), class("A", ""), class("B", "")), fact("LA"), fact("LB")), fact("a"))
}

// TestBelow: P15.2, whether one says no more than another one.
func TestBelow(t *testing.T) {
	for _, a := range facts(every) {
		for _, b := range facts(every) {
			if got := Below(family(), a, b); got != under(family(), a, b) {
				t.Errorf("%v and %v: %v", a, b, got)
			}
		}
	}
}

// TestMerge: P15.2, register by register, as long as the shorter one is.
func TestMerge(t *testing.T) {
	p := family()
	a, b := facts("LB i n LA - [I"), facts("LC i LD [LA n")
	want := facts("LA i LD a -")
	checkFacts(t, "a shorter second one", Merge(p, a, b), want)
	checkFacts(t, "a shorter first one", Merge(p, b, a), want)
	checkFacts(t, "two as long", Merge(p, a[:5], b), want)
	checkFacts(t, "one each", Merge(p, a[2:3], b[2:3]), want[2:3])
	for _, none := range [][]api.Fact{nil, {}} {
		checkFacts(t, "none", Merge(p, none, none), nil)
		checkFacts(t, "the first one none", Merge(p, none, b), nil)
		checkFacts(t, "the second one none", Merge(p, a, none), nil)
	}
}

// tame is a program that norm.Right finds nothing wrong with, nor hier.Check: what stands above a class comes ahead of it.
func tame(chance *rand.Rand) api.Program {
	var classes, ifaces []string
	var p api.Program
	for i, at := range chance.Perm(1 + chance.Intn(8)) {
		c := api.Class{Name: "n" + strconv.Itoa(at), Iface: i%4 == 3}
		c.Abstract = c.Iface || chance.Intn(2) == 0
		for _, name := range ifaces {
			if chance.Intn(2) == 0 {
				c.Ifaces = append(c.Ifaces, name)
			}
		}
		if c.Iface {
			ifaces = append(ifaces, c.Name)
		} else {
			if len(classes) > 0 && chance.Intn(6) > 0 {
				c.Super = classes[chance.Intn(len(classes))]
			}
			classes = append(classes, c.Name)
		}
		p.Classes = append(p.Classes, c)
	}
	return norm.Sorted(p)
}

// wild is a program that is hardly ever of a piece: names stand twice, and are not there; but no class is above itself by Supers.
func wild(chance *rand.Rand) api.Program {
	var p api.Program
	for range chance.Intn(10) {
		at := chance.Intn(6)
		c := api.Class{Name: "n" + strconv.Itoa(at), Iface: chance.Intn(4) == 0}
		if chance.Intn(5) > 0 {
			c.Super = "n" + strconv.Itoa(at+1+chance.Intn(2))
		}
		for range chance.Intn(3) {
			c.Ifaces = append(c.Ifaces, "n"+strconv.Itoa(chance.Intn(7)))
		}
		p.Classes = append(p.Classes, c)
	}
	return p
}

// programs is many programs that a fixed seed turns about.
func programs(size int, one func(*rand.Rand) api.Program) []api.Program {
	chance := rand.New(rand.NewSource(15))
	var l []api.Program
	for range size {
		l = append(l, one(chance))
	}
	return l
}

// pieces is many programs that are right, and of a piece.
func pieces(t *testing.T, size int) []api.Program {
	t.Helper()
	l := programs(size, tame)
	for _, p := range l {
		if e, _ := hier.Check(p); e != api.OK || norm.Right(p) != api.OK {
			t.Fatalf("not of a piece: %+v", p)
		}
	}
	return l
}

// known is all facts that there are in a program, and some of a class that is not there.
func known(p api.Program) []api.Fact {
	l := facts("- i n a [I LZ [LZ")
	for _, c := range p.Classes {
		l = append(l, fact("L"+c.Name), fact("[L"+c.Name))
	}
	return l
}

// under tells whether one fact says no more than another one, in a program of a piece, by what they mean.
func under(p api.Program, a, b api.Fact) bool {
	switch {
	case a == b || b.Kind == api.Unset:
		return true
	case a.Kind == api.Unset || a.Kind == api.IsInt || b.Kind == api.IsInt:
		return false
	case a.Kind == api.IsNil || b.Kind == api.AnyRef:
		return true
	case a.Kind != api.IsRef || b.Kind != api.IsRef:
		return false
	}
	for name := a.Class; name != ""; {
		if name == b.Class {
			return true
		}
		at := slices.IndexFunc(p.Classes, func(c api.Class) bool { return c.Name == name })
		if at < 0 {
			return false
		}
		name = p.Classes[at].Super
	}
	return false
}

// least is the one of all facts that both are under, and that is under each other such one.
func least(p api.Program, a, b api.Fact) api.Fact {
	l := slices.DeleteFunc(known(p), func(f api.Fact) bool { return !under(p, a, f) || !under(p, b, f) })
	at := slices.IndexFunc(l, func(f api.Fact) bool {
		return !slices.ContainsFunc(l, func(other api.Fact) bool { return !under(p, f, other) })
	})
	return l[at]
}

// TestOnAll: P15.2, held against what the facts mean.
func TestOnAll(t *testing.T) {
	common := 0
	for _, p := range pieces(t, 400) {
		for _, a := range known(p) {
			for _, b := range known(p) {
				want := least(p, a, b)
				if want != a && want != b && want.Kind == api.IsRef {
					common++
				}
				if got := Join(p, a, b); got != want {
					t.Fatalf("%v and %v: %v, not %v: %+v", a, b, got, want, p)
				}
				if Below(p, a, b) != under(p, a, b) {
					t.Fatalf("%v below %v: %+v", a, b, p)
				}
			}
		}
	}
	if common < 500 {
		t.Errorf("only %d have a third one above both", common)
	}
}

// TestEitherSide: P15.3, the same from both sides, and of one with itself that.
func TestEitherSide(t *testing.T) {
	for _, p := range slices.Concat(pieces(t, 200), programs(500, wild)) {
		for _, a := range known(p) {
			checkFact(t, "with itself", Join(p, a, a), a)
			for _, b := range known(p) {
				if one, other := Join(p, a, b), Join(p, b, a); one != other {
					t.Fatalf("%v and %v: %v, %v: %+v", a, b, one, other, p)
				}
			}
		}
	}
}

// TestAnyOrder: P15.4, of three it does not matter which two are first.
func TestAnyOrder(t *testing.T) {
	for _, p := range pieces(t, 150) {
		for _, a := range known(p) {
			for _, b := range known(p) {
				for _, c := range known(p) {
					if one, other := Join(p, Join(p, a, b), c), Join(p, a, Join(p, b, c)); one != other {
						t.Fatalf("%v, %v and %v: %v, %v: %+v", a, b, c, one, other, p)
					}
				}
			}
		}
	}
}

// TestLeast: P15.5, both are Below Join, and it is Below each that both are.
func TestLeast(t *testing.T) {
	for _, p := range pieces(t, 150) {
		for _, a := range known(p) {
			for _, b := range known(p) {
				joined := Join(p, a, b)
				if !Below(p, a, joined) || !Below(p, b, joined) {
					t.Fatalf("%v and %v: %v: %+v", a, b, joined, p)
				}
				for _, c := range known(p) {
					if Below(p, a, c) && Below(p, b, c) && !Below(p, joined, c) {
						t.Fatalf("%v and %v: %v is not below %v: %+v", a, b, joined, c, p)
					}
				}
			}
		}
	}
}

// TestFitsBelow: P15.6, what is Below one that fits a type fits it, too.
func TestFitsBelow(t *testing.T) {
	count := 0
	for _, p := range pieces(t, 200) {
		types := []api.Type{{}, {Kind: api.Void}, {Kind: api.Int}, {Kind: api.Ints}}
		for _, c := range p.Classes {
			types = append(types, api.Type{Kind: api.Ref, Class: c.Name}, api.Type{Kind: api.Refs, Class: c.Name})
		}
		for _, a := range known(p) {
			for _, b := range known(p) {
				for _, asked := range types {
					if a == b || !Below(p, a, b) || !Fits(p, b, asked) {
						continue
					}
					count++
					if !Fits(p, a, asked) {
						t.Fatalf("%v below %v: %v: %+v", a, b, asked, p)
					}
				}
			}
		}
	}
	if count < 1000 {
		t.Errorf("only %d", count)
	}
}

// TestNothingIsTouched: P3, what is handed in stays as it is, the room behind it, too; what is answered is the caller's.
func TestNothingIsTouched(t *testing.T) {
	p := family()
	room, other := facts("LB n [I i"), facts("LC LE i i")
	a, b := room[:3], other[:2]
	l := Merge(p, a, b)
	for i := range l {
		l[i] = fact("LK")
	}
	_ = append(l, fact("LK"))
	checkFacts(t, "asked again", Merge(p, a, b), facts("LA LE"))
	checkFacts(t, "the first one", room, facts("LB n [I i"))
	checkFacts(t, "the second one", other, facts("LC LE i i"))
	if !reflect.DeepEqual(p, family()) {
		t.Errorf("%+v", p)
	}
}

// TestAnything: P1, whatever is handed in, it ends: rings, facts and types that can't be.
func TestAnything(t *testing.T) {
	ring := program(class("A", "B", "A", "I"), class("B", "C"), class("C", "A"), iface("I", "J"), iface("J", "I"), class("", ""), class("D", "A"))
	var odd []api.Fact
	for k := api.FactKind(-1); k <= api.AnyRef+1; k++ {
		for _, name := range []string{"", "A", "B", "D", "I", "Z", "\x00\xff"} {
			odd = append(odd, api.Fact{Kind: k, Class: name})
		}
	}
	for _, p := range []api.Program{ring, {}} {
		if e, _ := hier.Check(p); (e == api.OK) != (len(p.Classes) == 0) {
			t.Fatal("the ring is none")
		}
		for _, a := range odd {
			for _, b := range odd {
				if joined := Join(p, a, b); Below(p, a, b) != (joined == b) || a == b && joined != a {
					t.Errorf("%v and %v: %v", a, b, joined)
				}
			}
			for k := api.Kind(-1); k <= api.Refs+1; k++ {
				Fits(p, a, api.Type{Kind: k, Class: a.Class})
			}
		}
		if l := Merge(p, odd, odd); !slices.Equal(l, odd) {
			t.Errorf("%v", l)
		}
	}
}
