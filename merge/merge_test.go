package merge

import (
	"math"
	"math/rand"
	"reflect"
	"slices"
	"strconv"
	"strings"
	"testing"

	"secateur/api"
	"secateur/norm"
)

// class is a class alone.
func class(names ...string) api.Program {
	var p api.Program
	for _, n := range names {
		p.Classes = append(p.Classes, api.Class{Name: n})
	}
	return p
}

// some is a program of so many classes, whose names begin alike.
func some(begin string, n int) api.Program {
	var p api.Program
	for i := range n {
		p.Classes = append(p.Classes, api.Class{Name: begin + strconv.Itoa(100+i)})
	}
	return p
}

func begun(p api.Program, class string) api.Program {
	p.Entry = api.MethodRef{Class: class, Name: "main", Desc: "()V"}
	return p
}

func looking(p api.Program, names ...string) api.Program {
	p.Names = names
	return p
}

// whole is a program that is right, and names classes by all that can name some.
func whole() api.Program {
	return api.Program{
		Classes: []api.Class{
			{
				Name: "B", Super: "Super", Ifaces: []string{"Iface", "Iface2"},
				Fields: []api.Field{
					{Name: "f", Type: api.Type{Kind: api.Ref, Class: "OfField"}},
					{Name: "g", Type: api.Type{Kind: api.Refs, Class: "OfArray"}, Static: true},
					{Name: "h", Type: api.Type{Kind: api.Ints}},
				},
				Methods: []api.Method{
					{Name: "m", Desc: "(LOfParam;[LOfParams;I)LOfAnswer;", Regs: 4, Code: []api.Instr{
						{Op: api.New, Class: "OfNew"},
						{Op: api.GetStatic, Class: "OfGet", Name: "f"},
						{Op: api.CallStatic, Class: "OfCall", Name: "m", Desc: "(LOfCallParam;)[LOfCallAnswer;", Args: []int{0}},
						{Op: api.Is, Class: "C"},
						{Op: api.Return},
					}},
				},
			},
			{Name: "C", Super: "B", Methods: []api.Method{{Name: "n", Desc: "(LB;LC;)V", Static: true, Regs: 2, Code: []api.Instr{{Op: api.Init, Class: "B"}, {Op: api.End}}}}},
			{Name: "D", Iface: true, Abstract: true, Ifaces: []string{"Iface"}, Methods: []api.Method{{Name: "n", Desc: "()LOfAbstract;", Abstract: true}}},
		},
		Names: []string{"Z", "B", "", "Z"},
		Entry: api.MethodRef{Class: "OfEntry", Name: "main", Desc: "()I"},
	}
}

// all is what whole names, and does not have.
func all() []string {
	return []string{
		"Iface", "Iface2", "OfAbstract", "OfAnswer", "OfArray", "OfCall", "OfCallAnswer", "OfCallParam", "OfEntry",
		"OfField", "OfGet", "OfNew", "OfParam", "OfParams", "Super",
	}
}

// checkFault checks what Merge refuses, and that nothing comes with it.
func checkFault(t *testing.T, what string, want api.Fault, l ...api.Program) {
	t.Helper()
	p, f := Merge(l)
	if f != want {
		t.Errorf("%s: %v, not %v", what, f, want)
	}
	if !reflect.DeepEqual(p, api.Program{}) {
		t.Errorf("%s: with a fault there is %v", what, p)
	}
}

// TestMerge: P10.1, what several programs come to.
func TestMerge(t *testing.T) {
	a := looking(class("A", "E"), "y", "x", "y")
	p, f := Merge([]api.Program{class("D"), a, {}, begun(class("B", "C", "F"), "A")})
	want := looking(begun(class("A", "B", "C", "D", "E", "F"), "A"), "y", "x", "y")
	if f != (api.Fault{}) || !norm.Same(p, want) {
		t.Errorf("%v, %v", p, f)
	}
	if p, f := Merge([]api.Program{whole()}); f != (api.Fault{}) || !norm.Same(p, whole()) {
		t.Errorf("one alone: %v, %v", p, f)
	}
	// The entry need not be there, and there need be no class.
	if p, f := Merge([]api.Program{{}, begun(api.Program{}, "Z")}); f != (api.Fault{}) || !norm.Same(p, begun(api.Program{}, "Z")) {
		t.Errorf("an entry alone: %v, %v", p, f)
	}
}

// TestMergeCounts: P10.1, how many there may be.
func TestMergeCounts(t *testing.T) {
	checkFault(t, "nil", api.Fault{Errno: api.ErrEntry})
	if _, f := Merge([]api.Program{}); f != (api.Fault{Errno: api.ErrEntry}) {
		t.Errorf("none: %v", f)
	}
	l := make([]api.Program, 8)
	l[7] = begun(class("A"), "A")
	if p, f := Merge(l); f != (api.Fault{}) || !norm.Same(p, l[7]) {
		t.Errorf("as many as may be: %v, %v", p, f)
	}
	checkFault(t, "one more", api.Fault{Errno: api.ErrLong}, make([]api.Program, 9)...)
	checkFault(t, "one more, that can't be", api.Fault{Errno: api.ErrLong}, many(9, class("?"))...)
	x, y := some("x", 40), begun(some("y", 24), "A")
	if p, f := Merge([]api.Program{y, x}); f != (api.Fault{}) || len(p.Classes) != 64 || p.Classes[0].Name != "x100" || p.Classes[63].Name != "y123" {
		t.Errorf("as many classes as may be: %v, %v", p, f)
	}
	checkFault(t, "one class more", api.Fault{Errno: api.ErrLong, At: 2}, x, some("y", 25), y)
	checkFault(t, "one class more at the end", api.Fault{Errno: api.ErrLong, At: 3}, x, y, class("A"))
	checkFault(t, "too many in one", api.Fault{Errno: api.ErrLong, At: 2}, class("A"), some("x", 65))
}

func many(n int, p api.Program) []api.Program {
	l := make([]api.Program, n)
	for i := range l {
		l[i] = p
	}
	return l
}

// TestMergeRefuses: P10.1, what is refused, and at which member.
func TestMergeRefuses(t *testing.T) {
	main := begun(class("Main"), "Main")
	checkFault(t, "what can't be", api.Fault{Errno: api.ErrForm, At: 1}, class("?"), main)
	checkFault(t, "the last that can't be", api.Fault{Errno: api.ErrForm, At: 3}, class("A"), main, class("B", "B?"))
	checkFault(t, "what is in disorder", api.Fault{Errno: api.ErrOrder, At: 2}, main, class("B", "A"))
	checkFault(t, "a class twice in one", api.Fault{Errno: api.ErrOrder, At: 1}, class("A", "A"), main)
	checkFault(t, "a class twice", api.Fault{Errno: api.ErrExist, At: 2}, class("A"), class("A"))
	checkFault(t, "a class twice, not of the one ahead", api.Fault{Errno: api.ErrExist, At: 4}, class("A", "B"), main, class("C"), class("A0", "B"))
	checkFault(t, "the same", api.Fault{Errno: api.ErrExist, At: 2}, main, main)
	checkFault(t, "names twice", api.Fault{Errno: api.ErrExist, At: 3}, looking(class("A"), "x"), main, looking(class("B"), "y"))
	checkFault(t, "two entries", api.Fault{Errno: api.ErrEntry, At: 3}, main, class("A"), begun(class("B"), "B"))
	checkFault(t, "two entries alike", api.Fault{Errno: api.ErrEntry, At: 2}, main, begun(class("B"), "Main"))
	checkFault(t, "no entry", api.Fault{Errno: api.ErrEntry}, class("A"))
	checkFault(t, "no entry in any", api.Fault{Errno: api.ErrEntry}, class("A"), looking(class("B"), "x"), api.Program{})
}

// TestMergeFirst: P10.1, P2: where several things are wrong, the first one that is named, of the first member.
func TestMergeFirst(t *testing.T) {
	main := looking(begun(some("m", 40), "A"), "x")
	checkFault(t, "its form ahead of its classes' names", api.Fault{Errno: api.ErrForm, At: 2}, main, looking(begun(class("m100", "m?"), "A"), "x"))
	checkFault(t, "classes ahead of the entry", api.Fault{Errno: api.ErrExist, At: 2}, main, begun(class("m100"), "A"))
	checkFault(t, "names ahead of the entry", api.Fault{Errno: api.ErrExist, At: 2}, main, looking(begun(some("y", 30), "A"), "x"))
	checkFault(t, "the entry ahead of too many", api.Fault{Errno: api.ErrEntry, At: 2}, main, begun(some("y", 30), "A"))
	checkFault(t, "names ahead of too many", api.Fault{Errno: api.ErrExist, At: 2}, main, looking(some("y", 30), "x"))
	checkFault(t, "a member ahead of what comes later", api.Fault{Errno: api.ErrLong, At: 2}, main, some("y", 30), class("?"))
	checkFault(t, "a later member ahead of no entry", api.Fault{Errno: api.ErrForm, At: 2}, class("A"), class("?"))
}

// TestSplit: P10.2.
func TestSplit(t *testing.T) {
	l := Split(whole())
	if len(l) != 3 {
		t.Fatalf("%v", l)
	}
	for i, p := range l {
		want := api.Program{Classes: whole().Classes[i : i+1]}
		if i == 0 {
			want.Names, want.Entry = whole().Names, whole().Entry
		}
		if !norm.Same(p, want) {
			t.Errorf("part %d: %v, not %v", i, p, want)
		}
	}
	without := looking(begun(api.Program{}, "A"), "x", "y")
	if l := Split(without); len(l) != 1 || !norm.Same(l[0], without) {
		t.Errorf("without classes: %v", l)
	}
	if l := Split(api.Program{}); len(l) != 1 || !norm.Same(l[0], api.Program{}) {
		t.Errorf("of nothing: %v", l)
	}
	if l := Split(class("A")); len(l) != 1 || !norm.Same(l[0], class("A")) {
		t.Errorf("one class: %v", l)
	}
	for what, p := range map[string]api.Program{"disorder": class("B", "A"), "form": class("?"), "too many": some("x", 65)} {
		if l := Split(p); len(l) != 0 {
			t.Errorf("%s: %v", what, l)
		}
	}
	if l := Split(some("x", 64)); len(l) != 64 || l[63].Classes[0].Name != "x163" {
		t.Errorf("as many as may be: %v", l)
	}
}

// TestMissing: P10.2.
func TestMissing(t *testing.T) {
	if l := Missing(whole()); !slices.Equal(l, all()) {
		t.Errorf("%q, not %q", l, all())
	}
	// Each class that is there is not missing, however it is named.
	p := whole()
	for i, name := range all() {
		p.Classes = append(p.Classes, api.Class{Name: name})
		if l := Missing(p); !slices.Equal(l, all()[i+1:]) {
			t.Errorf("with %s: %q", name, l)
		}
	}
	for what, p := range map[string]api.Program{
		"nothing":            {},
		"a class":            class("A"),
		"names":              looking(class("A"), "B"),
		"itself as entry":    begun(class("A"), "A"),
		"what is empty":      {Classes: []api.Class{{Name: "A", Ifaces: []string{""}, Methods: []api.Method{{Code: []api.Instr{{}}}}}}},
		"no descriptor":      {Classes: []api.Class{{Name: "A", Methods: []api.Method{{Desc: "(LX;", Code: []api.Instr{{Desc: "LX;"}}}}}}},
		"a type of no class": {Classes: []api.Class{{Name: "A", Fields: []api.Field{{Type: api.Type{Kind: api.Ref}}, {Type: api.Type{Kind: api.Void}}}}}},
	} {
		if l := Missing(p); len(l) != 0 {
			t.Errorf("%s: %q", what, l)
		}
	}
	// A program that can't be names classes, too.
	p = api.Program{Classes: []api.Class{
		{Name: "B", Super: "Z", Methods: []api.Method{{Code: []api.Instr{{Op: api.Nop, Class: "Y", Desc: "()LX;"}}}}},
		{Name: "A", Super: "Z"},
	}, Entry: api.MethodRef{Class: "A", Desc: "(LW;)V"}}
	if l := Missing(p); !slices.Equal(l, []string{"W", "X", "Y", "Z"}) {
		t.Errorf("of what can't be: %q", l)
	}
}

// turned is programs in another order.
func turned(l []api.Program, r *rand.Rand) []api.Program {
	other := slices.Clone(l)
	r.Shuffle(len(other), func(i, k int) { other[i], other[k] = other[k], other[i] })
	return other
}

// TestThereAndBack: P10.3.
func TestThereAndBack(t *testing.T) {
	r := rand.New(rand.NewSource(1))
	programs := []api.Program{whole(), begun(api.Program{}, "A"), looking(begun(class("A"), "B"), "x"), looking(begun(some("x", 8), "A"), "x", "")}
	for _, p := range programs {
		parts := Split(p)
		for range 20 {
			if q, f := Merge(parts); f != (api.Fault{}) || !norm.Same(p, q) {
				t.Fatalf("%v came back as %v, %v", p, q, f)
			}
			parts = turned(parts, r)
		}
	}
	if _, f := Merge(Split(class("A", "B"))); f != (api.Fault{Errno: api.ErrEntry}) {
		t.Errorf("without an entry: %v", f)
	}
	if _, f := Merge(Split(begun(some("x", 9), "A"))); f != (api.Fault{Errno: api.ErrLong}) {
		t.Errorf("with too many classes: %v", f)
	}
}

// TestMissingOfMerged: P10.4.
func TestMissingOfMerged(t *testing.T) {
	names := []string{"A", "B", "C", "D", "E", "F"}
	r := rand.New(rand.NewSource(2))
	for range 300 {
		p := begun(api.Program{}, "B")
		for _, n := range names[r.Intn(4):] {
			c := api.Class{Name: n, Ifaces: []string{names[r.Intn(6)]}}
			if s := names[r.Intn(6)]; s != n {
				c.Super = s
			}
			p.Classes = append(p.Classes, c)
		}
		parts := Split(p)
		q, _ := Merge(turned(parts, r))
		var want []string
		for _, part := range parts {
			want = append(want, Missing(part)...)
		}
		want = slices.DeleteFunc(want, func(s string) bool { return norm.Class(p, s) != api.None })
		slices.Sort(want)
		if l := Missing(q); !slices.Equal(l, slices.Compact(want)) {
			t.Fatalf("%v: %q, not %q", p, l, want)
		}
	}
}

// TestStrange: P1.
func TestStrange(t *testing.T) {
	strange := []api.Program{
		{Classes: make([]api.Class, 3)},
		{Classes: []api.Class{{Name: "A", Methods: []api.Method{{Regs: -1, Code: []api.Instr{{Op: math.MinInt}, {Op: math.MaxInt}}}}}}},
		{Classes: []api.Class{{Name: "\xff", Fields: []api.Field{{Type: api.Type{Kind: -1, Class: "X"}}}}}},
		{Names: []string{strings.Repeat("x", 100)}},
		{Entry: api.MethodRef{Desc: strings.Repeat("(", 100)}},
	}
	for _, p := range strange {
		if l := Split(p); l != nil {
			t.Errorf("%v: %v", p, l)
		}
		if q, f := Merge([]api.Program{class("Z"), p}); f.Errno == api.OK || f.At != 2 || !norm.Same(q, api.Program{}) {
			t.Errorf("%v: %v, %v", p, q, f)
		}
		if l := Missing(p); len(l) > 0 {
			t.Errorf("%v: %q", p, l)
		}
	}
}

// TestHandedIn: P3: what is handed in stays, its spare room too, and what is answered is the caller's.
func TestHandedIn(t *testing.T) {
	p := whole()
	p.Classes = append(p.Classes, api.Class{Name: "spare"})[:3]
	p.Names = append(p.Names, "spare")[:4]
	l := []api.Program{p, class("A"), class("E")}
	q, f := Merge(l)
	parts := Split(p)
	Missing(p)
	if f != (api.Fault{}) || !reflect.DeepEqual(l, []api.Program{whole(), class("A"), class("E")}) || p.Classes[:4][3].Name != "spare" || p.Names[:5][4] != "spare" {
		t.Errorf("%v: what was handed in is %v", f, l)
	}
	// What is done to an answer is not seen in what was handed in, nor in another part.
	q.Names[0] = "other"
	q.Classes[1].Ifaces[0] = "other"
	q.Classes[1].Methods[0].Code[2].Args[0] = 3
	parts[0].Names[0] = "other"
	parts[0].Classes[0].Ifaces[0] = "other"
	parts[0].Classes[0].Methods[0].Code[2].Args[0] = 3
	parts[0].Classes = append(parts[0].Classes, api.Class{Name: "other"})
	if !norm.Same(p, whole()) || parts[1].Classes[0].Name != "C" {
		t.Error("what was answered is shared")
	}
	missing := Missing(p)
	clear(missing)
	if !slices.Equal(Missing(p), all()) {
		t.Error("what is missing is shared")
	}
}
