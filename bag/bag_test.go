package bag

import (
	"math"
	"slices"
	"strings"
	"testing"

	"secateur/api"
	"secateur/hier"
)

const (
	least = ""
	most  = "\xff"
)

// method reads a method: its class, name and descriptor, with blanks between.
func method(s string) api.MethodRef {
	l := strings.Split(s, " ")
	return api.MethodRef{Class: l[0], Name: l[1], Desc: l[2]}
}

// at is a site of the method A.m()V.
func at(pc int, class string) api.Site {
	return api.Site{Method: method("A m ()V"), PC: pc, Class: class}
}

// of is a site of a method.
func of(s string, pc int, class string) api.Site {
	return api.Site{Method: method(s), PC: pc, Class: class}
}

// rising is sites each of which stands ahead of the next one: behind what rises all else may fall.
func rising() []api.Site {
	return []api.Site{
		{PC: math.MinInt, Class: most}, {PC: -10, Class: "A"}, {PC: -9}, {PC: -1, Class: most},
		{}, {Class: "A"}, {Class: "A/"}, {Class: "AA"}, {Class: "B"}, {Class: "[I"}, {Class: "[LA;"}, {Class: "a"}, {Class: most},
		{PC: 1}, {PC: 1, Class: "A"}, {PC: 2}, {PC: 9, Class: most}, {PC: 10}, {PC: 1 << 32}, {PC: math.MaxInt, Class: most},
		of("  ()I", -1, "B"), of("  ()V", math.MinInt, "A"), of("  (I)V", 0, least), of("  "+most, math.MaxInt, most),
		of(" <clinit> ", 0, least), of(" m (I)V", 2, "A"), of(" m$ ()V", 1, least), of(" "+most+" "+most, 0, most),
		of("A  ", 0, least), of("A a "+most, 9, most), at(-7, most), at(-6, "A"), at(0, "B"), at(1, "A"), at(1, "B"), of("A m ()W", 0, least), of("A n ", 0, least),
		of("A/ m ()V", 0, "A"), of("AA m ", 0, least), of("B  ", 0, least), of("a  ", 0, least), of(most+" "+most+" "+most, math.MaxInt, most),
	}
}

// sign is a number's sign.
func sign(n int) int {
	return min(max(n, -1), 1)
}

// TestCompare: P24.1, by Method (Class, Name, Desc), then PC, then Class; P24.5, from one to a third, and alike if it is 0.
func TestCompare(t *testing.T) {
	l := rising()
	for i, a := range l {
		for j, b := range l {
			if got := Compare(a, b); got != sign(i-j) {
				t.Errorf("%+v and %+v: %d", a, b, got)
			}
		}
	}
}

// places is places each of which stands ahead of the next one: behind what rises all else may fall.
func places() []api.Place {
	field := func(class, name string) api.FieldRef {
		return api.FieldRef{Class: class, Name: name}
	}
	last := of(most+" "+most+" "+most, math.MaxInt, most)
	end := api.Place{Method: last.Method, Reg: math.MaxInt, Field: field(most, most), Site: last}
	l := []api.Place{{Kind: math.MinInt, Method: end.Method, Reg: 3}, {Kind: -1, Method: method("A m ()V")}, {Reg: math.MinInt, Field: end.Field}, {Reg: -1, Site: last}}
	for _, s := range rising() {
		l = append(l, api.Place{Site: s})
	}
	l = append(l, []api.Place{
		{Field: field("", "f")}, {Field: field("", "f"), Site: last}, {Field: field("", "g")}, {Field: field("", most), Site: last},
		{Field: field("A", "")}, {Field: field("A", "f")}, {Field: field("A", "f"), Site: at(0, "B")}, {Field: field("A", "f"), Site: at(1, "A")}, {Field: field("A", "f$"), Site: at(0, "A")},
		{Field: field("A/", "a")}, {Field: field("AA", ""), Site: last}, {Field: field("B", "")}, {Field: end.Field, Site: last},
		{Reg: 1}, {Reg: 1, Field: field("A", "f")}, {Reg: 2, Site: last}, {Reg: 10}, {Reg: math.MaxInt, Field: end.Field, Site: last},
		{Method: method("  ()V"), Reg: math.MinInt}, {Method: method("  ()V"), Reg: -1, Site: last}, {Method: method("  ()V")}, {Method: method(" m "), Reg: -1}, {Method: method("A  ")},
		{Method: method("A m ()V"), Reg: 3}, {Method: method("A m (I)V"), Reg: 2}, {Method: method("A m$ ()V"), Reg: 1}, {Method: method("B a "), Reg: 1}, end,
	}...)
	for kind := api.InReg; kind <= api.InElement; kind++ {
		l = append(l, api.Place{Kind: kind}, api.Place{Kind: kind, Field: field("A", "f"), Site: at(1, "A")}, api.Place{Kind: kind, Field: field("A", "g"), Site: at(0, "A")},
			api.Place{Kind: kind, Reg: 1}, api.Place{Kind: kind, Method: method("A m ()V")}, api.Place{Kind: kind, Method: method("A m ()V"), Reg: 1, Site: last})
	}
	return append(l, api.Place{Kind: 6}, api.Place{Kind: 10}, api.Place{Kind: math.MaxInt})
}

// TestOrder: P24.1, by Kind, Method, Reg, Field (Class, Name), Site; P24.5, from one to a third, and alike if it is 0.
func TestOrder(t *testing.T) {
	l := places()
	for i, a := range l {
		for j, b := range l {
			if got := Order(a, b); got != sign(i-j) {
				t.Errorf("%+v and %+v: %d", a, b, got)
			}
		}
	}
}

// a, b, c are three sites as they stand in order, d one that differs from c by its class alone.
var a, b, c, d = at(1, "B"), at(2, "A"), of("B m ()V", 0, "A"), of("B m ()V", 0, "B")

// sites is a list of sites, told by letters.
func sites(s string) []api.Site {
	var l []api.Site
	for _, r := range s {
		l = append(l, map[rune]api.Site{'a': a, 'b': b, 'c': c, 'd': d}[r])
	}
	return l
}

// TestRight: P24.1, sites that rise, each once, are a set.
func TestRight(t *testing.T) {
	for s, is := range map[string]bool{
		"": true, "a": true, "d": true, "ab": true, "abcd": true, "acd": true, "bd": true,
		"aa": false, "ba": false, "aab": false, "abb": false, "abcc": false, "abdc": false, "bac": false, "acb": false, "aba": false, "dcba": false,
	} {
		if Right(sites(s)) != is {
			t.Errorf("%s: not %v", s, is)
		}
	}
	if !Right(rising()) || !Right([]api.Site{}) || Right(append(rising(), api.Site{})) {
		t.Error("what rises alone is a set")
	}
}

func check(t *testing.T, what string, got, want []api.Site) {
	t.Helper()
	if !slices.Equal(got, want) {
		t.Errorf("%s: %+v, not %+v", what, got, want)
	}
}

// TestOf: P24.1, the set of some sites.
func TestOf(t *testing.T) {
	for s, want := range map[string]string{
		"": "", "a": "a", "aa": "a", "aaaa": "a", "ab": "ab", "ba": "ab", "bab": "ab", "abab": "ab", "dcba": "abcd", "dcd": "cd", "bbaaddcc": "abcd", "cabdc": "abcd",
	} {
		check(t, s, Of(sites(s)...), sites(want))
	}
	check(t, "none", Of(), nil)
	check(t, "two", Of(b, a), sites("ab"))
	l := rising()
	slices.Reverse(l)
	check(t, "all", Of(append(l, rising()...)...), rising())
}

// lists is all lists of up to so many of a, b, c and d, in any order, by their letters.
func lists(upTo int) []string {
	l := []string{""}
	for from := 0; upTo > 0; upTo-- {
		to := len(l)
		for _, s := range l[from:to] {
			for _, r := range "abcd" {
				l = append(l, s+string(r))
			}
		}
		from = to
	}
	return l
}

// kept is the set of those of a, b, c and d of which it is so.
func kept(is func(letter string) bool) []api.Site {
	var l []api.Site
	for _, letter := range []string{"a", "b", "c", "d"} {
		if is(letter) {
			l = append(l, sites(letter)...)
		}
	}
	return l
}

// TestPut: P24.2, the set with one more, whatever list it is put to; Has, whether it stands there.
func TestPut(t *testing.T) {
	for _, s := range lists(4) {
		for _, more := range []string{"a", "b", "c", "d"} {
			check(t, s+" and "+more, Put(sites(s), sites(more)[0]), kept(func(letter string) bool { return strings.Contains(s+more, letter) }))
			if Has(sites(s), sites(more)[0]) != strings.Contains(s, more) {
				t.Errorf("%s has %s: not %v", s, more, strings.Contains(s, more))
			}
		}
	}
	check(t, "to none", Put(nil, api.Site{}), []api.Site{{}})
	l := rising()
	for i, s := range l {
		without := slices.Delete(slices.Clone(l), i, i+1)
		check(t, "one of all", Put(without, s), l)
		check(t, "what is there", Put(l, s), l)
		if Has(without, s) || !Has(l, s) || !Has(l[i:], s) || Has(l[:i], s) {
			t.Errorf("%+v", s)
		}
	}
}

// TestUnion: P24.2, the set of all that are in two lists, whatever lists they are; Sub, whether all of one stand in the other one.
func TestUnion(t *testing.T) {
	l := lists(3)
	for _, s := range l {
		for _, other := range l {
			check(t, s+" and "+other, Union(sites(s), sites(other)), kept(func(letter string) bool { return strings.Contains(s+other, letter) }))
			is := !strings.ContainsFunc(s, func(r rune) bool { return !strings.ContainsRune(other, r) })
			if Sub(sites(s), sites(other)) != is {
				t.Errorf("%s of %s: not %v", s, other, is)
			}
		}
	}
	check(t, "none", Union(nil, []api.Site{}), nil)
	whole := rising()
	for cut := range len(whole) + 1 {
		check(t, "one behind the other", Union(whole[:cut], whole[cut:]), whole)
		check(t, "one ahead of the other", Union(whole[cut:], whole[:cut]), whole)
		check(t, "a part", Union(whole[cut:], whole), whole)
		if !Sub(whole[cut:], whole) || !Sub(whole[:cut], whole) || Sub(whole, whole[:cut]) != (cut == len(whole)) || Sub(whole, whole[cut:]) != (cut == 0) {
			t.Errorf("from %d on", cut)
		}
	}
}

// TestFollows: P24.3, P24.4, of all lists of up to three sites.
func TestFollows(t *testing.T) {
	l := lists(3)
	for _, s := range l {
		one := sites(s)
		check(t, s+" with itself", Union(one, one), Of(one...))
		check(t, s+" with none", Union(one, nil), Of(one...))
		for _, other := range l {
			two := sites(other)
			both := Union(one, two)
			if !Right(both) || !Sub(one, both) || !Sub(two, both) {
				t.Fatalf("%s and %s: %+v", s, other, both)
			}
			check(t, s+" and "+other, Union(two, one), both)
			for _, third := range lists(2) {
				three := sites(third)
				check(t, s+", "+other+" and "+third, Union(both, three), Union(one, Union(two, three)))
				if Sub(both, three) != (Sub(one, three) && Sub(two, three)) {
					t.Fatalf("%s and %s of %s", s, other, third)
				}
			}
		}
	}
}

// family is D below C below A and below J below I, B below A; E alone.
func family() api.Program {
	return api.Program{Classes: []api.Class{
		{Name: "A"}, {Name: "B", Super: "A"}, {Name: "C", Super: "A"}, {Name: "D", Super: "C", Ifaces: []string{"J"}}, {Name: "E", Super: "Z"},
		{Name: "I", Iface: true, Abstract: true}, {Name: "J", Iface: true, Abstract: true, Ifaces: []string{"I"}},
	}}
}

// TestOnly: P24.2, the set of those whose class is, or is below another one, whatever list they are of.
func TestOnly(t *testing.T) {
	l := []api.Site{at(9, "E"), at(8, "D"), at(7, "C"), at(8, "D"), at(6, "B"), at(5, "A"), at(1, "D"), at(4, "Z"), at(3, "[I"), at(2, "[LA;"), at(0, "")}
	for _, c := range []struct {
		class string
		want  []api.Site
	}{
		{"A", []api.Site{at(1, "D"), at(5, "A"), at(6, "B"), at(7, "C"), at(8, "D")}},
		{"B", []api.Site{at(6, "B")}},
		{"C", []api.Site{at(1, "D"), at(7, "C"), at(8, "D")}},
		{"D", []api.Site{at(1, "D"), at(8, "D")}},
		{"E", []api.Site{at(9, "E")}},
		{"I", []api.Site{at(1, "D"), at(8, "D")}},
		{"J", []api.Site{at(1, "D"), at(8, "D")}},
		{"Y", nil}, {"a", nil}, {"[LB;", nil}, {"A ", nil},
	} {
		check(t, c.class, Only(family(), l, c.class), c.want)
		check(t, c.class+" of the set", Only(family(), Of(l...), c.class), c.want)
		check(t, c.class+" of none", Only(family(), nil, c.class), nil)
	}
}

// TestOnlyAll: P24.2, all of a list, as a set, if there is no class, whatever program it is.
func TestOnlyAll(t *testing.T) {
	for _, p := range []api.Program{{}, family(), {Classes: []api.Class{{Name: ""}, {Name: "A"}}}} {
		for _, s := range lists(4) {
			check(t, s, Only(p, sites(s), ""), Of(sites(s)...))
		}
		check(t, "all", Only(p, rising(), ""), rising())
	}
}

// TestOnlyBelow: P24.2, just those of hier.Sub, in programs that are not of a piece, too.
func TestOnlyBelow(t *testing.T) {
	ring := api.Program{Classes: []api.Class{{Name: "A", Super: "B"}, {Name: "B", Super: "A", Ifaces: []string{"B", "AA"}}, {Name: "AA"}, {Name: "a", Super: ""}, {Name: "A"}, {Name: "", Super: "AA"}}}
	for _, p := range []api.Program{{}, family(), ring} {
		for _, class := range []string{"A", "B", "C", "D", "J", "AA", "a", "[I"} {
			var want []api.Site
			for _, s := range rising() {
				if hier.Sub(p, s.Class, class) {
					want = append(want, s)
				}
			}
			check(t, class, Only(p, rising(), class), want)
		}
	}
}

// TestKeeps: P3, what is handed in stays, spare room too; what is answered is the caller's.
func TestKeeps(t *testing.T) {
	for _, s := range []string{"", "a", "bb", "abcd", "bda", "dcba", "aabb"} {
		for _, other := range []string{"", "b", "ac", "cab"} {
			one, two := append(sites(s), d, c, d), append(sites(other), c, a)
			was, were := slices.Clone(one), slices.Clone(two)
			l, m := one[:len(s)], two[:len(other)]
			p := family()
			answers := func() [][]api.Site {
				return [][]api.Site{Of(l...), Put(l, b), Put(m, d), Union(l, m), Union(m, l), Union(l, l), Only(p, l, ""), Only(p, l, "A")}
			}
			got, again := answers(), answers()
			Has(l, d)
			Sub(l, m)
			Right(l)
			for _, list := range got {
				// All of its room is written to: neither what was handed in nor what is answered later hangs on it.
				for i := range list[:cap(list)] {
					list[:cap(list)][i] = api.Site{PC: -1}
				}
			}
			if !slices.Equal(one, was) || !slices.Equal(two, were) {
				t.Fatalf("%s and %s: %+v %+v", s, other, one, two)
			}
			for i, list := range answers() {
				check(t, s+" and "+other, list, again[i])
			}
		}
	}
}
