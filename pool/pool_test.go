package pool

import (
	"bytes"
	"math/rand"
	"slices"
	"strings"
	"testing"

	"secateur/api"
	"secateur/wire"
)

// long is a string of so many bytes.
func long(size int) string {
	return strings.Repeat("x", size)
}

// many is so many unlike strings that rise, with many lengths.
func many(size int) []string {
	l := make([]string, size)
	for i := range l {
		l[i] = string([]byte{byte(i >> 8), byte(i)}) + long(i%(api.MaxString-1))
	}
	return l
}

// some is strings that a fixed seed gives, short ones, so that now and then two are alike.
func some(chance *rand.Rand) []string {
	l := make([]string, chance.Intn(12))
	for i := range l {
		b := make([]byte, chance.Intn(4))
		for j := range b {
			b[j] = "ab\x00\x7f\x80\xff"[chance.Intn(6)]
		}
		l[i] = string(b)
	}
	return l
}

// isPool is what the chapter's words say a pool is, pair by pair.
func isPool(l []string) bool {
	for i, s := range l {
		if len(s) > 64 {
			return false
		}
		for _, ahead := range l[:i] {
			if bytes.Compare([]byte(ahead), []byte(s)) >= 0 {
				return false
			}
		}
	}
	return len(l) <= 1024
}

// P5.1
func TestMakeAsWritten(t *testing.T) {
	full := many(api.MaxPool)
	for _, c := range []struct {
		what    string
		l, want []string
	}{
		{"nil", nil, nil},
		{"none", []string{}, nil},
		{"the empty one", []string{""}, []string{""}},
		{"the empty one twice", []string{"", ""}, []string{""}},
		{"the example", []string{"b", "a", "b"}, []string{"a", "b"}},
		{"all alike", []string{"a", "a", "a"}, []string{"a"}},
		{"beginnings", []string{"ab", "a", "", "abc"}, []string{"", "a", "ab", "abc"}},
		{"bytes, not letters", []string{"b", "B", "\xff", "\u00e4", "~", "\x00", "_", "10", "9"}, []string{"\x00", "10", "9", "B", "_", "b", "~", "\u00e4", "\xff"}},
		{"the longest", []string{long(64), long(63)}, []string{long(63), long(64)}},
		{"as many as can be", full, full},
		{"as many as can be, twice", slices.Concat(full, full), full},
	} {
		if l, e := Make(c.l); !slices.Equal(l, c.want) || e != api.OK {
			t.Errorf("%s: %.60q, %d", c.what, l, e)
		}
	}
}

// P5.1
func TestMakeOfTooMuch(t *testing.T) {
	over := many(api.MaxPool + 1)
	back := slices.Clone(over)
	slices.Reverse(back)
	for _, c := range []struct {
		what string
		l    []string
	}{
		{"a long one", []string{long(65)}},
		{"a long one behind others", []string{"b", "a", long(65)}},
		{"a long one ahead of others", []string{long(70000), "a"}},
		{"a long one of few characters", []string{strings.Repeat("\u00e4", 33)}},
		{"one too many", over},
		{"one too many, the other way round", back},
		{"one too many behind others that stand twice", slices.Concat(over[:1024], over[:1024], over[1024:])},
		{"far too many", many(5000)},
		{"too many, and a long one", append(slices.Clone(over), long(65))},
		{"as many as can be, and a long one", append(many(api.MaxPool), long(65))},
	} {
		if l, e := Make(c.l); len(l) != 0 || e != api.ErrLong {
			t.Errorf("%s: %.60q, %d", c.what, l, e)
		}
	}
}

// P5.1
func TestRightAsWritten(t *testing.T) {
	for _, c := range []struct {
		what string
		l    []string
		want bool
	}{
		{"nil", nil, true},
		{"none", []string{}, true},
		{"the empty one", []string{""}, true},
		{"one", []string{"b"}, true},
		{"rising", []string{"", "a", "ab", "b"}, true},
		{"bytes that rise", []string{"B", "a", "\u00e4", "\xff"}, true},
		{"twice", []string{"a", "a"}, false},
		{"the empty one twice", []string{"", ""}, false},
		{"twice at the end", []string{"a", "b", "b"}, false},
		{"twice, but not in a row", []string{"a", "b", "a"}, false},
		{"falling", []string{"b", "a"}, false},
		{"falling at the end", []string{"a", "c", "b"}, false},
		{"falling at the beginning", []string{"b", "a", "c"}, false},
		{"letters that rise", []string{"a", "B"}, false},
		{"numbers that rise", []string{"9", "10"}, false},
		{"the longest", []string{"a", long(64)}, true},
		{"a long one", []string{"a", long(65)}, false},
		{"a long one alone", []string{long(65)}, false},
		{"a long one first", []string{long(65), "y"}, false},
		{"as many as can be", many(1024), true},
		{"one too many", many(1025), false},
	} {
		if got := Right(c.l); got != c.want {
			t.Errorf("%s: %v", c.what, got)
		}
	}
}

// P5.1
func TestRightAsTheWordsSay(t *testing.T) {
	chance := rand.New(rand.NewSource(1))
	pools := 0
	for range 20000 {
		l := some(chance)
		if chance.Intn(2) == 0 {
			slices.Sort(l)
		}
		if Right(l) != isPool(l) {
			t.Fatalf("Right(%q) = %v", l, Right(l))
		}
		if isPool(l) {
			pools++
		}
	}
	if pools < 1000 {
		t.Errorf("only %d are pools", pools)
	}
}

// P5.1
func TestFindAsWritten(t *testing.T) {
	for _, c := range []struct {
		what string
		l    []string
		s    string
		want int
	}{
		{"of nil", nil, "", api.None},
		{"of none", []string{}, "a", api.None},
		{"the empty one", []string{"", "a"}, "", 0},
		{"no empty one", []string{"a"}, "", api.None},
		{"the first", []string{"a", "c"}, "a", 0},
		{"the last", []string{"a", "c"}, "c", 1},
		{"below all", []string{"a", "c"}, "A", api.None},
		{"between", []string{"a", "c"}, "b", api.None},
		{"above all", []string{"a", "c"}, "d", api.None},
		{"a beginning", []string{"ab", "c"}, "a", api.None},
		{"one behind a beginning", []string{"a", "c"}, "ab", api.None},
		{"a long one", []string{"a", long(64)}, long(65), api.None},
		{"a long one of no pool", []string{"a", long(65)}, long(65), api.None},
		{"of none that rises", []string{"b", "a"}, "b", api.None},
		{"of none that rises, the other", []string{"b", "a"}, "a", api.None},
		{"of one that stands twice", []string{"a", "a"}, "a", api.None},
		{"where what does not rise stands behind", []string{"a", "b", "c", "b"}, "a", api.None},
		{"as many as can be", many(1024), many(1024)[1023], 1023},
		{"one too many", many(1025), many(1025)[3], api.None},
	} {
		if got := Find(c.l, c.s); got != c.want {
			t.Errorf("%s: %d, not %d", c.what, got, c.want)
		}
	}
}

// P5.1
func TestFindInPoolsOfEachSize(t *testing.T) {
	for size := range 70 {
		l := many(2*size + 1)
		var pool []string
		for i := 1; i < len(l); i += 2 {
			pool = append(pool, l[i])
		}
		for i, s := range l {
			want := api.None
			if i%2 == 1 {
				want = i / 2
			}
			if got := Find(pool, s); got != want {
				t.Errorf("of %d, %q: %d, not %d", size, s, got, want)
			}
		}
	}
}

// P5.1
func TestMergeAsWritten(t *testing.T) {
	full := many(1024)
	for _, c := range []struct {
		what       string
		a, b, want []string
		e          api.Errno
	}{
		{"nothing", nil, []string{}, nil, api.OK},
		{"one, and nothing", []string{"a"}, nil, []string{"a"}, api.OK},
		{"the empty one", []string{"a"}, []string{""}, []string{"", "a"}, api.OK},
		{"what both have", []string{"a", "b"}, []string{"b", "c"}, []string{"a", "b", "c"}, api.OK},
		{"one between others", []string{"a", "c"}, []string{"B", "b", "d"}, []string{"B", "a", "b", "c", "d"}, api.OK},
		{"the same", full, full, full, api.OK},
		{"as many as can be", full[:700], full[500:], full, api.OK},
		{"as many as can be, turned about", full[500:], full[:700], full, api.OK},
		{"one too many", full[1:], many(1026)[1024:], nil, api.ErrLong},
		{"one too many, turned about", []string{"\xff"}, full, nil, api.ErrLong},
		{"the first is none", []string{"b", "a"}, []string{"c"}, nil, api.ErrOrder},
		{"the second is none", []string{"c"}, []string{"b", "a"}, nil, api.ErrOrder},
		{"one that stands twice", []string{"a"}, []string{"b", "b"}, nil, api.ErrOrder},
		{"none, and nothing", nil, []string{"b", "a"}, nil, api.ErrOrder},
		{"a long one", []string{long(65)}, nil, nil, api.ErrOrder},
		{"a long one second", nil, []string{long(65)}, nil, api.ErrOrder},
		{"one with too many", many(1025), nil, nil, api.ErrOrder},
		{"too many, and none", full, []string{"\xff", "\xfe"}, nil, api.ErrOrder},
	} {
		if l, e := Merge(c.a, c.b); !slices.Equal(l, c.want) || e != c.e {
			t.Errorf("%s: %.60q, %d", c.what, l, e)
		}
	}
}

// P5.1
func TestMergeIsThePoolOfBoth(t *testing.T) {
	chance := rand.New(rand.NewSource(2))
	for range 5000 {
		l, m := some(chance), some(chance)
		a, _ := Make(l)
		b, _ := Make(m)
		want, _ := Make(slices.Concat(l, m))
		if both, e := Merge(a, b); !slices.Equal(both, want) || e != api.OK {
			t.Fatalf("Merge(%q, %q) = %q, %d", a, b, both, e)
		}
	}
}

// P5.2
func TestPutAsWritten(t *testing.T) {
	for _, c := range []struct {
		what string
		l    []string
		want []byte
	}{
		{"nil", nil, []byte{0}},
		{"none", []string{}, []byte{0}},
		{"the empty one", []string{""}, []byte{1, 0}},
		{"two", []string{"ab", "b"}, []byte{2, 2, 'a', 'b', 1, 'b'}},
		{"the longest", []string{long(64)}, append([]byte{1, 64}, long(64)...)},
	} {
		if b, e := Put(c.l); !bytes.Equal(b, c.want) || e != api.OK {
			t.Errorf("%s: %v, %d", c.what, b, e)
		}
	}
	if b, e := Put(many(300)); !bytes.HasPrefix(b, []byte{172, 2, 2, 0, 0, 3, 0, 1, 'x', 4, 0, 2, 'x', 'x'}) || e != api.OK {
		t.Errorf("of 300: %.20v, %d", b, e)
	}
	for _, l := range [][]string{{"b", "a"}, {"a", "a"}, {"", ""}, {long(65)}, {"a", "b", "a"}, many(1025)} {
		if b, e := Put(l); len(b) != 0 || e != api.ErrOrder {
			t.Errorf("Put(%.60q) = %v, %d", l, b, e)
		}
	}
}

// P5.2
func TestTakeAsWritten(t *testing.T) {
	for _, c := range []struct {
		what   string
		b      []byte
		want   []string
		behind int
	}{
		{"none", []byte{0}, nil, 1},
		{"none, and others behind", []byte{0, 1, 'a'}, nil, 1},
		{"the empty one", []byte{1, 0}, []string{""}, 2},
		{"two", []byte{2, 1, 'a', 2, 'a', 'b'}, []string{"a", "ab"}, 6},
		{"two, and others behind", []byte{2, 0, 1, 255, 1, 'a'}, []string{"", "\xff"}, 4},
	} {
		for ahead := range 3 {
			r := wire.Open(append(make([]byte, ahead), c.b...))
			for range ahead {
				r.Byte()
			}
			if l := Take(r); !slices.Equal(l, c.want) {
				t.Errorf("%s: %q, not %q", c.what, l, c.want)
			}
			if r.At() != ahead+c.behind || r.Fault() != (api.Fault{}) {
				t.Errorf("%s: at %d, %v", c.what, r.At(), r.Fault())
			}
		}
	}
}

// P5.2
func TestTakeThatFails(t *testing.T) {
	for _, c := range []struct {
		what string
		b    []byte
		e    api.Errno
		at   int
	}{
		{"nothing", nil, api.ErrShort, 0},
		{"half a number", []byte{128}, api.ErrShort, 0},
		{"a number with a nought", []byte{128, 0}, api.ErrForm, 0},
		{"one too many", append([]byte{129, 8}, make([]byte, 2000)...), api.ErrLong, 0},
		{"far too many", []byte{255, 255, 255, 255, 255, 255, 255, 255, 255, 1}, api.ErrLong, 0},
		{"as many as can be, none there", []byte{128, 8}, api.ErrShort, 2},
		{"no text", []byte{1}, api.ErrShort, 1},
		{"no second text", []byte{2, 1, 'a'}, api.ErrShort, 3},
		{"a short text", []byte{1, 2, 'a'}, api.ErrShort, 2},
		{"a short text that is not above", []byte{2, 1, 'b', 2, 'a'}, api.ErrShort, 4},
		{"a text that is too long", append([]byte{1, 65}, long(65)...), api.ErrLong, 1},
		{"a second one that is too long", append([]byte{2, 1, 'y', 65}, long(65)...), api.ErrLong, 3},
		{"a text's length with a nought", []byte{1, 129, 0, 'a'}, api.ErrForm, 1},
		{"twice", []byte{2, 1, 'a', 1, 'a'}, api.ErrOrder, 5},
		{"the empty one twice", []byte{2, 0, 0}, api.ErrOrder, 3},
		{"falling", []byte{2, 1, 'b', 1, 'a'}, api.ErrOrder, 5},
		{"falling to the empty one", []byte{2, 1, 'b', 0}, api.ErrOrder, 4},
		{"falling to a beginning", []byte{2, 2, 'a', 'b', 1, 'a'}, api.ErrOrder, 6},
		{"falling, and others behind", []byte{3, 1, 'b', 1, 'a', 1, 'c'}, api.ErrOrder, 5},
		{"falling, and too little behind", []byte{4, 1, 'b', 1, 'a', 9}, api.ErrOrder, 5},
		{"falling later on", []byte{3, 1, 'a', 1, 'c', 1, 'b'}, api.ErrOrder, 7},
		{"falling at two places", []byte{3, 1, 'c', 1, 'b', 1, 'a'}, api.ErrOrder, 5},
	} {
		for ahead := range 3 {
			r := wire.Open(append(make([]byte, ahead), c.b...))
			for range ahead {
				r.Byte()
			}
			l := Take(r)
			if want := (api.Fault{Errno: c.e, At: ahead + c.at}); l != nil || r.Fault() != want || r.At() != ahead+c.at {
				t.Errorf("%s: %q, %v, not %v", c.what, l, r.Fault(), want)
			}
		}
	}
}

// P5.2: a reader that had failed, or that is nil.
func TestTakeOfWhatHasFailed(t *testing.T) {
	r := wire.Open([]byte{0, 1, 1, 'a'})
	r.Byte()
	r.Fail(api.ErrRule)
	if l := Take(r); l != nil || r.Fault() != (api.Fault{Errno: api.ErrRule, At: 1}) {
		t.Errorf("behind a failure: %q, %v", l, r.Fault())
	}
	var none *wire.Reader
	if l := Take(none); l != nil {
		t.Errorf("of no reader: %q", l)
	}
}

// P5.2: places are told from the beginning of all bytes, and a section's end is the end.
func TestTakeOfASection(t *testing.T) {
	r := wire.Open(append([]byte{9}, wire.Section(1, []byte{2, 1, 'a', 1, 'a'})...))
	r.Byte()
	x := r.Section(1)
	if l := Take(x); l != nil || x.Fault() != (api.Fault{Errno: api.ErrOrder, At: 8}) || r.Fault() != (api.Fault{}) {
		t.Errorf("a section: %q, %v, %v", l, x.Fault(), r.Fault())
	}
	x = wire.Open(wire.Section(1, []byte{1, 4})).Section(1)
	if l := Take(x); l != nil || x.Fault() != (api.Fault{Errno: api.ErrShort, At: 4}) {
		t.Errorf("over a section's end: %q, %v", l, x.Fault())
	}
}

// P5.3
func TestTakeOfPutIsThePool(t *testing.T) {
	chance := rand.New(rand.NewSource(3))
	pools := [][]string{nil, {""}, {long(64)}, many(127), many(128), many(1023), many(1024)}
	for range 5000 {
		l, _ := Make(some(chance))
		pools = append(pools, l)
	}
	for _, l := range pools {
		b, e := Put(l)
		r := wire.Open(b)
		if back := Take(r); !slices.Equal(back, l) || e != api.OK || !r.End() {
			t.Fatalf("Take of Put(%.60q) = %.60q, %d, %v", l, back, e, r.Fault())
		}
		for i := range min(len(b), 30) {
			if back := Take(wire.Open(b[:i])); back != nil {
				t.Fatalf("Take of %d bytes of Put(%.60q) = %.60q", i, l, back)
			}
		}
	}
}

// P5.3
func TestWhatTakeTakesIsPut(t *testing.T) {
	chance := rand.New(rand.NewSource(4))
	taken := 0
	for range 200000 {
		b := make([]byte, 1+chance.Intn(9))
		for i := range b {
			b[i] = byte(chance.Intn(4))
		}
		r := wire.Open(b)
		l := Take(r)
		if r.Fault() != (api.Fault{}) {
			continue
		}
		taken++
		if back, e := Put(l); !bytes.Equal(back, b[:r.At()]) || e != api.OK {
			t.Fatalf("Take(%v) = %q; Put of it: %v, %d", b, l, back, e)
		}
	}
	if taken < 1000 {
		t.Errorf("only %d are taken", taken)
	}
}

// P5.4
func TestEachStringStandsWhereFindSays(t *testing.T) {
	chance := rand.New(rand.NewSource(5))
	for range 3000 {
		l := some(chance)
		pool, _ := Make(l)
		for _, s := range l {
			if at := Find(pool, s); at < 0 || at >= len(pool) || pool[at] != s {
				t.Fatalf("Find(%q, %q) = %d", pool, s, at)
			}
		}
		for _, s := range some(chance) {
			if at := Find(pool, s); !slices.Contains(l, s) && at != api.None {
				t.Fatalf("Find(%q, %q) = %d", pool, s, at)
			}
		}
		for i, s := range pool {
			if Find(pool, s) != i || !slices.Contains(l, s) {
				t.Fatalf("%q of %q: Find(%q) = %d", pool, l, s, Find(pool, s))
			}
		}
	}
}

// P5.5
func TestMakeOfAPoolIsThePool(t *testing.T) {
	chance := rand.New(rand.NewSource(6))
	for range 3000 {
		l := some(chance)
		pool, e := Make(l)
		if !isPool(pool) || e != api.OK {
			t.Fatalf("Make(%q) = %q, %d", l, pool, e)
		}
		if again, e := Make(pool); !slices.Equal(again, pool) || e != api.OK {
			t.Fatalf("Make(%q) = %q, %d", pool, again, e)
		}
		chance.Shuffle(len(l), func(i, j int) { l[i], l[j] = l[j], l[i] })
		if other, e := Make(l); !slices.Equal(other, pool) || e != api.OK {
			t.Fatalf("in another order %q, not %q, %d", other, pool, e)
		}
	}
}

// P3
func TestNothingHandedInIsChanged(t *testing.T) {
	room := []string{"c", "a", "b", "spare", "spare"}
	Make(room[:3])
	if !slices.Equal(room, []string{"c", "a", "b", "spare", "spare"}) {
		t.Errorf("Make: %q", room)
	}
	room = []string{"b", "c", "spare", "spare"}
	other := []string{"a", "spare", "spare", "spare"}
	Right(room[:2])
	Find(room[:2], "c")
	Merge(room[:2], other[:1])
	Merge(other[:1], room[:2])
	Put(room[:2])
	if !slices.Equal(room, []string{"b", "c", "spare", "spare"}) || !slices.Equal(other, []string{"a", "spare", "spare", "spare"}) {
		t.Errorf("Merge: %q, %q", room, other)
	}
}

// P3
func TestAnswersAreTheCallers(t *testing.T) {
	pool := []string{"a", "b"}
	made, _ := Make(pool)
	left, _ := Merge(pool, nil)
	right, _ := Merge(nil, pool)
	for _, l := range [][]string{made, left, right} {
		l[0] = "changed"
		if !slices.Equal(pool, []string{"a", "b"}) {
			t.Fatalf("the pool is %q behind a change of an answer", pool)
		}
	}
	made, _ = Make(pool)
	pool[1] = "changed"
	if !slices.Equal(made, []string{"a", "b"}) {
		t.Errorf("the answer is %q behind a change of the list", made)
	}
	r := wire.Open([]byte{1, 1, 'a'})
	taken := Take(r)
	taken[0] = "changed"
	if again := Take(wire.Open([]byte{1, 1, 'a'})); !slices.Equal(again, []string{"a"}) {
		t.Errorf("what is taken is %q behind a change", again)
	}
}
