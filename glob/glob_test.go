package glob

import (
	"math/rand"
	"slices"
	"strings"
	"testing"

	"secateur/api"
)

// texts is all texts of up to so many bytes, each one of some.
func texts(most int, bytes string) []string {
	l := []string{""}
	for from := 0; most > 0; most-- {
		to := len(l)
		for _, s := range l[from:to] {
			for i := range len(bytes) {
				l = append(l, s+bytes[i:i+1])
			}
		}
		from = to
	}
	return l
}

// stands tells by the words of the chapter alone whether a pattern stands for a text.
func stands(p, s string) bool {
	switch {
	case p == "":
		return s == ""
	case p[0] == '*':
		for n := range len(s) + 1 {
			if stands(p[1:], s[n:]) {
				return true
			}
		}
		return false
	}
	return s != "" && (p[0] == '?' || p[0] == s[0]) && stands(p[1:], s[1:])
}

// standsByRows tells it as stands does, of long ones, too: it keeps for how much of the text each part ahead stands.
func standsByRows(p, s string) bool {
	row := make([]bool, len(s)+1)
	row[0] = true
	for i := range len(p) {
		next := make([]bool, len(s)+1)
		for n := range next {
			if p[i] == '*' {
				next[n] = row[n] || n > 0 && next[n-1]
			} else {
				next[n] = n > 0 && row[n-1] && (p[i] == '?' || p[i] == s[n-1])
			}
		}
		row = next
	}
	return row[len(s)]
}

// TestRight: P21.1, from 1 to MaxString bytes, each from 33 to 126.
func TestRight(t *testing.T) {
	long := strings.Repeat("a", api.MaxString)
	for p, is := range map[string]bool{
		"": false, "a": true, "*": true, "?": true, "a*c": true, "([La/B;)V": true, "<clinit>": true, "!~": true,
		" ": false, "a b": false, "a ": false, " a": false, "a\n": false, "\x00": false, "a\x7f": false, "\xff": false, "ä": false, "a\tb": false,
		long: true, long + "a": false, long + "*": false, strings.Repeat("*", api.MaxString): true, strings.Repeat("*", api.MaxString+1): false,
		strings.Repeat("a", 1<<20): false, long[1:] + " ": false,
	} {
		if Right(p) != is {
			t.Errorf("%q: %v", p, !is)
		}
	}
	for c := range 256 {
		for _, p := range []string{string([]byte{byte(c)}), string([]byte{'a', byte(c)}), string([]byte{byte(c), 'a'})} {
			if Right(p) != (33 <= c && c <= 126) {
				t.Errorf("%q: %v", p, Right(p))
			}
		}
	}
}

// TestPlain: P21.1, neither * nor ? is in it.
func TestPlain(t *testing.T) {
	for p, is := range map[string]bool{
		"": true, "a": true, "(LA;)V": true, "\xff\x00 ": true, "*": false, "?": false, "a*": false, "*a": false, "a?b": false, "?*": false,
		strings.Repeat("a", 1000): true, strings.Repeat("a", 1000) + "?": false,
	} {
		if Plain(p) != is {
			t.Errorf("%q: %v", p, !is)
		}
	}
	for c := range 256 {
		if p := string([]byte{'a', byte(c), 'b'}); Plain(p) != (c != '*' && c != '?') {
			t.Errorf("%q: %v", p, Plain(p))
		}
	}
}

// words are texts that stand between blanks; - is the empty one.
func words(s string) []string {
	l := strings.Fields(s)
	for i := range l {
		if l[i] == "-" {
			l[i] = ""
		}
	}
	return l
}

// TestMatch: P21.1, texts that a pattern matches, and such that it does not.
func TestMatch(t *testing.T) {
	for _, c := range []struct{ p, is, not string }{
		{"a*c", "ac abc abbc acc aac acac", "- ab a c abcb xabc abcd"},
		{"abc", "abc", "- a ab abcd xabc aabc ABC ab* ab?"},
		{"", "-", "a * ?"},
		{"*", "- a ab abc *", ""},
		{"**", "- a ab abc", ""},
		{"?", "a b * ?", "- ab **"},
		{"??", "ab aa", "- a abc"},
		{"?*", "a ab abc", "-"},
		{"*?", "a ab abc", "-"},
		{"*?*?*", "ab abc abcd", "- a"},
		{"a?c", "abc a?c a*c", "ac abbc abcc"},
		{"*b", "b ab bb abab", "- a ba bab_"},
		{"b*", "b ba bb", "- a ab"},
		{"*ab*", "ab aab abb xaby aaab", "- a b ba axb"},
		{"*ab*ab*", "abab abxab xabyabz ababab", "- ab aab abb aabb xabx"},
		{"*ab*ba*", "abba abxba ababa", "aba ab ba baab"},
		{"*aab", "aab aaab aaaab baab", "ab aaba"},
		{"a*a", "aa aba aaa", "a ab ba"},
		{"*a?b*", "aab acb xaabx aaab abb", "ab ba axxb"},
		{"java/*", "java/ java/lang java/lang/x", "java jav/a xjava/"},
		{"(*)V", "()V (I)V (LA;)V ())V", "()I (V )V"},
		{"a.b", "a.b", "acb ab"},
		{"[a]", "[a]", "a"},
		{"\\*", "\\ \\a", "* a"},
	} {
		for _, s := range words(c.is) {
			if !Match(c.p, s) {
				t.Errorf("%q does not match %q", c.p, s)
			}
		}
		for _, s := range words(c.not) {
			if Match(c.p, s) {
				t.Errorf("%q matches %q", c.p, s)
			}
		}
	}
}

// TestMatchBytes: P21.1, of any bytes: ? stands for each one, a byte that is no wildcard for itself alone.
func TestMatchBytes(t *testing.T) {
	for c := range 256 {
		s := string([]byte{byte(c)})
		if !Match("?", s) || !Match("*", s) || !Match("a?b", "a"+s+"b") || !Match("a*b", "a"+s+"b") || Match("", s) || Match("??", s) {
			t.Errorf("%q and wildcards", s)
		}
		for d := range 256 {
			p := string([]byte{byte(d)})
			if is := c == d || d == '*' || d == '?'; Match(p, s) != is || Match("x"+p+"y", "x"+s+"y") != is || Match("*"+p, "**"+s) != is {
				t.Errorf("%q and %q: not %v", p, s, is)
			}
		}
	}
	// A letter of two bytes is two bytes.
	if Match("?", "ä") || !Match("??", "ä") {
		t.Error("two bytes")
	}
}

// TestMatchAll: P21.1, all short patterns, and all short texts.
func TestMatchAll(t *testing.T) {
	all := slices.Concat(texts(6, "ab"), texts(3, "a*?c"))
	for _, p := range texts(5, "ab*?") {
		for _, s := range all {
			if Match(p, s) != stands(p, s) {
				t.Fatalf("%q and %q: not %v", p, s, stands(p, s))
			}
		}
	}
}

// random is a text of so many bytes, each one of some.
func random(r *rand.Rand, size int, bytes string) string {
	s := make([]byte, size)
	for i := range s {
		s[i] = bytes[r.Intn(len(bytes))]
	}
	return string(s)
}

// spelt is a text that a pattern matches, with some bytes for its wildcards.
func spelt(r *rand.Rand, p string) string {
	s := ""
	for i := range len(p) {
		switch p[i] {
		case '*':
			s += random(r, r.Intn(5), "ab")
		case '?':
			s += random(r, 1, "ab")
		default:
			s += p[i : i+1]
		}
	}
	return s
}

// TestMatchMany: P21.1, long ones, of which many match, and others nearly do.
func TestMatchMany(t *testing.T) {
	r := rand.New(rand.NewSource(21))
	matched := 0
	for range 30000 {
		p := random(r, r.Intn(90), []string{"ab*?", "a?*", "aaaaab*", "abc"}[r.Intn(4)])
		s := []byte(spelt(r, p))
		if !Match(p, string(s)) {
			t.Fatalf("%q does not match %q", p, s)
		}
		for range r.Intn(3) {
			if at := r.Intn(len(s) + 1); at < len(s) && r.Intn(2) == 0 {
				s[at] = "ab"[r.Intn(2)]
			} else {
				s = slices.Insert(s, at, "ab"[r.Intn(2)])
			}
		}
		is := standsByRows(p, string(s))
		if Match(p, string(s)) != is {
			t.Fatalf("%q and %q: not %v", p, s, is)
		}
		if is {
			matched++
		}
	}
	if matched < 8000 || matched > 28000 {
		t.Errorf("%d match", matched)
	}
}

// TestLong: P1, it ends soon, be it ever so long, and whatever a * could stand for.
func TestLong(t *testing.T) {
	a := strings.Repeat("a", 1<<16)
	for _, c := range []struct {
		p, s string
		is   bool
	}{
		{strings.Repeat("a*", 30) + "b", a, false},
		{strings.Repeat("a*", 30), a, true},
		{strings.Repeat("*a", 1<<15) + "b", a, false},
		{strings.Repeat("*a", 1<<16), a, true},
		{strings.Repeat("*a", 1<<16) + "*a", a, false},
		{strings.Repeat("*", 1<<20), a, true},
		{strings.Repeat("*", 1<<20) + "b", a, false},
		{strings.Repeat("?", 1<<16), a, true},
		{strings.Repeat("?", 1<<16) + "?", a, false},
		{a, a, true}, {a, a + "a", false}, {a + "a", a, false}, {a + "*", a, true}, {"*" + strings.Repeat("a", 60) + "b", a, false},
		{strings.Repeat("?*", 1<<15), a, true},
		{"*" + strings.Repeat("a?", 30) + "b*", strings.Repeat("ab", 1<<15), false},
	} {
		if Match(c.p, c.s) != c.is {
			t.Errorf("%d bytes and %d: not %v", len(c.p), len(c.s), c.is)
		}
		if Plain(c.s) && (Meets(c.p, c.s) != c.is || Meets(c.s, c.p) != c.is) {
			t.Errorf("%d bytes meet %d: not %v", len(c.p), len(c.s), c.is)
		}
	}
	if s := strings.Repeat("a*", 1<<16); !Meets(s, s) || Meets(s, "b"+s) || !Meets(s, "*"+s) || Least(s) != 1<<16 {
		t.Error("with themselves")
	}
}

// TestLeast: P21.1, how many bytes are not *.
func TestLeast(t *testing.T) {
	for p, n := range map[string]int{
		"": 0, "*": 0, "**": 0, "?": 1, "a": 1, "a*?": 2, "a*c": 2, "*?*?*": 2, "abc": 3, "ä": 2, "\x00*\xff": 2, strings.Repeat("a*", 100): 100,
	} {
		if Least(p) != n {
			t.Errorf("%q: %d, not %d", p, Least(p), n)
		}
	}
}

// TestAmong: P21.1, those that match, in their order, as often as they stand there.
func TestAmong(t *testing.T) {
	for _, c := range []struct{ p, l, want string }{
		{"a*", "b a ab ba aa a", "a ab aa a"}, {"*", "b a b", "b a b"}, {"?", "ab b c abc a", "b c a"}, {"x", "a b", ""}, {"b", "c b a b", "b b"},
		{"*b", "zb ab b bb ba", "zb ab b bb"},
	} {
		if got := Among(c.p, strings.Fields(c.l)); !slices.Equal(got, strings.Fields(c.want)) {
			t.Errorf("%q among %s: %q", c.p, c.l, got)
		}
	}
	if len(Among("*", nil)) != 0 || len(Among("", nil)) != 0 {
		t.Error("among none")
	}
	if !slices.Equal(Among("", []string{"a", "", "*", ""}), []string{"", ""}) || !slices.Equal(Among("*", []string{"", "\xff"}), []string{"", "\xff"}) {
		t.Error("among what is empty")
	}
	r := rand.New(rand.NewSource(22))
	l := texts(4, "ab*")
	for range 200 {
		p := random(r, r.Intn(5), "ab*?")
		r.Shuffle(len(l), func(i, j int) { l[i], l[j] = l[j], l[i] })
		var want []string
		for _, s := range l {
			if stands(p, s) {
				want = append(want, s)
			}
		}
		if !slices.Equal(Among(p, l), want) {
			t.Fatalf("%q among all", p)
		}
	}
}

// TestAmongKeeps: P3, what is handed in stays, spare room too; what is answered is the caller's.
func TestAmongKeeps(t *testing.T) {
	room := []string{"a", "b", "ab", "spare", "spare"}
	for _, p := range []string{"*", "a*", "x", "b"} {
		got := Among(p, room[:3])
		for i := range got {
			got[i] = "mine"
		}
		got = append(got, "mine", "mine")
		if !slices.Equal(room, []string{"a", "b", "ab", "spare", "spare"}) {
			t.Fatalf("%q: %q", p, room)
		}
		again := Among(p, room[:3])
		if slices.Contains(again, "mine") {
			t.Fatalf("%q: %q, with %q kept", p, again, got)
		}
	}
}

// TestMeets: P21.2, is there a text that both match?
func TestMeets(t *testing.T) {
	for _, c := range []struct {
		a, b string
		is   bool
	}{
		{"a?", "*b", true}, {"a?", "b?", false}, {"", "", true}, {"", "*", true}, {"", "**", true}, {"", "?", false}, {"", "a", false}, {"", "*?", false},
		{"?", "?", true}, {"?", "??", false}, {"?", "*", true}, {"a", "a", true}, {"a", "b", false}, {"a*", "*b", true}, {"a*", "b*", false}, {"*a", "*b", false},
		{"a*b", "b*a", false}, {"a*b", "?*?", true}, {"a*b", "a", false}, {"a*a", "a", false}, {"a*a", "?", false}, {"a*a", "??", true},
		{"a*b", "ab*", true}, {"ab*", "a*b", true}, {"ab*ab", "*a", false}, {"abc*", "ab*x", true}, {"abc*", "abd*", false}, {"*abc", "*bc", true}, {"*abc", "*ac", false}, {"x*abc", "*bc", true},
		{"*a*", "*b*", true}, {"*ab*", "b?", false}, {"*ab*", "??b", true}, {"*ab*", "a?", true}, {"*ab*", "?a", false}, {"a?c", "?b?", true}, {"a?c", "?b", false},
		{"a*b*c", "a?c", true}, {"a*b*c", "?", false}, {"a*b*c", "a??d", false}, {"*aa", "aab", false}, {"\xff*", "*\x00", true}, {"\xff?", "?\x00", true}, {"\xff", "\xfe", false},
	} {
		if Meets(c.a, c.b) != c.is || Meets(c.b, c.a) != c.is {
			t.Errorf("%q and %q: not %v from both sides", c.a, c.b, c.is)
		}
	}
}

// TestMeetsAll: P21.2, P21.6, all short patterns with each other: they meet just if a text is matched by both, from both sides. If there is one, there is one of a and b that is no longer than both of them together.
func TestMeetsAll(t *testing.T) {
	all := texts(8, "ab")
	patterns := texts(4, "ab*?")
	which := make([][8]uint64, len(patterns))
	for i, p := range patterns {
		for n, s := range all {
			if standsByRows(p, s) {
				which[i][n/64] |= 1 << (n % 64)
			}
		}
	}
	for i, p := range patterns {
		for j, q := range patterns {
			is := false
			for n := range which[i] {
				is = is || which[i][n]&which[j][n] != 0
			}
			if Meets(p, q) != is {
				t.Fatalf("%q and %q: not %v", p, q, is)
			}
		}
	}
}

// meetsByRows tells whether two patterns meet: it keeps which parts ahead of both match a text in common.
func meetsByRows(a, b string) bool {
	row := make([][]bool, len(a)+1)
	for i := range row {
		row[i] = make([]bool, len(b)+1)
		for j := range row[i] {
			step := func(m, n int) bool { return i >= m && j >= n && row[i-m][j-n] }
			switch {
			case i == 0 && j == 0:
				row[i][j] = true
			case i > 0 && a[i-1] == '*':
				row[i][j] = step(1, 0) || step(0, 1)
			case j > 0 && b[j-1] == '*':
				row[i][j] = step(0, 1) || step(1, 0)
			case i > 0 && j > 0:
				row[i][j] = step(1, 1) && (a[i-1] == b[j-1] || a[i-1] == '?' || b[j-1] == '?')
			}
		}
	}
	return row[len(a)][len(b)]
}

// TestMeetsMany: P21.2, P21.6, long ones.
func TestMeetsMany(t *testing.T) {
	r := rand.New(rand.NewSource(23))
	met := 0
	for range 20000 {
		a := random(r, r.Intn(20), []string{"ab*?", "a?", "aaab???"}[r.Intn(3)])
		b := random(r, r.Intn(20), []string{"ab*?", "a?", "aaab???"}[r.Intn(3)])
		if r.Intn(2) == 0 {
			b = spelt(r, strings.ReplaceAll(a, "?", []string{"?", "a"}[r.Intn(2)])) // of one that it matches, or nearly
			if at := r.Intn(len(b) + 1); r.Intn(2) == 0 {
				b = b[:at] + random(r, r.Intn(2), "ab*?") + b[min(len(b), at+r.Intn(3)):]
			}
		}
		is := meetsByRows(a, b)
		if Meets(a, b) != is || Meets(b, a) != is {
			t.Fatalf("%q and %q: not %v from both sides", a, b, is)
		}
		if is {
			met++
		}
	}
	if met < 5000 || met > 15000 {
		t.Errorf("%d meet", met)
	}
}

// TestPlainAlone: P21.3, what is plain matches itself alone; * matches all.
func TestPlainAlone(t *testing.T) {
	all := slices.Concat(texts(4, "ab"), texts(3, "a*?\xff"), []string{"<clinit>", "([La/B;)V", "a.b"})
	for _, p := range all {
		if !Match("*", p) {
			t.Errorf("* does not match %q", p)
		}
		if !Plain(p) {
			continue
		}
		for _, s := range all {
			if Match(p, s) != (p == s) {
				t.Errorf("%q and %q: not %v", p, s, p == s)
			}
		}
	}
}

// TestSideBySide: P21.4, two patterns one behind the other match what can be cut so that each matches its part.
func TestSideBySide(t *testing.T) {
	patterns, all := texts(3, "ab*?"), texts(4, "ab")
	for _, p := range patterns {
		for _, q := range patterns {
			for _, s := range all {
				cut := false
				for n := range len(s) + 1 {
					cut = cut || Match(p, s[:n]) && Match(q, s[n:])
				}
				if Match(p+q, s) != cut {
					t.Fatalf("%q%q and %q: not %v", p, q, s, cut)
				}
			}
		}
	}
}

// TestLonger: P21.5, what matches has at least Least bytes, and one of just so many matches; with a * behind it matches what goes on, too.
func TestLonger(t *testing.T) {
	r := rand.New(rand.NewSource(24))
	for range 5000 {
		p := random(r, r.Intn(20), "ab*?\xff")
		s := spelt(r, p)
		if !Match(p, s) || len(s) < Least(p) {
			t.Fatalf("%q and %q", p, s)
		}
		if least := strings.ReplaceAll(p, "*", ""); !Match(p, least) || len(least) != Least(p) {
			t.Fatalf("%q and %q, its least", p, least)
		}
		if more := s + random(r, r.Intn(6), "ab*\x00"); !Match(p+"*", more) {
			t.Fatalf("%q* and %q", p, more)
		}
		if least := Least(p); least > 0 && Match(p, strings.Repeat("a", least-1)) {
			t.Fatalf("%q matches what is shorter", p)
		}
	}
}

// TestInCommon: P21.6, if two match one text, they meet; of one that is plain Meets is Match.
func TestInCommon(t *testing.T) {
	r := rand.New(rand.NewSource(25))
	for range 5000 {
		s := random(r, r.Intn(20), "ab")
		a, b := hidden(r, s), hidden(r, s)
		if !Match(a, s) || !Match(b, s) || !Meets(a, b) || !Meets(b, a) {
			t.Fatalf("%q and %q, of %q", a, b, s)
		}
		other := random(r, len(s), "ab")
		if Meets(a, other) != Match(a, other) || Meets(other, a) != Match(a, other) || !Meets(s, a) {
			t.Fatalf("%q and %q", a, other)
		}
	}
}

// hidden is a pattern that matches a text, some of which stands there as it is.
func hidden(r *rand.Rand, s string) string {
	p := ""
	for at := 0; at < len(s); {
		switch r.Intn(5) {
		case 0:
			p += "*"
			at += r.Intn(len(s) - at + 1)
		case 1:
			p += "?"
			at++
		default:
			p += s[at : at+1]
			at++
		}
	}
	return p
}

// TestWild: P1, P5, at any bytes: each call ends, and answers the same again.
func TestWild(t *testing.T) {
	r := rand.New(rand.NewSource(26))
	for range 20000 {
		var b [2]string
		for i := range b {
			s := make([]byte, r.Intn(1+r.Intn(100)))
			for at := range s {
				s[at] = byte(r.Intn(256))
				if r.Intn(2) == 0 {
					s[at] = "*?"[r.Intn(2)]
				}
			}
			b[i] = string(s)
		}
		p, s := b[0], b[1]
		for range 2 {
			if Match(p, s) != standsByRows(p, s) || Meets(p, s) != meetsByRows(p, s) {
				t.Fatalf("%q and %q", p, s)
			}
			if Plain(p) == strings.ContainsAny(p, "*?") || Right(p) && len(p) > api.MaxString || Least(p) != len(strings.ReplaceAll(p, "*", "")) {
				t.Fatalf("%q", p)
			}
			if got := Among(p, []string{s, p, s}); slices.Contains(got, s) != Match(p, s) || slices.Contains(got, p) != Match(p, p) {
				t.Fatalf("%q among %q", p, s)
			}
		}
	}
}
