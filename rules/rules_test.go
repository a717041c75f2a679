package rules

import (
	"math/rand"
	"slices"
	"strings"
	"testing"

	"secateur/api"
	"secateur/glob"
	"secateur/word"
)

// rule reads a rule: names ahead of it, if it has Names; then the patterns of the class, and (of members) of Name and Desc.
func rule(s string) api.Rule {
	s, names := strings.CutPrefix(s, "names ")
	l := strings.Fields(s)
	if len(l) == 1 {
		return api.Rule{Names: names, Class: l[0]}
	}
	return api.Rule{Names: names, Member: true, Class: l[0], Name: l[1], Desc: l[2]}
}

var (
	long    = strings.Repeat("a", api.MaxString)
	tooLong = long + "*"
)

// wrong is rules that can't be, each for one reason.
func wrong() []api.Rule {
	return []api.Rule{
		{}, {Names: true}, {Class: tooLong}, {Class: "a b"}, {Class: "a\n"}, {Class: "\x7f"}, {Class: "\xff"}, {Class: " "},
		{Class: "A", Name: "m"}, {Class: "A", Desc: "()V"}, {Class: "A", Name: "m", Desc: "()V"}, {Class: "A", Name: " "}, {Names: true, Class: "*", Desc: "*"},
		{Member: true}, {Member: true, Class: "A"}, {Member: true, Class: "A", Name: "m"}, {Member: true, Class: "A", Desc: "I"}, {Member: true, Name: "m", Desc: "I"}, {Names: true, Member: true, Class: "*", Name: "*"},
		{Member: true, Class: tooLong, Name: "m", Desc: "I"}, {Member: true, Class: "A", Name: tooLong, Desc: "I"}, {Member: true, Class: "A", Name: "m", Desc: tooLong},
		{Member: true, Class: "A ", Name: "m", Desc: "I"}, {Member: true, Class: "A", Name: "m m", Desc: "I"}, {Member: true, Class: "A", Name: "m", Desc: " I"}, {Member: true, Class: "A", Name: "m", Desc: "I\n"},
	}
}

// TestRight: P22.1, whose patterns can be, and of a class Name and Desc are empty.
func TestRight(t *testing.T) {
	for _, s := range []string{
		"A", "names A", "*", "?", "a/B*", long, "A m ()V", "names A m ()V", "* * *", "? ? ?", "A <clinit> ()V", "A f I", "A f [LA;", long + " " + long + " " + long,
		// Patterns need not match any name.
		"-", "() () ()", "names !~ !~ !~",
	} {
		if !Right(rule(s)) {
			t.Errorf("%s: it can't be", s)
		}
	}
	for _, r := range wrong() {
		if Right(r) {
			t.Errorf("%+v: it can be", r)
		}
	}
}

// TestParse: P22.1, the rules of a text.
func TestParse(t *testing.T) {
	for _, c := range []struct{ s, want string }{
		{"", ""},
		{"keep class A\n", "A"},
		{"keepname class A\n", "names A"},
		{"keep member A m ()V\n", "A m ()V"},
		{"keepname member A * ()I\n", "names A * ()I"},
		{"keep class *\nkeep class *\n", "*,*"},
		{"keep member a/B* ?? (*)[La/B;\nkeepname class ?\nkeep class b\n", "a/B* ?? (*)[La/B;,names ?,b"},
		// Its words can be names, too.
		{"keep class class\nkeep class member\nkeepname class keep\nkeep member keep class member\n", "class,member,names keep,keep class member"},
		{"keep class " + long + "\nkeep member " + long + " " + long + " " + long + "\n", long + "," + long + " " + long + " " + long},
	} {
		var want []api.Rule
		for s := range strings.SplitSeq(c.want, ",") {
			if s != "" {
				want = append(want, rule(s))
			}
		}
		if got, fault := Parse(c.s); !slices.Equal(got, want) || fault != (api.Fault{}) {
			t.Errorf("%q: %+v %v", c.s, got, fault)
		}
	}
}

// TestParseNone: P22.1, ErrRule at the line that is none's.
func TestParseNone(t *testing.T) {
	for _, line := range []string{
		"", " ", "keep", "keepname", "class", "member", "keep ", "all", "keep all", "A", "keep A", "class A", "member A m ()V",
		"keep class", "keep class ", "keep class  ", "keep class  A", "keep  class A", " keep class A", "keep class A ", "keep class A B", "keep class A m ()V", "keep class A  ", "keep class A m", "keep class A m ()V ",
		"keep member", "keep member A", "keep member A m", "keep member A m ", "keep member  m ()V", "keep member A  ()V", "keep member A m ()V ", "keep member A m ()V x", "keep  member A m ()V", " keep member A m ()V",
		"Keep class A", "KEEP class A", "keep Class A", "keep Member A m ()V", "keepnames class A", "keepName class A", "keep name class A", "names class A", "keep classes A", "keep members A m ()V", "keep field A f I", "keep method A m ()V", "keep keep class A", "# keep", "keep,class,A",
		"keep class " + tooLong, "keep member " + tooLong + " m ()V", "keep member A " + tooLong + " ()V", "keep member A m " + tooLong, "keepname class " + tooLong,
	} {
		for ahead := range 3 {
			s := strings.Repeat("keep class A\n", ahead) + line + "\n"
			for _, behind := range []string{"", "keep class B\n", "\nkeep\n"} {
				if got, fault := Parse(s + behind); len(got) != 0 || fault != (api.Fault{Errno: api.ErrRule, At: ahead + 1}) {
					t.Errorf("%q: %v %v", s+behind, got, fault)
				}
			}
		}
	}
}

// TestParseLines: P22.1, P2, what is wrong with the lines goes ahead of what is wrong with the rules.
func TestParseLines(t *testing.T) {
	for _, c := range []struct {
		s     string
		errno api.Errno
		at    int
	}{
		{"keep class A", api.ErrForm, 1}, {"keep class A\nkeep class B", api.ErrForm, 2}, {"keep class A\n ", api.ErrForm, 2},
		{"keep class \xff\n", api.ErrForm, 1}, {"keep\tclass A\n", api.ErrForm, 1}, {"keep class A\r\n", api.ErrForm, 1}, {"keep class A\nkeep class \x7f\nkeep class \x00\n", api.ErrForm, 2},
		{"keep all\nkeep class \x01\n", api.ErrForm, 2}, {"\n\n\nkeep", api.ErrForm, 4}, {strings.Repeat("keep class A\n", api.MaxRules+1) + "keep", api.ErrForm, api.MaxRules + 2},
		{strings.Repeat("\n", api.MaxBytes), api.ErrRule, 1}, {strings.Repeat("\n", api.MaxBytes+1), api.ErrLong, 0}, {strings.Repeat("\xff", api.MaxBytes+1), api.ErrLong, 0},
	} {
		if got, fault := Parse(c.s); len(got) != 0 || fault != (api.Fault{Errno: c.errno, At: c.at}) {
			t.Errorf("%.40q: %v %v", c.s, got, fault)
		}
		_, of := word.Lines(c.s)
		if _, fault := Parse(c.s); of != (api.Fault{}) && fault != of {
			t.Errorf("%.40q: %v, of its lines %v", c.s, fault, of)
		}
	}
}

// TestParseMost: P22.1, ErrLong at the line behind the last one that may be.
func TestParseMost(t *testing.T) {
	most := strings.Repeat("keep class A\n", api.MaxRules)
	if got, fault := Parse(most); !slices.Equal(got, slices.Repeat([]api.Rule{rule("A")}, api.MaxRules)) || fault != (api.Fault{}) {
		t.Errorf("the most: %d rules, %v", len(got), fault)
	}
	for _, c := range []struct {
		s     string
		errno api.Errno
		at    int
	}{
		{most + "keep member A m ()V\n", api.ErrLong, api.MaxRules + 1},
		{most + most, api.ErrLong, api.MaxRules + 1},
		// A line that is none's is that, wherever it stands ahead of others.
		{most + "keep all\n", api.ErrRule, api.MaxRules + 1},
		{"keep all\n" + most, api.ErrRule, 1},
		{most[13:] + "\n" + most, api.ErrRule, api.MaxRules},
	} {
		if got, fault := Parse(c.s); len(got) != 0 || fault != (api.Fault{Errno: c.errno, At: c.at}) {
			t.Errorf("%d bytes: %v %v", len(c.s), got, fault)
		}
	}
}

// TestPrint: P22.1, each one's line, and a line feed.
func TestPrint(t *testing.T) {
	for _, c := range []struct {
		l    []api.Rule
		want string
	}{
		{nil, ""}, {[]api.Rule{}, ""},
		{[]api.Rule{rule("A")}, "keep class A\n"},
		{[]api.Rule{rule("names a/B*")}, "keepname class a/B*\n"},
		{[]api.Rule{rule("A m ()V")}, "keep member A m ()V\n"},
		{[]api.Rule{rule("names A * ()I")}, "keepname member A * ()I\n"},
		{[]api.Rule{rule("B"), rule("* f I"), rule("names A"), rule("B")}, "keep class B\nkeep member * f I\nkeepname class A\nkeep class B\n"},
		{slices.Repeat([]api.Rule{rule("?")}, api.MaxRules), strings.Repeat("keep class ?\n", api.MaxRules)},
	} {
		if got, e := Print(c.l); got != c.want || e != api.OK {
			t.Errorf("%+v: %q %v", c.l, got, e)
		}
	}
}

// TestPrintWrong: P22.1, P2, ErrLong ahead of ErrRule; with an error there is no text.
func TestPrintWrong(t *testing.T) {
	check := func(l []api.Rule, want api.Errno) {
		t.Helper()
		if got, e := Print(l); got != "" || e != want {
			t.Errorf("%d rules: %q %v, not %v", len(l), got, e, want)
		}
	}
	most := slices.Repeat([]api.Rule{rule("names A m ()V")}, api.MaxRules)
	check(append(slices.Clone(most), rule("A")), api.ErrLong)
	check(append(slices.Clone(most), api.Rule{}), api.ErrLong)
	check(make([]api.Rule, api.MaxRules+1), api.ErrLong)
	check(make([]api.Rule, api.MaxRules), api.ErrRule)
	for _, r := range wrong() {
		check([]api.Rule{r}, api.ErrRule)
		check([]api.Rule{rule("A"), r, rule("B")}, api.ErrRule)
		check(append(slices.Clone(most[1:]), r), api.ErrRule)
	}
}

// TestClass: P22.2, a rule of a class is of what its pattern matches.
func TestClass(t *testing.T) {
	for _, c := range []struct {
		rule, class string
		is          bool
	}{
		{"A", "A", true}, {"A", "B", false}, {"A", "AA", false}, {"A", "", false}, {"*", "", true}, {"*", "a/B", true}, {"a/*", "a/B", true}, {"a/*", "b/B", false}, {"?", "A", true}, {"?", "AA", false},
		{"names A", "A", true}, {"names A", "B", false}, {"a*c", "abbc", true}, {"A", "a", false}, {"*", "\xff", true}, {"*", api.InitName, true},
		// One of members is of no class.
		{"A m ()V", "A", false}, {"* * *", "A", false}, {"names * * *", "A", false},
	} {
		if Class(rule(c.rule), c.class) != c.is {
			t.Errorf("%s and %q: not %v", c.rule, c.class, c.is)
		}
	}
}

// TestMember: P22.2, a rule of members is of what its patterns match.
func TestMember(t *testing.T) {
	for _, c := range []struct {
		rule, member string
		is           bool
	}{
		{"A m ()V", "A m ()V", true}, {"A m ()V", "B m ()V", false}, {"A m ()V", "A n ()V", false}, {"A m ()V", "A m ()I", false}, {"names A m ()V", "A m ()V", true}, {"names A m ()V", "B m ()V", false},
		{"* * *", "A m ()V", true}, {"A * *", "A f I", true}, {"A * *", "B f I", false}, {"* f *", "A f [LB;", true}, {"* f *", "A g [LB;", false}, {"* * I", "A f I", true}, {"* * I", "A f [I", false},
		{"A * ()I", "A s ()I", true}, {"A * ()I", "A s ()V", false}, {"a/* get* (*)L*;", "a/B getX (I)LA;", true}, {"a/* get* (*)L*;", "a/B getX (I)[LA;", false}, {"a/* get* (*)L*;", "a/B setX (I)LA;", false}, {"a/* get* (*)L*;", "b/B getX (I)LA;", false},
		// Each pattern is held against its own text.
		{"A B C", "A B C", true}, {"A B C", "B A C", false}, {"A B C", "A C B", false}, {"A B C", "C B A", false},
		// The method by which a class is initialised is none's.
		{"A <clinit> ()V", "A <clinit> ()V", false}, {"* * *", "A <clinit> ()V", false}, {"* <* *", "A <clinit> ()V", false}, {"* <* *", "A <clinit ()V", true}, {"* * *", "<clinit> m <clinit>", true}, {"names * * *", "A <clinit> ()V", false},
		// One of a class is of no member.
		{"A", "A m ()V", false}, {"*", "A m ()V", false}, {"names *", "A m ()V", false},
	} {
		f := strings.Fields(c.member)
		if Member(rule(c.rule), f[0], f[1], f[2]) != c.is {
			t.Errorf("%s and %s: not %v", c.rule, c.member, c.is)
		}
	}
	if !Member(rule("* * *"), "", "", "") || Member(rule("? * *"), "", "", "") || Member(rule("* ? *"), "", "", "") || Member(rule("* * ?"), "", "", "") || !Member(rule("* * *"), "\xff", "\x00", " ") {
		t.Error("what is no name")
	}
}

// TestNone: P22.2, what can't be is of nothing, though its patterns match.
func TestNone(t *testing.T) {
	all := strings.Repeat("*", api.MaxString+1)
	for _, r := range append(wrong(), api.Rule{Class: all}, api.Rule{Class: "*", Name: "*", Desc: "*"}, api.Rule{Member: true, Class: all, Name: "*", Desc: "*"},
		api.Rule{Member: true, Class: "*", Name: all, Desc: "*"}, api.Rule{Member: true, Class: "*", Name: "*", Desc: all}) {
		for _, s := range []string{"", "A", r.Class} {
			if Class(r, s) {
				t.Errorf("%+v is of %q", r, s)
			}
		}
		for _, m := range [][3]string{{"A", "m", "()V"}, {"", "", ""}, {r.Class, r.Name, r.Desc}} {
			if Member(r, m[0], m[1], m[2]) {
				t.Errorf("%+v is of %q", r, m)
			}
		}
	}
}

// TestExact: P22.2, rules with these as patterns, whatever they are.
func TestExact(t *testing.T) {
	for _, s := range []string{"", "A", "a/B", "a*", "a b", "\xff", tooLong} {
		for _, names := range []bool{false, true} {
			if got, want := Exact(s, names), (api.Rule{Names: names, Class: s}); got != want {
				t.Errorf("%q: %+v", s, got)
			}
			if got, want := ExactMember(s, s+"1", s+"2", names), (api.Rule{Names: names, Member: true, Class: s, Name: s + "1", Desc: s + "2"}); got != want {
				t.Errorf("%q: %+v", s, got)
			}
		}
	}
}

// TestThereAndBack: P22.3, Parse of Print are the rules; Print of Parse is the text.
func TestThereAndBack(t *testing.T) {
	r := rand.New(rand.NewSource(22))
	for range 2000 {
		l := make([]api.Rule, r.Intn(api.MaxRules+1))
		for i := range l {
			l[i] = randomRule(r)
		}
		s, e := Print(l)
		if e != api.OK {
			t.Fatalf("%+v: %v", l, e)
		}
		back, fault := Parse(s)
		if fault != (api.Fault{}) || !slices.Equal(back, l) {
			t.Fatalf("%q: %v %+v", s, fault, back)
		}
	}
}

// randomRule is a rule that can be.
func randomRule(r *rand.Rand) api.Rule {
	pattern := func() string {
		s := make([]byte, 1+r.Intn(1+r.Intn(api.MaxString)))
		for i := range s {
			s[i] = byte(33 + r.Intn(94))
		}
		return string(s)
	}
	if r.Intn(2) == 0 {
		return api.Rule{Names: r.Intn(2) == 0, Class: pattern()}
	}
	return api.Rule{Names: r.Intn(2) == 0, Member: true, Class: pattern(), Name: pattern(), Desc: pattern()}
}

// isLine tells by the words of the chapter alone whether a line is a rule's, and whose.
func isLine(line string) (api.Rule, bool) {
	for _, names := range []string{"keep", "keepname"} {
		if p, ok := strings.CutPrefix(line, names+" class "); ok {
			return api.Rule{Names: names != "keep", Class: p}, glob.Right(p)
		}
		if p, ok := strings.CutPrefix(line, names+" member "); ok {
			class, p, _ := strings.Cut(p, " ")
			name, desc, _ := strings.Cut(p, " ")
			return api.Rule{Names: names != "keep", Member: true, Class: class, Name: name, Desc: desc}, glob.Right(class) && glob.Right(name) && glob.Right(desc)
		}
	}
	return api.Rule{}, false
}

// TestParseMany: P22.1, P22.3, texts of which many are rules', and others nearly: Parse takes just what Print writes.
func TestParseMany(t *testing.T) {
	r := rand.New(rand.NewSource(23))
	parts := []string{"keep", "keep", "keep", "keepname", "class", "class", "member", "A", "m", "()V", "*", "", "x y", tooLong}
	taken := 0
	for range 40000 {
		var lines []string
		for range r.Intn(3) {
			switch line, _ := Print([]api.Rule{randomRule(r)}); r.Intn(4) {
			case 0:
				var l []string
				for range r.Intn(7) {
					l = append(l, parts[r.Intn(len(parts))])
				}
				lines = append(lines, strings.Join(l, " "))
			case 1:
				b := []byte(line[:len(line)-1])
				b[r.Intn(len(b))] = byte(32 + r.Intn(95))
				lines = append(lines, string(b))
			default:
				lines = append(lines, line[:len(line)-1])
			}
		}
		var want []api.Rule
		fault := api.Fault{}
		for i, line := range lines {
			of, is := isLine(line)
			if !is {
				want, fault = nil, api.Fault{Errno: api.ErrRule, At: i + 1}
				break
			}
			want = append(want, of)
		}
		s := word.Text(lines)
		got, f := Parse(s)
		if !slices.Equal(got, want) || f != fault {
			t.Fatalf("%q: %+v %v, not %+v %v", s, got, f, want, fault)
		}
		if f == (api.Fault{}) {
			taken++
			if back, e := Print(got); back != s || e != api.OK {
				t.Fatalf("%q: %q %v", s, back, e)
			}
		}
	}
	if taken < 10000 || taken > 35000 {
		t.Errorf("%d texts are taken", taken)
	}
}

// TestExactAlone: P22.4, an exact rule of a class's name matches this alone, and of a member likewise.
func TestExactAlone(t *testing.T) {
	classes := []string{"A", "AA", "a", "a/B", "a/BB", "/", "$", "_", "B/a", strings.Repeat("A", api.MaxName)}
	names := []string{"m", "mm", "n", "$0", "f_", strings.Repeat("m", api.MaxName)}
	descs := []string{"()V", "()I", "(I)V", "(LA;[La/B;)[I", "I", "[I", "LA;", "[LA;"}
	for _, with := range []bool{false, true} {
		for _, c := range classes {
			for _, other := range classes {
				if Class(Exact(c, with), other) != (c == other) {
					t.Errorf("%s and %s", c, other)
				}
			}
			for _, n := range names {
				for _, d := range descs {
					checkAlone(t, ExactMember(c, n, d, with), classes, names, descs)
				}
			}
		}
	}
}

// checkAlone checks of a rule that of all these members it is of its own alone.
func checkAlone(t *testing.T, r api.Rule, classes, names, descs []string) {
	t.Helper()
	for _, c := range classes {
		if Class(r, c) {
			t.Errorf("%+v is of %s", r, c)
		}
		for _, n := range names {
			for _, d := range descs {
				if Member(r, c, n, d) != (r.Class == c && r.Name == n && r.Desc == d) {
					t.Errorf("%+v and %s %s %s", r, c, n, d)
				}
			}
		}
	}
}

// TestWild: P1, P5, at any rules and texts: each call ends, and answers the same again; Class and Member go by the patterns alone.
func TestWild(t *testing.T) {
	r := rand.New(rand.NewSource(24))
	some := []string{"", "A", "a/B", "*", "?", "m", "a*", "<clinit>", "()V", "I", "(*)V", " ", "\xff", "A b", tooLong, "**"}
	pick := func() string { return some[r.Intn(len(some))] }
	for range 50000 {
		one := api.Rule{Names: r.Intn(2) == 0, Member: r.Intn(2) == 0, Class: pick(), Name: pick(), Desc: pick()}
		if !one.Member && r.Intn(2) == 0 {
			one.Name, one.Desc = "", ""
		}
		can := glob.Right(one.Class) && (one.Member && glob.Right(one.Name) && glob.Right(one.Desc) || !one.Member && one.Name == "" && one.Desc == "")
		class, name, desc := pick(), pick(), pick()
		ofClass := can && !one.Member && glob.Match(one.Class, class)
		ofMember := can && one.Member && name != "<clinit>" && glob.Match(one.Class, class) && glob.Match(one.Name, name) && glob.Match(one.Desc, desc)
		for range 2 {
			if Right(one) != can || Class(one, class) != ofClass || Member(one, class, name, desc) != ofMember {
				t.Fatalf("%+v and %q %q %q", one, class, name, desc)
			}
			if s, e := Print([]api.Rule{one}); (e == api.OK) != can || (s != "") != can {
				t.Fatalf("%+v: %q %v", one, s, e)
			}
		}
		b := make([]byte, r.Intn(40))
		for i := range b {
			b[i] = "keep class\nmember A\n\xff"[r.Intn(21)]
		}
		if l, f := Parse(string(b)); f != (api.Fault{}) && (len(l) != 0 || f.Errno != api.ErrForm && f.Errno != api.ErrRule || f.At < 1) {
			t.Fatalf("%q: %v %v", b, l, f)
		}
	}
}

// TestKeeps: P3, what is handed in stays, spare room too; what is answered is the caller's.
func TestKeeps(t *testing.T) {
	room := []api.Rule{rule("B"), rule("names A m ()V"), rule("spare"), rule("spare")}
	was := slices.Clone(room)
	for _, l := range [][]api.Rule{room[:2], room[:0], room[2:3]} {
		Print(l)
		if !slices.Equal(room, was) {
			t.Fatalf("%+v", room)
		}
	}
	const s = "keep class A\nkeep class B\n"
	got, _ := Parse(s)
	got[0], got[1] = api.Rule{}, api.Rule{}
	got = append(got, api.Rule{})
	if again, _ := Parse(s); !slices.Equal(again, []api.Rule{rule("A"), rule("B")}) {
		t.Fatalf("%+v, with %+v kept", again, got)
	}
}
