package word

import (
	"math"
	"math/big"
	"math/rand"
	"slices"
	"strconv"
	"strings"
	"testing"

	"secateur/api"
)

const letters = "ABCDEFGHIJKLMNOPQRSTUVWXYZabcdefghijklmnopqrstuvwxyz0123456789_$"

// P4.1
func TestWhichBytesNamesHave(t *testing.T) {
	for c := range 256 {
		one := string([]byte{byte(c)})
		name := strings.Contains(letters, one)
		class := name || one == "/"
		for _, s := range []string{one, one + "a", "a" + one, "a" + one + "b"} {
			if Name(s) != name {
				t.Errorf("Name(%q) = %v", s, !name)
			}
			if Class(s) != class {
				t.Errorf("Class(%q) = %v", s, !class)
			}
		}
	}
}

// P4.1
func TestHowLongNamesAre(t *testing.T) {
	for size := range 3 * api.MaxName {
		can := 1 <= size && size <= api.MaxName
		if s := strings.Repeat("a", size); Name(s) != can || Class(s) != can {
			t.Errorf("%d letters: Name %v, Class %v", size, Name(s), Class(s))
		}
		if s := strings.Repeat("/", size); Class(s) != can || Name(s) {
			t.Errorf("%d strokes: Name %v, Class %v", size, Name(s), Class(s))
		}
	}
}

// P4.1
func TestNamesAsWritten(t *testing.T) {
	for _, c := range []struct {
		s           string
		name, class bool
	}{
		{"a/B", false, true},
		{"<clinit>", true, false},
		{api.InitName, true, false},
		{"<clinit", false, false},
		{"<clinit>x", false, false},
		{"<CLINIT>", false, false},
		{"<init>", false, false},
		{"clinit", true, true},
		{"$", true, true},
		{"7", true, true},
		{"a.b", false, false},
		{"a b", false, false},
		{"\u00e4", false, false},
	} {
		if Name(c.s) != c.name || Class(c.s) != c.class {
			t.Errorf("%q: Name %v, Class %v", c.s, Name(c.s), Class(c.s))
		}
	}
}

// P4.2
func TestLinesAsWritten(t *testing.T) {
	full := strings.Repeat("\n", api.MaxBytes)
	for _, c := range []struct {
		s string
		l []string
	}{
		{"", nil},
		{"\n", []string{""}},
		{"\n\n", []string{"", ""}},
		{"x\n", []string{"x"}},
		{"x\ny\n", []string{"x", "y"}},
		{"x\n\ny\n", []string{"x", "", "y"}},
		{" ~\n  \n", []string{" ~", "  "}},
		{full, make([]string, api.MaxBytes)},
	} {
		if l, f := Lines(c.s); !slices.Equal(l, c.l) || f != (api.Fault{}) {
			t.Errorf("Lines(%.20q) = %d lines, %v, not %d lines", c.s, len(l), f, len(c.l))
		}
	}
}

// P4.2
func TestLinesThatFail(t *testing.T) {
	for _, c := range []struct {
		s string
		f api.Fault
	}{
		{"x", api.Fault{Errno: api.ErrForm, At: 1}},
		{"x\ny", api.Fault{Errno: api.ErrForm, At: 2}},
		{"\n\n ", api.Fault{Errno: api.ErrForm, At: 3}},
		{"a\tb\n", api.Fault{Errno: api.ErrForm, At: 1}},
		{"a\nb\r\nc\n", api.Fault{Errno: api.ErrForm, At: 2}},
		{"a\nb\x00\nc\x00\nd", api.Fault{Errno: api.ErrForm, At: 2}},
		{"a\n\x7f\n", api.Fault{Errno: api.ErrForm, At: 2}},
		{"a\n\u00e4\n", api.Fault{Errno: api.ErrForm, At: 2}},
		{"\x1f", api.Fault{Errno: api.ErrForm, At: 1}},
		{strings.Repeat("x", api.MaxBytes), api.Fault{Errno: api.ErrForm, At: 1}},
		{strings.Repeat("\n", api.MaxBytes-1) + "x", api.Fault{Errno: api.ErrForm, At: api.MaxBytes}},
		{strings.Repeat("\n", api.MaxBytes+1), api.Fault{Errno: api.ErrLong}},
		{strings.Repeat("\x00", api.MaxBytes+1), api.Fault{Errno: api.ErrLong}},
	} {
		if l, f := Lines(c.s); len(l) != 0 || f != c.f {
			t.Errorf("Lines(%.20q) = %.20q, %v, not %v", c.s, l, f, c.f)
		}
	}
}

// P4.2
func TestWhichBytesLinesHave(t *testing.T) {
	for c := range 256 {
		one := string([]byte{byte(c)})
		l, f := Lines("a\nb" + one + "c\n")
		switch {
		case c == 10:
			if !slices.Equal(l, []string{"a", "b", "c"}) || f != (api.Fault{}) {
				t.Errorf("a line feed: %q, %v", l, f)
			}
		case c >= 32 && c <= 126:
			if !slices.Equal(l, []string{"a", "b" + one + "c"}) || f != (api.Fault{}) {
				t.Errorf("byte %d: %q, %v", c, l, f)
			}
		default:
			if len(l) != 0 || f != (api.Fault{Errno: api.ErrForm, At: 2}) {
				t.Errorf("byte %d: %q, %v", c, l, f)
			}
		}
	}
}

// The way of P4.2: lines are yielded, and a walk that ends early, or that is gone twice, is none the worse.
func TestLinesAreYielded(t *testing.T) {
	walk := lines("a\nb\nc")
	for line, ended := range walk {
		if line != "a" || !ended {
			t.Errorf("the first line: %q, %v", line, ended)
		}
		break
	}
	var all []string
	for line, ended := range walk {
		all = append(all, line+strconv.FormatBool(ended))
	}
	if !slices.Equal(all, []string{"atrue", "btrue", "cfalse"}) {
		t.Errorf("all lines: %q", all)
	}
}

// P4.2
func TestTextAsWritten(t *testing.T) {
	for _, c := range []struct {
		l    []string
		want string
	}{
		{nil, ""},
		{[]string{}, ""},
		{[]string{""}, "\n"},
		{[]string{"", ""}, "\n\n"},
		{[]string{"x", "y z"}, "x\ny z\n"},
		{[]string{"x\ny", "\xff"}, "x\ny\n\xff\n"},
	} {
		if s := Text(c.l); s != c.want {
			t.Errorf("Text(%q) = %q, not %q", c.l, s, c.want)
		}
	}
}

// P4.2
func TestFieldsAsWritten(t *testing.T) {
	for _, c := range []struct {
		s    string
		want []string
	}{
		{"", []string{""}},
		{" ", []string{"", ""}},
		{"a", []string{"a"}},
		{"a b", []string{"a", "b"}},
		{" a  b ", []string{"", "a", "", "b", ""}},
		{"a\tb\nc\u00a0d", []string{"a\tb\nc\u00a0d"}},
		{"\xff \x00", []string{"\xff", "\x00"}},
	} {
		if l := Fields(c.s); !slices.Equal(l, c.want) || len(l) != strings.Count(c.s, " ")+1 {
			t.Errorf("Fields(%q) = %q, not %q", c.s, l, c.want)
		}
		if s := Line(c.want...); s != c.s {
			t.Errorf("Line(%q) = %q, not %q", c.want, s, c.s)
		}
	}
	if s := Line(); s != "" {
		t.Errorf("Line() = %q", s)
	}
	if s := Line("a b", "c"); s != "a b c" {
		t.Errorf("Line of a field with a blank = %q", s)
	}
}

// P4.3
func TestSplitAsWritten(t *testing.T) {
	long := strings.Repeat("x", api.MaxName)
	for _, c := range []struct {
		s, class, member string
		ok               bool
	}{
		{"a/B.m", "a/B", "m", true},
		{"A.<clinit>", "A", "<clinit>", true},
		{"/.$", "/", "$", true},
		{long + "." + long, long, long, true},
		{long + "x." + long, "", "", false},
		{long + "." + long + "x", "", "", false},
		{"", "", "", false},
		{".", "", "", false},
		{"A", "", "", false},
		{"A.", "", "", false},
		{".m", "", "", false},
		{"A.b.m", "", "", false},
		{"A..m", "", "", false},
		{"A.m.", "", "", false},
		{"A.b/c", "", "", false},
		{"<clinit>.m", "", "", false},
		{"A.m()I", "", "", false},
		{"A .m", "", "", false},
		{"A.m\n", "", "", false},
	} {
		a, b, ok := Split(c.s)
		if a != c.class || b != c.member || ok != c.ok {
			t.Errorf("Split(%q) = %q, %q, %v", c.s, a, b, ok)
		}
	}
}

// P4.3
func TestDigitsAsWritten(t *testing.T) {
	for _, c := range []struct {
		n    int
		want string
	}{
		{0, "0"}, {7, "7"}, {10, "10"}, {65536, "65536"}, {-1, "-1"}, {-120, "-120"},
		{math.MaxInt64, "9223372036854775807"}, {math.MinInt64, "-9223372036854775808"},
	} {
		if s := Digits(c.n); s != c.want {
			t.Errorf("Digits(%d) = %q, not %q", c.n, s, c.want)
		}
	}
}

// P4.3
func TestParseAsWritten(t *testing.T) {
	for _, c := range []struct {
		s string
		n int
		e api.Errno
	}{
		{"0", 0, api.OK},
		{"7", 7, api.OK},
		{"10", 10, api.OK},
		{"65535", 65535, api.OK},
		{"65536", 65536, api.OK},
		{"65537", 0, api.ErrRange},
		{"100000", 0, api.ErrRange},
		{"9223372036854775807", 0, api.ErrRange},
		{"9223372036854775808", 0, api.ErrRange},
		{"18446744073709551616", 0, api.ErrRange}, // 0, if it went round
		{"18446744073709551623", 0, api.ErrRange}, // 7, if it went round
		{"1" + strings.Repeat("0", 5000), 0, api.ErrRange},
		{"", 0, api.ErrForm},
		{"00", 0, api.ErrForm},
		{"07", 0, api.ErrForm},
		{"-0", 0, api.ErrForm},
		{"-1", 0, api.ErrForm},
		{"+1", 0, api.ErrForm},
		{" 1", 0, api.ErrForm},
		{"1 ", 0, api.ErrForm},
		{"1\n", 0, api.ErrForm},
		{"1_0", 0, api.ErrForm},
		{"0x1", 0, api.ErrForm},
		{"1e3", 0, api.ErrForm},
		{"1.0", 0, api.ErrForm},
		{"a", 0, api.ErrForm},
		{"-", 0, api.ErrForm},
		{"\u0661", 0, api.ErrForm},
		{"0" + strings.Repeat("9", 30), 0, api.ErrForm},
		{strings.Repeat("9", 30) + "x", 0, api.ErrForm},
		{"-" + strings.Repeat("9", 30), 0, api.ErrForm},
	} {
		if n, e := Parse(c.s); n != c.n || e != c.e {
			t.Errorf("Parse(%.40q) = %d, %d, not %d, %d", c.s, n, e, c.n, c.e)
		}
	}
}

// P4.3: a byte that is no digit is told in each place; a text of digits is by its number.
func TestParseOfShortTexts(t *testing.T) {
	for c := range 256 {
		one := string([]byte{byte(c)})
		for _, s := range []string{one, "1" + one, one + "1", "1" + one + "1"} {
			n, e := Parse(s)
			was, ok := new(big.Int).SetString(s, 10)
			if !ok || was.String() != s || was.Sign() < 0 {
				if n != 0 || e != api.ErrForm {
					t.Errorf("Parse(%q) = %d, %d", s, n, e)
				}
			} else if int64(n) != was.Int64() || e != api.OK {
				t.Errorf("Parse(%q) = %d, %d", s, n, e)
			}
		}
	}
}

// some is texts of lines that a fixed seed gives, with now and then a byte that may not be.
func some(chance *rand.Rand) string {
	b := make([]byte, chance.Intn(30))
	for i := range b {
		switch chance.Intn(12) {
		case 0, 1, 2:
			b[i] = 10
		case 3, 4:
			b[i] = 32
		case 5:
			b[i] = byte(chance.Intn(256))
		default:
			b[i] = byte(33 + chance.Intn(94))
		}
	}
	if chance.Intn(2) == 0 {
		b = append(b, 10)
	}
	return string(b)
}

// P4.4
func TestLinesAndTextAreThereAndBack(t *testing.T) {
	chance := rand.New(rand.NewSource(1))
	taken := 0
	for range 20000 {
		s := some(chance)
		l, f := Lines(s)
		if f == (api.Fault{}) {
			taken++
			if Text(l) != s {
				t.Fatalf("Text of Lines(%q) = %q", s, Text(l))
			}
		}
		parts := strings.Split(s, "\n")
		can := !slices.ContainsFunc(parts, func(p string) bool {
			return strings.ContainsFunc(p, func(c rune) bool { return c < 32 || c > 126 })
		})
		back, f := Lines(Text(parts))
		if can && (!slices.Equal(back, parts) || f != (api.Fault{})) {
			t.Fatalf("Lines of Text(%q) = %q, %v", parts, back, f)
		}
		if !can && f.Errno != api.ErrForm {
			t.Fatalf("Lines of Text(%q): %v", parts, f)
		}
	}
	if taken < 1000 {
		t.Errorf("only %d texts are taken", taken)
	}
}

// P4.4
func TestFieldsAndLineAreThereAndBack(t *testing.T) {
	chance := rand.New(rand.NewSource(2))
	for range 20000 {
		s := some(chance)
		if back := Line(Fields(s)...); back != s {
			t.Fatalf("Line of Fields(%q) = %q", s, back)
		}
		l := make([]string, 1+chance.Intn(5))
		for i := range l {
			l[i] = strings.ReplaceAll(some(chance), " ", "")
		}
		if back := Fields(Line(l...)); !slices.Equal(back, l) {
			t.Fatalf("Fields of Line(%q) = %q", l, back)
		}
	}
}

// P4.5
func TestParseOfDigitsIsTheNumber(t *testing.T) {
	for n := range api.MaxBytes + 1 {
		if back, e := Parse(Digits(n)); back != n || e != api.OK {
			t.Fatalf("Parse of Digits(%d) = %d, %d", n, back, e)
		}
	}
	for _, n := range []int{api.MaxBytes + 1, math.MaxInt32, math.MaxInt64} {
		if back, e := Parse(Digits(n)); back != 0 || e != api.ErrRange {
			t.Errorf("Parse of Digits(%d) = %d, %d", n, back, e)
		}
	}
	for _, n := range []int{-1, -65536, math.MinInt64} {
		if back, e := Parse(Digits(n)); back != 0 || e != api.ErrForm {
			t.Errorf("Parse of Digits(%d) = %d, %d", n, back, e)
		}
	}
}

// P3
func TestNothingHandedInIsChanged(t *testing.T) {
	room := []string{"a", "b", "spare", "spare"}
	Text(room[:2])
	Line(room[:2]...)
	if !slices.Equal(room, []string{"a", "b", "spare", "spare"}) {
		t.Errorf("the texts are %q", room)
	}
}

// P3
func TestAnswersAreTheCallers(t *testing.T) {
	l, _ := Lines("a\nb\n")
	l[0] = "changed"
	if again, _ := Lines("a\nb\n"); !slices.Equal(again, []string{"a", "b"}) {
		t.Errorf("the lines are %q behind a change", again)
	}
	f := Fields("a b")
	f[0] = "changed"
	if again := Fields("a b"); !slices.Equal(again, []string{"a", "b"}) {
		t.Errorf("the fields are %q behind a change", again)
	}
}
