package wire

import (
	"bytes"
	"hash/crc32"
	"math"
	"math/rand"
	"slices"
	"strings"
	"testing"

	"secateur/api"
)

// row is n times a byte, and others behind.
func row(n int, b byte, behind ...byte) []byte {
	return append(bytes.Repeat([]byte{b}, n), behind...)
}

// sealed is bytes, and behind them the four of their sum.
func sealed(b ...byte) []byte {
	s := crc32.ChecksumIEEE(b)
	return append(bytes.Clone(b), byte(s), byte(s>>8), byte(s>>16), byte(s>>24))
}

// checkStands holds a reader against where it should stand, and what should be left.
func checkStands(t *testing.T, what string, r *Reader, at, left int) {
	t.Helper()
	if r.At() != at || r.Left() != left || r.Fault() != (api.Fault{}) {
		t.Errorf("%s: at %d, %d left, %v; not at %d, %d left", what, r.At(), r.Left(), r.Fault(), at, left)
	}
}

// checkFailed holds a reader against the failure that it should have, and tries that nothing changes any more.
func checkFailed(t *testing.T, what string, r *Reader, e api.Errno, at int) {
	t.Helper()
	want := api.Fault{Errno: e, At: at}
	for try := range 2 {
		if r.Fault() != want || r.At() != at || r.Left() != 0 {
			t.Errorf("%s, try %d: %v, at %d, %d left; not %v", what, try, r.Fault(), r.At(), r.Left(), want)
		}
		if b, n, s, x := r.Byte(), r.Num(math.MaxInt), r.Signed(), r.Text(); b != 0 || n != 0 || s != 0 || x != "" {
			t.Errorf("%s: behind the failure %d, %d, %d, %q", what, b, n, s, x)
		}
		for id := range 256 {
			if r.Section(byte(id)) != nil {
				t.Errorf("%s: behind the failure a section %d", what, id)
			}
		}
		if r.End() {
			t.Errorf("%s: behind the failure an end", what)
		}
		r.Fail(api.ErrCycle)
		r.Fail(api.OK)
	}
}

// P3.1
func TestOpenStandsAtTheBeginning(t *testing.T) {
	for _, b := range [][]byte{nil, {}, {7}, {1, 2, 3}, row(300, 255)} {
		r := Open(b)
		if r == nil {
			t.Fatalf("no reader of %v", b)
		}
		checkStands(t, "opened", r, 0, len(b))
	}
}

// P3.1
func TestByteIsTheNextOne(t *testing.T) {
	b := []byte{0, 1, 127, 128, 255}
	r := Open(b)
	for i, want := range b {
		checkStands(t, "bytes", r, i, len(b)-i)
		if c := r.Byte(); c != want {
			t.Errorf("byte %d: %d, not %d", i, c, want)
		}
	}
	checkStands(t, "behind the last byte", r, 5, 0)
	if c := r.Byte(); c != 0 {
		t.Errorf("a byte behind the last one: %d", c)
	}
	checkFailed(t, "a byte behind the last one", r, api.ErrShort, 5)
	r = Open(nil)
	r.Byte()
	checkFailed(t, "a byte of none", r, api.ErrShort, 0)
}

// P3.1
func TestByteHasNoSpareRoom(t *testing.T) {
	room := []byte{1, 2, 3, 4}
	r := Open(room[:1])
	r.Byte()
	r.Byte()
	checkFailed(t, "a byte of the room behind", r, api.ErrShort, 1)
}

// P3.1
func TestNumAsWritten(t *testing.T) {
	for _, c := range []struct {
		b      []byte
		most   int
		n      int
		behind int
	}{
		{[]byte{0}, 0, 0, 1},
		{[]byte{0, 9}, 7, 0, 1},
		{[]byte{5}, 5, 5, 1},
		{[]byte{5}, 6, 5, 1},
		{[]byte{127, 1}, 127, 127, 1},
		{[]byte{128, 1}, 128, 128, 2},
		{[]byte{172, 2, 7}, 300, 300, 2},
		{[]byte{172, 2, 7}, math.MaxInt, 300, 2},
		{row(8, 255, 127), math.MaxInt, math.MaxInt64, 9},
	} {
		r := Open(c.b)
		if n := r.Num(c.most); n != c.n {
			t.Errorf("Num(%d) of %v = %d, not %d", c.most, c.b, n, c.n)
		}
		checkStands(t, "a number", r, c.behind, len(c.b)-c.behind)
	}
}

// P3.1
func TestNumThatFails(t *testing.T) {
	for _, c := range []struct {
		b    []byte
		most int
		e    api.Errno
	}{
		{nil, 9, api.ErrShort},
		{[]byte{128}, 9, api.ErrShort},
		{row(9, 255), 9, api.ErrShort},
		{[]byte{128, 0}, 9, api.ErrForm},
		{[]byte{255, 128, 0}, 9, api.ErrForm},
		{row(9, 255, 2), math.MaxInt, api.ErrForm},
		{row(10, 255), math.MaxInt, api.ErrForm},
		{[]byte{1}, 0, api.ErrLong},
		{[]byte{6}, 5, api.ErrLong},
		{[]byte{172, 2}, 299, api.ErrLong},
		{[]byte{0}, -1, api.ErrLong},
		{[]byte{1}, -1, api.ErrLong},
		{[]byte{0}, math.MinInt, api.ErrLong},
		{row(9, 128, 1), math.MaxInt, api.ErrLong},
		{row(9, 255, 1), math.MaxInt, api.ErrLong},
		{row(9, 255, 1), -1, api.ErrLong},
		// What leb does not take comes ahead of what is too great.
		{[]byte{128}, -1, api.ErrShort},
		{[]byte{128, 0}, -1, api.ErrForm},
	} {
		for ahead := range 3 {
			r := Open(append(make([]byte, ahead), c.b...))
			for range ahead {
				r.Byte()
			}
			if n := r.Num(c.most); n != 0 {
				t.Errorf("Num(%d) of %v = %d", c.most, c.b, n)
			}
			checkFailed(t, "a number", r, c.e, ahead)
		}
	}
}

// P3.1
func TestSignedAsWritten(t *testing.T) {
	for _, c := range []struct {
		b []byte
		n int64
	}{
		{[]byte{0}, 0}, {[]byte{1}, -1}, {[]byte{2}, 1}, {[]byte{3}, -2}, {[]byte{127}, -64}, {[]byte{128, 1}, 64},
		{row(9, 255, 1), math.MinInt64}, {append([]byte{254}, row(8, 255, 1)...), math.MaxInt64},
	} {
		r := Open(append(bytes.Clone(c.b), 9))
		if n := r.Signed(); n != c.n {
			t.Errorf("Signed of %v = %d, not %d", c.b, n, c.n)
		}
		checkStands(t, "a number with a sign", r, len(c.b), 1)
	}
	for _, c := range []struct {
		b []byte
		e api.Errno
	}{
		{nil, api.ErrShort}, {[]byte{128}, api.ErrShort}, {[]byte{128, 0}, api.ErrForm}, {row(9, 255, 2), api.ErrForm},
	} {
		r := Open(append([]byte{3}, c.b...))
		r.Signed()
		if n := r.Signed(); n != 0 {
			t.Errorf("Signed of %v = %d", c.b, n)
		}
		checkFailed(t, "a number with a sign", r, c.e, 1)
	}
}

// P3.1
func TestTextAsWritten(t *testing.T) {
	most := strings.Repeat("x", api.MaxString)
	for _, c := range []struct {
		b      []byte
		text   string
		behind int
	}{
		{[]byte{2, 97, 98}, "ab", 3},
		{[]byte{2, 97, 98, 99}, "ab", 3},
		{[]byte{0}, "", 1},
		{[]byte{0, 97}, "", 1},
		{[]byte{3, 0, 255, 10}, "\x00\xff\n", 4},
		{append([]byte{64}, most...), most, 65},
	} {
		r := Open(c.b)
		if s := r.Text(); s != c.text {
			t.Errorf("Text of %v = %q, not %q", c.b, s, c.text)
		}
		checkStands(t, "a text", r, c.behind, len(c.b)-c.behind)
	}
}

// P3.1
func TestTextThatFails(t *testing.T) {
	for _, c := range []struct {
		b  []byte
		e  api.Errno
		at int
	}{
		{nil, api.ErrShort, 0},
		{[]byte{128}, api.ErrShort, 0},
		{[]byte{128, 0}, api.ErrForm, 0},
		{[]byte{130, 0, 97, 98}, api.ErrForm, 0},
		{row(66, 65), api.ErrLong, 0},
		{[]byte{65}, api.ErrLong, 0},
		{[]byte{172, 2}, api.ErrLong, 0},
		{row(9, 255, 1), api.ErrLong, 0},
		{[]byte{1}, api.ErrShort, 1},
		{[]byte{2, 97}, api.ErrShort, 1},
		{row(64, 64), api.ErrShort, 1},
	} {
		for ahead := range 3 {
			r := Open(append(make([]byte, ahead), c.b...))
			for range ahead {
				r.Byte()
			}
			if s := r.Text(); s != "" {
				t.Errorf("Text of %v = %q", c.b, s)
			}
			checkFailed(t, "a text", r, c.e, ahead+c.at)
		}
	}
}

// P3.2
func TestSectionIsReadAtItsPlace(t *testing.T) {
	b := slices.Concat([]byte{9, 9, 7, 3}, sealed(5, 172, 2), []byte{8, 0, 0, 0, 0, 0, 4})
	r := Open(b)
	r.Byte()
	r.Byte()
	x := r.Section(7)
	checkStands(t, "behind a section", r, 11, 7)
	checkStands(t, "a section", x, 4, 3)
	if n := x.Byte(); n != 5 {
		t.Errorf("its byte: %d", n)
	}
	if n := x.Num(300); n != 300 {
		t.Errorf("its number: %d", n)
	}
	checkStands(t, "a section that was read", x, 7, 0)
	if !x.End() {
		t.Errorf("a section does not end: %v", x.Fault())
	}
	y := r.Section(8)
	checkStands(t, "an empty section", y, 13, 0)
	if !y.End() {
		t.Errorf("an empty section does not end: %v", y.Fault())
	}
	if n := r.Byte(); n != 4 || !r.End() {
		t.Errorf("behind the sections: %d, %v", n, r.Fault())
	}
}

// P3.2: one that has a section goes by its own bytes, and stands apart from the one it came from.
func TestSectionStandsApart(t *testing.T) {
	r := Open(append(Section(1, []byte{2, 97}), 7))
	x := r.Section(1)
	if s := x.Text(); s != "" {
		t.Errorf("a text over a section's end: %q", s)
	}
	checkFailed(t, "a text over a section's end", x, api.ErrShort, 3)
	checkStands(t, "the one it came from", r, 8, 1)
	r.Fail(api.ErrRule)
	if n := Open(Section(1, nil)); n.Section(1) == nil {
		t.Error("another reader failed with it")
	}
	r = Open(append(Section(1, []byte{5}), 7))
	x = r.Section(1)
	r.Fail(api.ErrRule)
	if n := x.Byte(); n != 5 || !x.End() {
		t.Errorf("a section failed with the one it came from: %d, %v", n, x.Fault())
	}
	x.Fail(api.ErrCycle)
	checkFailed(t, "the one it came from", r, api.ErrRule, 7)
	checkFailed(t, "a section's end", x, api.ErrCycle, 3)
}

// P3.2
func TestSectionInASection(t *testing.T) {
	b := append([]byte{0}, Section(1, append([]byte{0}, Section(2, []byte{3, 4})...))...)
	r := Open(b)
	r.Byte()
	x := r.Section(1)
	x.Byte()
	y := x.Section(2)
	checkStands(t, "the innermost", y, 6, 2)
	checkStands(t, "the one around it", x, 12, 0)
	checkStands(t, "the outermost", r, 16, 0)
	if y.Byte() != 3 || y.Byte() != 4 || !y.End() || !x.End() || !r.End() {
		t.Errorf("%v, %v, %v", y.Fault(), x.Fault(), r.Fault())
	}
}

// P3.2
func TestSectionThatFails(t *testing.T) {
	long := append([]byte{1, 129, 128, 4}, row(api.MaxBytes+5, 0)...)
	for _, c := range []struct {
		what string
		b    []byte
		e    api.Errno
		at   int
	}{
		{"no byte", nil, api.ErrShort, 0},
		{"another id", []byte{2}, api.ErrForm, 0},
		{"another id of what is whole", Section(2, []byte{5}), api.ErrForm, 0},
		{"another id, and another sum", []byte{2, 0, 1, 1, 1, 1}, api.ErrForm, 0},
		{"no length", []byte{1}, api.ErrShort, 1},
		{"half a length", []byte{1, 128}, api.ErrShort, 1},
		{"a length with a nought", []byte{1, 128, 0}, api.ErrForm, 1},
		{"a length above 64 bits", append([]byte{1}, row(9, 255, 2)...), api.ErrForm, 1},
		{"a length above all", append([]byte{1}, row(9, 255, 1)...), api.ErrLong, 1},
		{"a length above MaxBytes", long, api.ErrLong, 1},
		{"no bytes", []byte{1, 1}, api.ErrShort, 2},
		{"fewer bytes", []byte{1, 3, 1, 1}, api.ErrShort, 2},
		{"no sum", []byte{1, 1, 5}, api.ErrShort, 2},
		{"half a sum", Section(1, []byte{5})[:6], api.ErrShort, 2},
		{"an empty one's half sum", []byte{1, 0, 0, 0, 0}, api.ErrShort, 2},
		{"a long one that is short", append([]byte{1, 128, 128, 4}, row(api.MaxBytes+3, 0)...), api.ErrShort, 4},
		{"another sum", []byte{1, 0, 0, 0, 0, 1}, api.ErrSum, 2},
		{"another byte", append([]byte{1, 1, 6}, sealed(5)[1:]...), api.ErrSum, 2},
		{"the sum the other way round", []byte{1, 1, 'a', 0xE8, 0xB7, 0xBE, 0x43}, api.ErrSum, 2},
		{"another sum behind a long length", append([]byte{1, 172, 2}, row(304, 7)...), api.ErrSum, 3},
	} {
		for ahead := range 3 {
			r := Open(append(make([]byte, ahead), c.b...))
			for range ahead {
				r.Byte()
			}
			if x := r.Section(1); x != nil {
				t.Errorf("%s: a section", c.what)
			}
			checkFailed(t, c.what, r, c.e, ahead+c.at)
		}
	}
}

// P3.2
func TestSectionOfMostBytes(t *testing.T) {
	for _, size := range []int{127, 128, api.MaxBytes - 1, api.MaxBytes} {
		b := row(size, 3)
		x := Open(Section(200, b)).Section(200)
		if x == nil || x.Left() != size {
			t.Fatalf("a section of %d bytes: %v", size, x)
		}
		for range size {
			if x.Byte() != 3 {
				t.Fatalf("a section of %d bytes has another one at %d", size, x.At())
			}
		}
		if !x.End() {
			t.Errorf("a section of %d bytes does not end", size)
		}
	}
	if x := Open(Section(200, row(api.MaxBytes+1, 3))).Section(200); x != nil {
		t.Error("a section of more than MaxBytes bytes")
	}
}

// P3.2
func TestEndAsWritten(t *testing.T) {
	r := Open(nil)
	if !r.End() || !r.End() {
		t.Errorf("the end of nothing: %v", r.Fault())
	}
	checkStands(t, "the end of nothing", r, 0, 0)
	r = Open([]byte{5, 6})
	r.Byte()
	if r.End() {
		t.Error("an end with a byte behind it")
	}
	checkFailed(t, "an end with a byte behind it", r, api.ErrForm, 1)
	r = Open([]byte{5})
	r.Byte()
	if !r.End() {
		t.Errorf("an end: %v", r.Fault())
	}
	r.Byte()
	if r.End() {
		t.Error("an end behind a failure")
	}
	checkFailed(t, "an end behind a failure", r, api.ErrShort, 1)
	r = Open([]byte{5})
	r.Fail(api.ErrSum)
	if r.End() {
		t.Error("an end behind Fail")
	}
	checkFailed(t, "an end behind Fail", r, api.ErrSum, 0)
}

// P3.3
func TestFailIsWhereItStands(t *testing.T) {
	for _, e := range []api.Errno{api.ErrForm, api.ErrOrder, api.ErrRange, -1, 99} {
		r := Open([]byte{1, 2, 3})
		r.Byte()
		r.Fail(api.OK)
		checkStands(t, "Fail of OK", r, 1, 2)
		r.Byte()
		r.Fail(e)
		checkFailed(t, "Fail", r, e, 2)
	}
	r := Open([]byte{2, 97})
	r.Text()
	r.Fail(api.ErrRule)
	checkFailed(t, "Fail behind a failure", r, api.ErrShort, 1)
	r = Open(nil)
	r.Fail(api.ErrKind)
	checkFailed(t, "Fail of no bytes", r, api.ErrKind, 0)
}

// P3.3
func TestWrittenTextsAndSections(t *testing.T) {
	for _, c := range []struct {
		s string
		b []byte
	}{
		{"", []byte{0}},
		{"ab", []byte{2, 97, 98}},
		{"\x00\xff", []byte{2, 0, 255}},
		{strings.Repeat("x", 300), append([]byte{172, 2}, row(300, 'x')...)},
	} {
		if b := Text(c.s); !bytes.Equal(b, c.b) {
			t.Errorf("Text(%q) = %v, not %v", c.s, b, c.b)
		}
	}
	for _, c := range []struct {
		id   byte
		b    []byte
		want []byte
	}{
		{0, nil, []byte{0, 0, 0, 0, 0, 0}},
		{3, []byte{}, []byte{3, 0, 0, 0, 0, 0}},
		{255, []byte{'a'}, []byte{255, 1, 'a', 0x43, 0xBE, 0xB7, 0xE8}},
		{1, row(300, 7), append([]byte{1, 172, 2}, sealed(row(300, 7)...)...)},
	} {
		if b := Section(c.id, c.b); !bytes.Equal(b, c.want) {
			t.Errorf("Section(%d, %v) = %v, not %v", c.id, c.b, b, c.want)
		}
	}
}

// The words behind P3.3: a nil reader.
func TestNilReader(t *testing.T) {
	var r *Reader
	for range 2 {
		if r.Byte() != 0 || r.Num(9) != 0 || r.Signed() != 0 || r.Text() != "" || r.Section(0) != nil || r.End() {
			t.Error("a nil reader reads")
		}
		if r.At() != 0 || r.Left() != 0 || r.Fault() != (api.Fault{Errno: api.ErrNone}) {
			t.Errorf("a nil reader: at %d, %d left, %v", r.At(), r.Left(), r.Fault())
		}
		r.Fail(api.ErrSum)
	}
}

// P3.4
func TestWhatIsWrittenIsReadAsItWas(t *testing.T) {
	chance := rand.New(rand.NewSource(1))
	for range 2000 {
		text := make([]byte, chance.Intn(api.MaxString+1))
		chance.Read(text)
		body := make([]byte, chance.Intn(300))
		chance.Read(body)
		id := byte(chance.Intn(256))
		r := Open(slices.Concat(Text(string(text)), Section(id, body), Section(id, Text(string(text)))))
		if s := r.Text(); s != string(text) {
			t.Fatalf("the text %q is read as %q", text, s)
		}
		x := r.Section(id)
		for i, want := range body {
			if c := x.Byte(); c != want {
				t.Fatalf("byte %d of %v is read as %d", i, body, c)
			}
		}
		y := r.Section(id)
		if s := y.Text(); s != string(text) {
			t.Fatalf("a section's text %q is read as %q", text, s)
		}
		if !x.End() || !y.End() || !r.End() {
			t.Fatalf("%v, %v, %v", x.Fault(), y.Fault(), r.Fault())
		}
	}
}

// model is a reader as the chapter's words say it, with no way of giving up.
type model struct {
	b     []byte
	at    int
	end   int
	fault api.Fault
}

func (m *model) fail(e api.Errno, at int) bool {
	m.fault, m.at = api.Fault{Errno: e, At: at}, at
	return false
}

func (m *model) num(most uint64) (uint64, bool) {
	n, from := uint64(0), m.at
	for i := 0; ; i++ {
		switch {
		case m.at == m.end:
			return 0, m.fail(api.ErrShort, from)
		case i == 9 && m.b[m.at] > 1, i > 0 && m.b[m.at] == 0:
			return 0, m.fail(api.ErrForm, from)
		}
		c := m.b[m.at]
		m.at++
		n += uint64(c%128) << (7 * i)
		if c < 128 {
			break
		}
	}
	if n > most {
		return 0, m.fail(api.ErrLong, from)
	}
	return n, true
}

func (m *model) text() (string, bool) {
	n, ok := m.num(api.MaxString)
	if !ok {
		return "", false
	}
	if m.end-m.at < int(n) {
		return "", m.fail(api.ErrShort, m.at)
	}
	m.at += int(n)
	return string(m.b[m.at-int(n) : m.at]), true
}

func (m *model) section(id byte) *model {
	if m.at == m.end {
		m.fail(api.ErrShort, m.at)
		return nil
	}
	if m.b[m.at] != id {
		m.fail(api.ErrForm, m.at)
		return nil
	}
	m.at++
	n, ok := m.num(api.MaxBytes)
	if !ok {
		return nil
	}
	behind := m.at + int(n)
	if m.end < behind+4 {
		m.fail(api.ErrShort, m.at)
		return nil
	}
	if !bytes.Equal(sealed(m.b[m.at:behind]...), m.b[m.at:behind+4]) {
		m.fail(api.ErrSum, m.at)
		return nil
	}
	inner := &model{b: m.b, at: m.at, end: behind}
	m.at = behind + 4
	return inner
}

// some is bytes with much in them that can be read.
func some(chance *rand.Rand, deep int) []byte {
	var b []byte
	for range chance.Intn(6) {
		switch chance.Intn(8) {
		case 0:
			b = append(b, byte(chance.Intn(4)))
		case 1:
			b = append(b, byte(chance.Intn(256)))
		case 2:
			b = append(b, Text(strings.Repeat("x", chance.Intn(70)))...)
		case 3:
			b = append(b, row(chance.Intn(10), 255, byte(chance.Intn(3)))...)
		default:
			if deep > 0 {
				b = append(b, Section(byte(chance.Intn(2)), some(chance, deep-1))...)
			}
		}
	}
	return b
}

// pair is a reader, and the model of it.
type pair struct {
	r *Reader
	m *model
}

// readSome does one read to both, and answers what both read, and a section's pair, if there is one.
func readSome(chance *rand.Rand, p pair) (got, want any, inner pair) {
	failed := p.m.fault.Errno != api.OK
	switch chance.Intn(9) {
	case 0:
		c := byte(0)
		if !failed && p.m.at == p.m.end {
			p.m.fail(api.ErrShort, p.m.at)
		} else if !failed {
			c = p.m.b[p.m.at]
			p.m.at++
		}
		return p.r.Byte(), c, inner
	case 1:
		most, n := chance.Intn(300), uint64(0)
		if !failed {
			n, _ = p.m.num(uint64(most))
		}
		return p.r.Num(most), int(n), inner
	case 2:
		n := uint64(0)
		if !failed {
			n, _ = p.m.num(math.MaxUint64)
		}
		return p.r.Signed(), int64(n>>1) ^ -int64(n&1), inner
	case 3:
		s := ""
		if !failed {
			s, _ = p.m.text()
		}
		return p.r.Text(), s, inner
	case 4, 5, 6, 7:
		id := byte(chance.Intn(2))
		if !failed {
			inner.m = p.m.section(id)
		}
		inner.r = p.r.Section(id)
		return inner.r != nil, inner.m != nil, inner
	}
	if chance.Intn(4) > 0 { // seldom, as most have bytes left
		return true, true, inner
	}
	if !failed && p.m.at < p.m.end {
		p.m.fail(api.ErrForm, p.m.at)
	}
	return p.r.End(), p.m.fault.Errno == api.OK, inner
}

// P3.1 to P3.6: whatever is read, by whatever reads, is as the words say; a reader stands within its bytes, and behind a failure nothing changes.
func TestWhateverIsRead(t *testing.T) {
	chance := rand.New(rand.NewSource(2))
	sections, failures := 0, 0
	for range 30000 {
		b := some(chance, 3)
		if len(b) > 0 && chance.Intn(3) == 0 {
			b[chance.Intn(len(b))] ^= 1 << chance.Intn(8)
		}
		all := []pair{{Open(b), &model{b: b, end: len(b)}}}
		for range 25 {
			p := all[chance.Intn(len(all))]
			was, from := p.m.fault, p.m.at
			got, want, inner := readSome(chance, p)
			if got != want {
				t.Fatalf("%v at %d: %v, not %v", b, from, got, want)
			}
			left := p.m.end - p.m.at
			if p.m.fault.Errno != api.OK {
				left = 0
			}
			if p.r.At() != p.m.at || p.r.Fault() != p.m.fault || p.r.Left() != left {
				t.Fatalf("%v at %d: at %d, %v, %d left; not at %d, %v, %d left", b, from, p.r.At(), p.r.Fault(), p.r.Left(), p.m.at, p.m.fault, left)
			}
			if p.r.At() < 0 || p.r.Left() < 0 || p.r.At()+p.r.Left() > len(b) {
				t.Fatalf("%v: at %d, %d left", b, p.r.At(), p.r.Left())
			}
			if inner.r != nil {
				all = append(all, inner)
				sections++
			}
			if p.m.fault != was {
				failures++
			}
		}
	}
	if sections < 1000 || failures < 1000 {
		t.Errorf("only %d sections, %d failures", sections, failures)
	}
}

// P3
func TestNothingHandedInIsChangedOrKept(t *testing.T) {
	room := append(Section(1, []byte{2, 97, 98}), 9, 9)
	b := room[:len(room)-2]
	was := bytes.Clone(room)
	r := Open(b)
	x := r.Section(1)
	if !bytes.Equal(room, was) {
		t.Errorf("the bytes are %v, not %v", room, was)
	}
	for i := range room {
		room[i] = 77
	}
	if s := x.Text(); s != "ab" || !x.End() || !r.End() {
		t.Errorf("behind a change of the bytes: %q, %v, %v", s, x.Fault(), r.Fault())
	}
	body := []byte{5, 6, 99, 99}
	s := Section(1, body[:2])
	_ = append(s, 1, 2, 3)
	s[2] = 0
	if !bytes.Equal(body, []byte{5, 6, 99, 99}) {
		t.Errorf("the body is %v", body)
	}
	a := Text("ab")
	a[1] = 'X'
	_ = append(a, 'Y')
	if b := Text("ab"); !bytes.Equal(b, []byte{2, 97, 98}) {
		t.Errorf("Text is %v behind a change", b)
	}
}
