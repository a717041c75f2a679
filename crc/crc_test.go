package crc

import (
	"bytes"
	"math/rand"
	"testing"

	"secateur/api"
)

// byBits is a byte more, bit by bit, as the chapter's words say.
func byBits(s uint32, c byte) uint32 {
	s ^= uint32(c)
	for range 8 {
		odd := s%2 == 1
		s /= 2
		if odd {
			s ^= 0xEDB88320
		}
	}
	return s
}

// texts is lists of bytes of many lengths, that a fixed seed gives.
func texts() [][]byte {
	chance := rand.New(rand.NewSource(1))
	l := [][]byte{nil, {}, {0}, {255}, {0, 0, 0, 0}, {255, 255, 255, 255}, []byte("123456789")}
	for size := range 70 {
		b := make([]byte, size)
		chance.Read(b)
		l = append(l, b)
	}
	return l
}

// P2.1
func TestSumAsWritten(t *testing.T) {
	for _, c := range []struct {
		text string
		sum  uint32
	}{
		{"", 0},
		{"\x00", 0xD202EF8D},
		{"\x00\x00\x00\x00", 0x2144DF1C},
		{"\xff\xff\xff\xff", 0xFFFFFFFF},
		{"a", 0xE8B7BE43},
		{"abc", 0x352441C2},
		{"123456789", 0xCBF43926},
		{"The quick brown fox jumps over the lazy dog", 0x414FA339},
	} {
		if s := Sum([]byte(c.text)); s != c.sum {
			t.Errorf("Sum(%q) = %#x, not %#x", c.text, s, c.sum)
		}
	}
	if s := Sum(nil); s != 0 {
		t.Errorf("Sum of nothing = %#x", s)
	}
}

// P2.1
func TestBeginAndEnd(t *testing.T) {
	if Begin() != 0xFFFFFFFF {
		t.Errorf("Begin() = %#x", Begin())
	}
	for _, c := range [][2]uint32{{0, 0xFFFFFFFF}, {0xFFFFFFFF, 0}, {0x12345678, 0xEDCBA987}, {1, 0xFFFFFFFE}} {
		if End(c[0]) != c[1] {
			t.Errorf("End(%#x) = %#x, not %#x", c[0], End(c[0]), c[1])
		}
	}
}

// P2.1
func TestAddIsByteByByte(t *testing.T) {
	states := []uint32{0, 1, 0x80000000, 0xEDB88320, 0xFFFFFFFF}
	for i := range 32 {
		states = append(states, 1<<i, 0x9E3779B9*uint32(i))
	}
	for _, s := range states {
		if Add(s) != s {
			t.Errorf("Add(%#x) of no bytes = %#x", s, Add(s))
		}
		for c := range 256 {
			if Add(s, byte(c)) != byBits(s, byte(c)) {
				t.Errorf("Add(%#x, %d) = %#x, not %#x", s, c, Add(s, byte(c)), byBits(s, byte(c)))
			}
		}
		for _, b := range texts() {
			want := s
			for _, c := range b {
				want = byBits(want, c)
			}
			if Add(s, b...) != want {
				t.Errorf("Add(%#x, %v) = %#x, not %#x", s, b, Add(s, b...), want)
			}
		}
	}
}

// P2.1
func TestSumIsTheSumBehindTheBytes(t *testing.T) {
	for _, b := range texts() {
		s := uint32(0xFFFFFFFF)
		for _, c := range b {
			s = byBits(s, c)
		}
		if Sum(b) != s^0xFFFFFFFF {
			t.Errorf("Sum(%v) = %#x, not %#x", b, Sum(b), s^0xFFFFFFFF)
		}
	}
}

// P2.2
func TestSealAsWritten(t *testing.T) {
	for _, c := range []struct {
		b    []byte
		want []byte
	}{
		{nil, []byte{0, 0, 0, 0}},
		{[]byte{}, []byte{0, 0, 0, 0}},
		{[]byte("a"), []byte{'a', 0x43, 0xBE, 0xB7, 0xE8}},
		{[]byte("123456789"), []byte("123456789\x26\x39\xF4\xCB")},
	} {
		if s := Seal(c.b); !bytes.Equal(s, c.want) {
			t.Errorf("Seal(%v) = %v, not %v", c.b, s, c.want)
		}
	}
}

// P2.2
func TestOpenAsWritten(t *testing.T) {
	for _, c := range []struct {
		b    []byte
		want []byte
		e    api.Errno
	}{
		{nil, nil, api.ErrShort},
		{[]byte{}, nil, api.ErrShort},
		{[]byte{0}, nil, api.ErrShort},
		{[]byte{0, 0, 0}, nil, api.ErrShort},
		{make([]byte, 3, 8), nil, api.ErrShort},
		{[]byte{0, 0, 0, 0}, nil, api.OK},
		{[]byte{1, 0, 0, 0}, nil, api.ErrSum},
		{[]byte{0, 1, 0, 0}, nil, api.ErrSum},
		{[]byte{0, 0, 1, 0}, nil, api.ErrSum},
		{[]byte{0, 0, 0, 1}, nil, api.ErrSum},
		{[]byte{0, 0, 0, 0, 0}, nil, api.ErrSum},
		{[]byte{'a', 0x43, 0xBE, 0xB7, 0xE8}, []byte("a"), api.OK},
		{[]byte{'b', 0x43, 0xBE, 0xB7, 0xE8}, nil, api.ErrSum},
		{[]byte{'a', 0xE8, 0xB7, 0xBE, 0x43}, nil, api.ErrSum},
		{[]byte("123456789\x26\x39\xF4\xCB"), []byte("123456789"), api.OK},
		{[]byte("123456789\x26\x39\xF4\xCB\x00"), nil, api.ErrSum},
		{[]byte("123456789\x26\x39\xF4"), nil, api.ErrSum},
	} {
		b, e := Open(c.b)
		if !bytes.Equal(b, c.want) || e != c.e {
			t.Errorf("Open(%v) = %v, %d, not %v, %d", c.b, b, e, c.want, c.e)
		}
	}
}

// P2.3
func TestAddInTwoPartsIsAsAtOnce(t *testing.T) {
	for _, b := range texts() {
		for i := 0; i <= len(b); i++ {
			for _, s := range []uint32{Begin(), 0, 0x12345678} {
				if Add(Add(s, b[:i]...), b[i:]...) != Add(s, b...) {
					t.Errorf("Add(%#x) of %v, parted at %d", s, b, i)
				}
			}
			if End(Add(Add(Begin(), b[:i]...), b[i:]...)) != Sum(b) {
				t.Errorf("the sum of %v, parted at %d", b, i)
			}
		}
	}
}

// P2.4
func TestOpenOfSealIsTheBytes(t *testing.T) {
	for _, b := range texts() {
		sealed := Seal(b)
		if len(sealed) != len(b)+4 {
			t.Errorf("Seal(%v) has %d bytes", b, len(sealed))
		}
		if back, e := Open(sealed); !bytes.Equal(back, b) || e != api.OK {
			t.Errorf("Open of Seal(%v) = %v, %d", b, back, e)
		}
		for i := range sealed {
			for bit := range 8 {
				sealed[i] ^= 1 << bit
				if back, e := Open(sealed); back != nil || e != api.ErrSum {
					t.Errorf("Open(%v) = %v, %d", sealed, back, e)
				}
				sealed[i] ^= 1 << bit
			}
		}
	}
}

// P2.4
func TestWhatOpenOpensIsSealOfIt(t *testing.T) {
	opened := 0
	for i := range 1 << 16 {
		b := []byte{byte(i), byte(i >> 8), 0xEF, 0x02, 0xD2}
		ahead, e := Open(b)
		if e != api.OK {
			continue
		}
		opened++
		if !bytes.Equal(Seal(ahead), b) {
			t.Errorf("Open(%v) = %v, whose Seal is %v", b, ahead, Seal(ahead))
		}
	}
	if opened != 1 { // 0, 141, 239, 2, 210 alone
		t.Errorf("%d are opened", opened)
	}
}

// reaches tells by how many of some numbers all that they turn to can be told apart: 32, if no mixture of them is 0.
func reaches(l []uint32) int {
	var lead [32]uint32
	n := 0
	for _, x := range l {
		for bit := 31; bit >= 0 && x != 0; bit-- {
			if x>>bit%2 == 0 {
				continue
			}
			if lead[bit] == 0 {
				lead[bit] = x
				n++
				break
			}
			x ^= lead[bit]
		}
	}
	return n
}

// P2.5: by P2.6 a change of several bits changes the sum by what each bit alone does; so 32 bits that are independent say it of all 2^32 - 1 changes.
func TestFourBytesInARowChangeTheSum(t *testing.T) {
	chance := rand.New(rand.NewSource(2))
	for _, b := range texts() {
		sum := Sum(b)
		for at := 0; at+4 <= len(b); at++ {
			var l []uint32
			for i := range 32 {
				b[at+i/8] ^= 1 << (i % 8)
				l = append(l, Sum(b)^sum)
				b[at+i/8] ^= 1 << (i % 8)
			}
			if reaches(l) != 32 {
				t.Fatalf("some change of %v at %d does not change the sum", b, at)
			}
			for range 20 {
				other := bytes.Clone(b)
				chance.Read(other[at : at+1+chance.Intn(4)])
				if !bytes.Equal(other, b) && Sum(other) == sum {
					t.Errorf("%v and %v have one sum", b, other)
				}
			}
		}
	}
}

// P2.5
func TestFewerThanFourBytesChangeTheSum(t *testing.T) {
	seen := map[uint32]int{}
	for i := range 1 << 16 {
		s := Sum([]byte{byte(i), byte(i >> 8)})
		if j, ok := seen[s]; ok {
			t.Fatalf("%d and %d have one sum", i, j)
		}
		seen[s] = i
	}
}

// P2.6
func TestSumOfThreeTurnedByOneAnother(t *testing.T) {
	chance := rand.New(rand.NewSource(3))
	for size := range 100 {
		a, b, c, all := make([]byte, size), make([]byte, size), make([]byte, size), make([]byte, size)
		chance.Read(a)
		chance.Read(b)
		chance.Read(c)
		for i := range all {
			all[i] = a[i] ^ b[i] ^ c[i]
		}
		if Sum(all) != Sum(a)^Sum(b)^Sum(c) {
			t.Errorf("%v, %v, %v", a, b, c)
		}
	}
}

// P3
func TestNothingHandedInIsChanged(t *testing.T) {
	room := []byte("abXXXXXX")
	sealed := Seal(room[:2])
	Sum(room[:2])
	Add(7, room[:2]...)
	if string(room) != "abXXXXXX" {
		t.Errorf("the bytes are %q", room)
	}
	was := bytes.Clone(sealed)
	Open(sealed)
	if !bytes.Equal(sealed, was) {
		t.Errorf("the sealed bytes are %v", sealed)
	}
}

// P3
func TestAnswersAreTheCallers(t *testing.T) {
	from := []byte("ab")
	sealed := Seal(from)
	from[0] = 'X'
	if string(sealed[:2]) != "ab" {
		t.Errorf("what was sealed is %v behind a change", sealed)
	}
	opened, _ := Open(sealed)
	sealed[0] = 'X'
	if string(opened) != "ab" {
		t.Errorf("what was opened is %q behind a change", opened)
	}
	sealed[0] = 'a'
	opened[0] = 'Y'
	_ = append(opened, 1, 2, 3, 4)
	if back, e := Open(sealed); string(back) != "ab" || e != api.OK {
		t.Errorf("the sealed bytes are %v behind a change of what was opened", sealed)
	}
	empty, _ := Open([]byte{0, 0, 0, 0})
	if len(empty) != 0 {
		t.Errorf("opened: %v", empty)
	}
}
