package leb

import (
	"bytes"
	"math"
	"math/rand"
	"slices"
	"testing"

	"secateur/api"
)

// row is n times a byte, and others behind.
func row(n int, b byte, behind ...byte) []byte {
	return append(bytes.Repeat([]byte{b}, n), behind...)
}

// known is numbers and their bytes, written out by hand.
func known() []struct {
	n uint64
	b []byte
} {
	return []struct {
		n uint64
		b []byte
	}{
		{0, []byte{0}},
		{1, []byte{1}},
		{127, []byte{127}},
		{128, []byte{128, 1}},
		{300, []byte{172, 2}},
		{16383, []byte{255, 127}},
		{16384, []byte{128, 128, 1}},
		{1<<21 - 1, []byte{255, 255, 127}},
		{1 << 21, []byte{128, 128, 128, 1}},
		{1<<56 - 1, row(7, 255, 127)},
		{1 << 56, row(8, 128, 1)},
		{1<<63 - 1, row(8, 255, 127)},
		{1 << 63, row(9, 128, 1)},
		{math.MaxUint64, row(9, 255, 1)},
	}
}

// edges is numbers around each power of two, and some that a fixed seed gives; they rise.
func edges() []uint64 {
	var l []uint64
	for i := range 64 {
		l = append(l, 1<<i-1, 1<<i, 1<<i+1)
	}
	chance := rand.New(rand.NewSource(1))
	for i := range 640 {
		l = append(l, chance.Uint64()>>(i%64))
	}
	l = append(l, math.MaxUint64-1, math.MaxUint64)
	slices.Sort(l)
	return l
}

// P1.1
func TestPutAndSizeAsWritten(t *testing.T) {
	for _, k := range known() {
		if b := Put(k.n); !bytes.Equal(b, k.b) {
			t.Errorf("Put(%d) = %v, not %v", k.n, b, k.b)
		}
		if s := Size(k.n); s != len(k.b) {
			t.Errorf("Size(%d) = %d, not %d", k.n, s, len(k.b))
		}
	}
}

// P1.1
func TestPutIsSevenBitsEachAndAsFewAsCanBe(t *testing.T) {
	for _, n := range edges() {
		b := Put(n)
		last := len(b) - 1
		sum := uint64(0)
		for i, c := range b {
			if c >= 128 != (i < last) {
				t.Errorf("Put(%d) = %v: the bit 128 of byte %d", n, b, i)
			}
			sum += uint64(c%128) << (7 * i)
		}
		if sum != n {
			t.Errorf("Put(%d) = %v, which is %d", n, b, sum)
		}
		if last > 0 && b[last] == 0 {
			t.Errorf("Put(%d) = %v: more than there need be", n, b)
		}
		if Size(n) != len(b) {
			t.Errorf("Size(%d) = %d, not %d", n, Size(n), len(b))
		}
	}
}

// P1.1
func TestTakeAsWritten(t *testing.T) {
	for _, k := range known() {
		for ahead := range 3 {
			for _, behind := range [][]byte{nil, {0}, {1}, {128}, {255, 255}} {
				b := append(append(row(ahead, 129), k.b...), behind...)
				n, at, e := Take(b, ahead)
				if n != k.n || at != ahead+len(k.b) || e != api.OK {
					t.Errorf("Take(%v, %d) = %d, %d, %d", b, ahead, n, at, e)
				}
			}
		}
	}
}

// P1.1
func TestTakeRefuses(t *testing.T) {
	for _, c := range []struct {
		b    []byte
		at   int
		want api.Errno
	}{
		{nil, -1, api.ErrRange},
		{nil, 1, api.ErrRange},
		{[]byte{1, 2}, -1, api.ErrRange},
		{[]byte{1, 2}, 3, api.ErrRange},
		{[]byte{1, 2}, math.MinInt, api.ErrRange},
		{[]byte{1, 2}, math.MaxInt, api.ErrRange},
		{make([]byte, 2, 9), 3, api.ErrRange},
		{nil, 0, api.ErrShort},
		{[]byte{}, 0, api.ErrShort},
		{[]byte{1, 2}, 2, api.ErrShort},
		{make([]byte, 2, 9), 2, api.ErrShort},
		{[]byte{128}, 0, api.ErrShort},
		{[]byte{1, 255}, 1, api.ErrShort},
		{row(9, 128), 0, api.ErrShort},
		{row(9, 255), 0, api.ErrShort},
		{[]byte{128, 0}, 0, api.ErrForm},
		{[]byte{255, 0}, 0, api.ErrForm},
		{[]byte{7, 129, 128, 0, 7}, 1, api.ErrForm},
		{row(8, 255, 0), 0, api.ErrForm},
		{row(9, 255, 0), 0, api.ErrForm},
		{row(9, 255, 2), 0, api.ErrForm},
		{row(9, 128, 3), 0, api.ErrForm},
		{row(9, 128, 127), 0, api.ErrForm},
		{row(9, 255, 128), 0, api.ErrForm},
		{row(9, 255, 129), 0, api.ErrForm},
		{row(10, 255), 0, api.ErrForm},
		{row(10, 128, 1), 0, api.ErrForm},
		{row(20, 128), 3, api.ErrForm},
	} {
		n, at, e := Take(c.b, c.at)
		if n != 0 || at != 0 || e != c.want {
			t.Errorf("Take(%v, %d) = %d, %d, %d, not 0, 0, %d", c.b, c.at, n, at, e, c.want)
		}
	}
}

// P1.3
func TestTakeOfPutIsTheNumber(t *testing.T) {
	for _, n := range edges() {
		b := Put(n)
		m, at, e := Take(b, 0)
		if m != n || at != len(b) || e != api.OK {
			t.Errorf("Take of Put(%d) = %d, %d, %d", n, m, at, e)
		}
		for i := range b {
			if _, _, e := Take(b[:i], 0); e != api.ErrShort {
				t.Errorf("Take of %d bytes of Put(%d): %d", i, n, e)
			}
		}
	}
}

// P1.3
func TestWhatTakeTakesIsPut(t *testing.T) {
	taken := 0
	for i := range 1 << 16 {
		for _, third := range []byte{0, 1, 127, 128, 255} {
			b := []byte{byte(i), byte(i >> 8), third}
			n, at, e := Take(b, 0)
			if e != api.OK {
				continue
			}
			taken++
			if !bytes.Equal(Put(n), b[:at]) {
				t.Fatalf("Take(%v) = %d, %d; Put(%d) = %v", b, n, at, n, Put(n))
			}
		}
	}
	// One byte: 128 * 256 * 5; two: 128 * 127 * 5; three: 128 * 128 * 2.
	if want := 128*256*5 + 128*127*5 + 128*128*2; taken != want {
		t.Errorf("%d are taken, not %d", taken, want)
	}
}

// P1.2
func TestZigAndZagAsWritten(t *testing.T) {
	for _, c := range []struct {
		n int64
		u uint64
	}{
		{0, 0}, {-1, 1}, {1, 2}, {-2, 3}, {2, 4}, {63, 126}, {-64, 127}, {64, 128},
		{math.MaxInt64 - 1, math.MaxUint64 - 3},
		{-math.MaxInt64, math.MaxUint64 - 2},
		{math.MaxInt64, math.MaxUint64 - 1},
		{math.MinInt64, math.MaxUint64},
	} {
		if u := Zig(c.n); u != c.u {
			t.Errorf("Zig(%d) = %d, not %d", c.n, u, c.u)
		}
		if n := Zag(c.u); n != c.n {
			t.Errorf("Zag(%d) = %d, not %d", c.u, n, c.n)
		}
	}
}

// P1.4
func TestZigAndZagAreThereAndBack(t *testing.T) {
	for _, u := range edges() {
		if Zig(Zag(u)) != u {
			t.Errorf("Zig of Zag(%d) = %d", u, Zig(Zag(u)))
		}
		for _, n := range []int64{int64(u), -int64(u)} {
			if Zag(Zig(n)) != n {
				t.Errorf("Zag of Zig(%d) = %d", n, Zag(Zig(n)))
			}
		}
	}
}

// P1.2
func TestJoinIsOneBehindTheOther(t *testing.T) {
	if b := Join(); len(b) != 0 {
		t.Errorf("Join of none = %v", b)
	}
	if b := Join(0); !bytes.Equal(b, []byte{0}) {
		t.Errorf("Join(0) = %v", b)
	}
	if b := Join(300, 0, 1, 128); !bytes.Equal(b, []byte{172, 2, 0, 1, 128, 1}) {
		t.Errorf("Join(300, 0, 1, 128) = %v", b)
	}
}

// P1.2
func TestSplitAsWritten(t *testing.T) {
	for _, c := range []struct {
		b    []byte
		l    []uint64
		want api.Errno
	}{
		{nil, nil, api.OK},
		{[]byte{}, nil, api.OK},
		{[]byte{0}, []uint64{0}, api.OK},
		{[]byte{172, 2, 0, 1, 128, 1}, []uint64{300, 0, 1, 128}, api.OK},
		{[]byte{128}, nil, api.ErrShort},
		{[]byte{1, 2, 128}, nil, api.ErrShort},
		{[]byte{128, 0}, nil, api.ErrForm},
		{[]byte{1, 128, 0, 128}, nil, api.ErrForm},
		{append([]byte{5}, row(9, 255, 2)...), nil, api.ErrForm},
	} {
		l, e := Split(c.b)
		if !slices.Equal(l, c.l) || e != c.want {
			t.Errorf("Split(%v) = %v, %d, not %v, %d", c.b, l, e, c.l, c.want)
		}
	}
}

// P1.5
func TestSplitOfJoinIsTheList(t *testing.T) {
	all := edges()
	for i := 0; i+7 < len(all); i++ {
		for size := range 8 {
			l := all[i : i+size]
			if back, e := Split(Join(l...)); !slices.Equal(back, l) || e != api.OK {
				t.Fatalf("Split of Join(%v) = %v, %d", l, back, e)
			}
		}
	}
	if back, e := Split(Join(all...)); !slices.Equal(back, all) || e != api.OK {
		t.Errorf("Split of Join of all: %d numbers, %d", len(back), e)
	}
}

// P1.5
func TestJoinOfSplitIsTheBytes(t *testing.T) {
	chance := rand.New(rand.NewSource(2))
	taken := 0
	for range 20000 {
		b := make([]byte, chance.Intn(12))
		for i := range b {
			b[i] = byte(chance.Intn(256)) >> chance.Intn(2)
		}
		l, e := Split(b)
		if e != api.OK {
			if l != nil {
				t.Fatalf("Split(%v) = %v beside %d", b, l, e)
			}
			continue
		}
		taken++
		if !bytes.Equal(Join(l...), b) {
			t.Fatalf("Join of Split(%v) = %v", b, Join(l...))
		}
	}
	if taken < 1000 {
		t.Errorf("only %d are split", taken)
	}
}

// P1.6
func TestMoreHasNotFewerBytes(t *testing.T) {
	all := edges()
	for i := 1; i < len(all); i++ {
		a, b := all[i-1], all[i]
		if Size(a) > Size(b) || len(Put(a)) > len(Put(b)) {
			t.Errorf("%d has %d bytes, %d has %d", a, len(Put(a)), b, len(Put(b)))
		}
	}
}

// P3
func TestNothingHandedInIsChanged(t *testing.T) {
	room := []byte{172, 2, 1, 99, 99, 99}
	b := room[:3]
	Take(b, 0)
	Split(b)
	if !bytes.Equal(room, []byte{172, 2, 1, 99, 99, 99}) {
		t.Errorf("the bytes are %v", room)
	}
	l := []uint64{300, 1, 99, 99}
	Join(l[:2]...)
	if !slices.Equal(l, []uint64{300, 1, 99, 99}) {
		t.Errorf("the numbers are %v", l)
	}
}

// P3
func TestAnswersAreTheCallers(t *testing.T) {
	a := Put(300)
	a = append(a, 9)
	a[0] = 9
	if b := Put(300); !bytes.Equal(b, []byte{172, 2}) {
		t.Errorf("Put(300) = %v behind a change", b)
	}
	j := Join(300)
	j[0] = 9
	if b := Join(300); !bytes.Equal(b, []byte{172, 2}) {
		t.Errorf("Join(300) = %v behind a change", b)
	}
	from := []byte{1, 2}
	s, _ := Split(from)
	from[0] = 9
	if !slices.Equal(s, []uint64{1, 2}) {
		t.Errorf("what was split is %v behind a change", s)
	}
}
