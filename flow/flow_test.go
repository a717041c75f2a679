package flow

import (
	"math"
	"math/rand"
	"reflect"
	"slices"
	"testing"

	"secateur/api"
	"secateur/op"
)

// to is an instruction that may jump to a place, plain one that may not.
func to(o api.Op, k int64) api.Instr {
	return api.Instr{Op: o, K: k}
}

func plain(l ...api.Op) []api.Instr {
	var code []api.Instr
	for _, o := range l {
		code = append(code, api.Instr{Op: o})
	}
	return code
}

// looped goes round from 1 to 4, where 5 is not reached, and ends at 3 and 6.
func looped() []api.Instr {
	return []api.Instr{to(api.Const, 6), to(api.Branch, 4), to(api.BranchNil, 6), to(api.Throw, 1), to(api.Jump, 1), to(api.Nop, 0), to(api.End, 0)}
}

func checkList(t *testing.T, what string, got []int, want ...int) {
	t.Helper()
	if !slices.Equal(got, want) {
		t.Errorf("%s: %v, not %v", what, got, want)
	}
}

func checkFound(t *testing.T, what string, code []api.Instr, want api.Errno, where int) {
	t.Helper()
	if e, at := Check(code); e != want || at != where {
		t.Errorf("%s: %d at %d, not %d at %d", what, e, at, want, where)
	}
}

// long is more code than may be.
func long() []api.Instr {
	return append(plain(slices.Repeat([]api.Op{api.Nop}, 2*api.MaxCode)...), to(api.End, 0))
}

// TestNext: P14.1, where it may go on, rising, each once.
func TestNext(t *testing.T) {
	code := looped()
	for at, want := range [][]int{{1}, {2, 4}, {3, 6}, {}, {1}, {6}, {}} {
		checkList(t, "looped", Next(code, at), want...)
	}
	for _, at := range []int{-1, 7, 8, math.MinInt, math.MaxInt} {
		checkList(t, "at what is no place", Next(code, at))
		checkList(t, "of no code", Next(nil, at))
	}
	checkList(t, "of no code, at 0", Next(nil, 0))
	checkList(t, "back, and on", Next([]api.Instr{to(api.Nop, 0), to(api.Branch, 0), to(api.End, 0)}, 1), 0, 2)
	checkList(t, "to the next one", Next([]api.Instr{to(api.Branch, 1), to(api.End, 0)}, 0), 1)
	checkList(t, "to itself", Next([]api.Instr{to(api.BranchNil, 0), to(api.End, 0)}, 0), 0, 1)
	checkList(t, "a jump to itself", Next([]api.Instr{to(api.Jump, 0), to(api.End, 0)}, 0), 0)
	checkList(t, "behind the end", Next(plain(api.Nop), 0))
	checkList(t, "behind the end, or back", Next([]api.Instr{to(api.Branch, 0)}, 0), 0)
}

// TestNextByOp: P14.1, each instruction falls as op.Falls tells, and only three jump by K.
func TestNextByOp(t *testing.T) {
	for o := api.Op(-2); o <= api.LastOp+2; o++ {
		code := []api.Instr{to(o, 2), to(api.Nop, 0), to(api.End, 0)}
		var want []int
		if op.Falls(o) {
			want = append(want, 1)
		}
		if o == api.Jump || o == api.Branch || o == api.BranchNil {
			want = append(want, 2)
		}
		checkList(t, "by Op", Next(code, 0), want...)
	}
}

// TestNextOfNoTarget: P14.1, it does not go to what is no place, nor to what is no target.
func TestNextOfNoTarget(t *testing.T) {
	for _, k := range []int64{-1, 2, 3, api.MaxCode, api.MaxCode + 1, 1 << 32, 1<<32 + 1, math.MinInt64, math.MaxInt64} {
		code := []api.Instr{to(api.Branch, k), to(api.Jump, k)}
		checkList(t, "a branch", Next(code, 0), 1)
		checkList(t, "a jump", Next(code, 1))
		checkList(t, "what leads there", Back(code, int(k)))
	}
	code := long()
	code[0] = to(api.Jump, api.MaxCode)
	checkList(t, "as far as may be", Next(code, 0), api.MaxCode)
	code[0] = to(api.Jump, api.MaxCode+1)
	checkList(t, "farther than may be", Next(code, 0))
	code[0] = to(api.Branch, api.MaxCode+1)
	checkList(t, "on, or farther than may be", Next(code, 0), 1)
	checkList(t, "ahead of that", Back(code, api.MaxCode+1), api.MaxCode)
}

// TestBack: P14.1, from where it may come, rising.
func TestBack(t *testing.T) {
	code := looped()
	for at, want := range [][]int{{}, {0, 4}, {1}, {2}, {1}, {}, {2, 5}} {
		checkList(t, "looped", Back(code, at), want...)
	}
	for _, at := range []int{-1, 7, 8, math.MinInt, math.MaxInt} {
		checkList(t, "of what is no place", Back(code, at))
		checkList(t, "of no code", Back(nil, at))
	}
	checkList(t, "two ways from one", Back([]api.Instr{to(api.Branch, 1), to(api.End, 0)}, 1), 0)
	checkList(t, "from itself", Back([]api.Instr{to(api.Nop, 0), to(api.Branch, 1), to(api.Jump, 1)}, 1), 0, 1, 2)
	// Also from where nothing leads.
	checkList(t, "from what is not reached", Back([]api.Instr{to(api.End, 0), to(api.Jump, 0), to(api.Jump, 0)}, 0), 1, 2)
	checkList(t, "behind the end", Back(plain(api.Nop), 1))
}

// TestCheck: P14.1, what is wrong with code.
func TestCheck(t *testing.T) {
	checkFound(t, "looped", looped(), api.OK, 0)
	checkFound(t, "no code", nil, api.ErrShort, 0)
	checkFound(t, "empty code", []api.Instr{}, api.ErrShort, 0)
	for o := api.Op(-2); o <= api.LastOp+2; o++ {
		e, at := api.OK, 0
		if op.Falls(o) {
			e, at = api.ErrShort, 1
		}
		checkFound(t, "an end", append(plain(api.Nop), to(o, 0)), e, at)
		jumps := o == api.Jump || o == api.Branch || o == api.BranchNil
		for _, k := range []int64{-1, 2, 3, 1 << 32, math.MinInt64, math.MaxInt64} {
			want, where := e, at
			if jumps {
				want, where = api.ErrRange, 1
			}
			checkFound(t, "no place, at the end", append(plain(api.Nop), to(o, k)), want, where)
			want, where = api.OK, 0
			if jumps {
				want = api.ErrRange
			}
			checkFound(t, "no place", append([]api.Instr{to(o, k)}, plain(api.End)...), want, where)
		}
	}
	checkFound(t, "the first one", []api.Instr{to(api.Jump, 0)}, api.OK, 0)
	checkFound(t, "the last one", []api.Instr{to(api.Branch, 1), to(api.Jump, 1)}, api.OK, 0)
}

// TestCheckOrder: P14.1, place by place, whatever is reached.
func TestCheckOrder(t *testing.T) {
	checkFound(t, "the first of two", []api.Instr{to(api.End, 0), to(api.Jump, 9), to(api.Branch, -1)}, api.ErrRange, 1)
	checkFound(t, "ahead of the end", []api.Instr{to(api.Nop, 0), to(api.Branch, 3), to(api.Nop, 0)}, api.ErrRange, 1)
	checkFound(t, "both at one place", []api.Instr{to(api.Nop, 0), to(api.BranchNil, 2)}, api.ErrRange, 1)
	checkFound(t, "an end that is not reached", plain(api.End, api.Nop), api.ErrShort, 1)
	code := long()
	code[3] = to(api.Branch, 2*api.MaxCode)
	checkFound(t, "a place behind what may be", code, api.OK, 0)
	code[3] = to(api.Branch, 2*api.MaxCode+1)
	checkFound(t, "no place of long code", code, api.ErrRange, 3)
}

// TestDist: P14.2, by how few steps a place is reached.
func TestDist(t *testing.T) {
	const none = api.None
	checkList(t, "looped", Dist(looped()), 0, 1, 2, 3, 2, none, 3)
	checkList(t, "no code", Dist(nil))
	checkList(t, "empty code", Dist([]api.Instr{}))
	checkList(t, "one that ends", Dist(plain(api.End)), 0)
	checkList(t, "one that goes on", Dist(plain(api.Nop)), 0)
	checkList(t, "one that is none", Dist(plain(api.NoOp, api.Nop)), 0, none)
	checkList(t, "in a row", Dist(plain(api.Nop, api.Nop, api.End, api.Nop)), 0, 1, 2, none)
	checkList(t, "the document's", Dist([]api.Instr{to(api.Jump, 2), to(api.Nop, 0), to(api.End, 0)}), 0, none, 1)
	checkList(t, "the way that is fewer", Dist([]api.Instr{to(api.Branch, 4), to(api.Nop, 0), to(api.Nop, 0), to(api.Nop, 0), to(api.Jump, 2)}), 0, 1, 2, 3, 1)
	checkList(t, "back to 0", Dist([]api.Instr{to(api.Nop, 0), to(api.Jump, 0), to(api.Jump, 1)}), 0, 1, none)
	checkList(t, "jumps to nothing", Dist([]api.Instr{to(api.Branch, -1), to(api.Branch, 9), to(api.Jump, 4), to(api.End, 0)}), 0, 1, 2, none)
}

// TestDead: P14.2, what is not reached.
func TestDead(t *testing.T) {
	checkList(t, "looped", Dead(looped()), 5)
	checkList(t, "no code", Dead(nil))
	checkList(t, "all reached", Dead(plain(api.Nop, api.End)))
	checkList(t, "the document's", Dead([]api.Instr{to(api.Jump, 2), to(api.Nop, 0), to(api.End, 0)}), 1)
	checkList(t, "round one another", Dead([]api.Instr{to(api.Throw, 0), to(api.Jump, 2), to(api.Jump, 1)}), 1, 2)
}

// TestBlocks: P14.2, where a row of instructions begins.
func TestBlocks(t *testing.T) {
	checkList(t, "looped", Blocks(looped()), 0, 1, 2, 3, 4, 5, 6)
	checkList(t, "no code", Blocks(nil))
	checkList(t, "in a row", Blocks(plain(api.Nop, api.Nop, api.Out, api.End)), 0)
	checkList(t, "behind each end", Blocks(plain(api.Return, api.Nop, api.Throw, api.Nop, api.End, api.Nop, api.NoOp, api.Nop, api.LastOp+1, api.Nop)), 0, 1, 3, 5, 7, 9)
	checkList(t, "the document's", Blocks([]api.Instr{to(api.Jump, 2), to(api.Nop, 0), to(api.End, 0)}), 0, 1, 2)
	checkList(t, "into a row", Blocks([]api.Instr{to(api.Nop, 0), to(api.Nop, 0), to(api.Nop, 0), to(api.Branch, 1), to(api.Nop, 0), to(api.End, 0)}), 0, 1, 4)
	checkList(t, "by one place twice", Blocks([]api.Instr{to(api.BranchNil, 1), to(api.Jump, 1), to(api.Jump, 1)}), 0, 1, 2)
	checkList(t, "also from what is not reached", Blocks([]api.Instr{to(api.Nop, 0), to(api.Nop, 0), to(api.End, 0), to(api.Jump, 1)}), 0, 1, 3)
	// A target that is no place is one all the same; a K that no target is, is not.
	checkList(t, "to what is no place", Blocks([]api.Instr{to(api.Branch, 9), to(api.Nop, 0), to(api.Nop, 0)}), 0, 1)
	checkList(t, "to what no target is", Blocks([]api.Instr{to(api.Branch, -1), to(api.Nop, 0), to(api.Branch, api.MaxCode+1), to(api.End, 0)}), 0)
	checkList(t, "a jump to what no target is", Blocks([]api.Instr{to(api.Jump, -1), to(api.End, 0)}), 0, 1)
	checkList(t, "other instructions' K", Blocks([]api.Instr{to(api.Const, 2), to(api.Nop, 1), to(api.Arith, 2), to(api.End, 2)}), 0)
}

// codes is much code that a fixed seed turns about: it goes round, to what is no place, and behind its end; some is of a piece.
func codes() [][]api.Instr {
	chance := rand.New(rand.NewSource(14))
	ops := []api.Op{api.Nop, api.Nop, api.Const, api.Jump, api.Jump, api.Branch, api.Branch, api.BranchNil, api.Return, api.End, api.Throw, api.Call}
	var l [][]api.Instr
	for i := range 4000 {
		size := chance.Intn(14)
		code := make([]api.Instr, size)
		for at := range code {
			code[at] = to(ops[chance.Intn(len(ops))], int64(chance.Intn(size)))
			if i%2 == 0 && chance.Intn(5) == 0 {
				code[at] = to(api.Op(chance.Intn(int(api.LastOp)+3)), int64(chance.Intn(2*size+3)-2))
			}
		}
		if i%2 == 1 && size > 0 {
			code[size-1].Op = []api.Op{api.Jump, api.End, api.Throw}[chance.Intn(3)]
		}
		l = append(l, code)
	}
	return l
}

// leads tells whether it may go on from a place to another one, by the words of the chapter.
func leads(code []api.Instr, from, at int) bool {
	target, is := op.Target(code[from])
	return op.Falls(code[from].Op) && from+1 == at || is && target == at
}

// TestOnAll: P14.1, P14.2, held against what is reckoned otherwise.
func TestOnAll(t *testing.T) {
	for _, code := range codes() {
		dist := make([]int, len(code))
		var dead, blocks []int
		for at := range code {
			var next, back []int
			begins := at == 0
			for other, i := range code {
				if leads(code, at, other) {
					next = append(next, other)
				}
				if leads(code, other, at) {
					back = append(back, other)
				}
				target, is := op.Target(i)
				begins = begins || is && target == at || other+1 == at && (is || !op.Falls(i.Op))
			}
			checkList(t, "next", Next(code, at), next...)
			checkList(t, "back", Back(code, at), back...)
			if begins {
				blocks = append(blocks, at)
			}
			if dist[at] = steps(code, at); dist[at] == api.None {
				dead = append(dead, at)
			}
		}
		checkList(t, "dist", Dist(code), dist...)
		checkList(t, "dead", Dead(code), dead...)
		checkList(t, "blocks", Blocks(code), blocks...)
		if t.Failed() {
			t.Fatalf("%+v", code)
		}
	}
}

// steps is by how few steps a place is reached, found by going back from it, step by step, as long as something new comes.
func steps(code []api.Instr, at int) int {
	from := []int{at}
	for n := 0; n <= len(code); n++ {
		if slices.Contains(from, 0) {
			return n
		}
		var back []int
		for other := range code {
			if slices.ContainsFunc(from, func(at int) bool { return leads(code, other, at) }) {
				back = append(back, other)
			}
		}
		from = back
	}
	return api.None
}

// TestDistByOne: P14.3, one step is at most one more, and each place is reached from one that is one less.
func TestDistByOne(t *testing.T) {
	reached := 0
	for _, code := range codes() {
		dist := Dist(code)
		for at, n := range dist {
			if n == api.None {
				continue
			}
			reached++
			for _, next := range Next(code, at) {
				if dist[next] == api.None || dist[next] > n+1 {
					t.Fatalf("%d behind %d: %v: %+v", next, at, dist, code)
				}
			}
			nearer := func(back int) bool { return dist[back] == n-1 }
			if n > 0 && !slices.ContainsFunc(Back(code, at), nearer) || (n == 0) != (at == 0) {
				t.Fatalf("%d: %v: %+v", at, dist, code)
			}
		}
	}
	if reached < 4000 {
		t.Errorf("only %d are reached", reached)
	}
}

// TestRowsGoOn: P14.4, into the midst of a row it goes by the place ahead alone, and from that nowhere else.
func TestRowsGoOn(t *testing.T) {
	inside := 0
	for _, code := range codes() {
		blocks := Blocks(code)
		for at := range code {
			if slices.Contains(blocks, at) {
				continue
			}
			inside++
			checkList(t, "back", Back(code, at), at-1)
			checkList(t, "next", Next(code, at-1), at)
			if t.Failed() {
				t.Fatalf("%d: %+v", at, code)
			}
		}
	}
	if inside < 2000 {
		t.Errorf("only %d are inside", inside)
	}
}

// TestGoesOnOrEnds: P14.5, where Check finds nothing, of instructions that there are.
func TestGoesOnOrEnds(t *testing.T) {
	whole := 0
	for _, code := range codes() {
		if e, _ := Check(code); e != api.OK || slices.ContainsFunc(code, func(i api.Instr) bool { return i.Op <= api.NoOp || i.Op > api.LastOp }) {
			continue
		}
		whole++
		for at, i := range code {
			ends := i.Op == api.Return || i.Op == api.End || i.Op == api.Throw
			if ends == (len(Next(code, at)) > 0) {
				t.Fatalf("%d: %+v", at, code)
			}
		}
	}
	if whole < 1000 {
		t.Errorf("only %d are of a piece", whole)
	}
}

// TestNothingIsTouched: P3, what is handed in stays as it is, the room behind it, too; what is answered is the caller's.
func TestNothingIsTouched(t *testing.T) {
	room := append(looped(), to(api.Jump, 0), to(api.Nop, 0))
	was := slices.Clone(room)
	code := room[:len(room)-2]
	ask := func() [][]int {
		return [][]int{Next(code, 1), Back(code, 1), Dist(code), Dead(code), Blocks(code)}
	}
	first := ask()
	for _, l := range ask() {
		for i := range l {
			l[i] = 99
		}
		_ = append(l, 99)
	}
	Check(code)
	if !reflect.DeepEqual(ask(), first) {
		t.Errorf("asked again: %v, not %v", ask(), first)
	}
	if !reflect.DeepEqual(room, was) {
		t.Errorf("%+v", room)
	}
}

// TestMuch: P1, much code comes to an end.
func TestMuch(t *testing.T) {
	code := plain(slices.Repeat([]api.Op{api.Nop}, 1<<18)...)
	checkFound(t, "on and on", code, api.ErrShort, len(code)-1)
	if dist := Dist(code); dist[len(code)-1] != len(code)-1 {
		t.Errorf("the last one: %d", dist[len(code)-1])
	}
	for i := range code {
		code[i] = to(api.Branch, int64(i%api.MaxCode))
	}
	checkFound(t, "back and back", code, api.ErrShort, len(code)-1)
	if n := len(Back(code, 0)); n != len(code)/api.MaxCode {
		t.Errorf("%d come from afar", n)
	}
	if n := len(Blocks(code)); n != len(code) {
		t.Errorf("%d begin", n)
	}
	checkList(t, "dead", Dead(code))
}
