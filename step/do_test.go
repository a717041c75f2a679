package step

import (
	"math"
	"testing"

	"secateur/api"
)

// code is several lists of instructions as one.
func code(l ...any) []api.Instr {
	var all []api.Instr
	for _, x := range l {
		switch x := x.(type) {
		case api.Instr:
			all = append(all, x)
		case []api.Instr:
			all = append(all, x...)
		}
	}
	return all
}

// puts is code that puts out a register.
func puts(l ...int) []api.Instr {
	var all []api.Instr
	for _, r := range l {
		all = append(all, by(api.Out, r))
	}
	return all
}

// sets is code that sets a register to a number.
func sets(r, n int) api.Instr {
	return by(api.Const, r, n)
}

// makes is code that sets a register to a new object.
func makes(r int, class string) api.Instr {
	return of(by(api.New, r), class)
}

// TestNumbers: P19.2, what sets a register to a number, and where that goes.
func TestNumbers(t *testing.T) {
	checkAll(t, true, []doing{
		{"const", code(sets(0, 7), sets(1, -7), puts(0, 1)), "7 -7 =0"},
		{"the least and the greatest", code(sets(0, math.MinInt64), sets(1, math.MaxInt64), puts(0, 1)), "-9223372036854775808 9223372036854775807 =0"},
		{"set again", code(sets(0, 7), sets(0, 8), puts(0)), "8 =0"},
		{"the last register", code(sets(7, 7), puts(7)), "7 =0"},
		{"move", code(sets(0, 7), sets(1, 8), by(api.Move, 1, 0), sets(0, 9), puts(0, 1)), "9 7 =0"},
		{"move to itself", code(sets(0, 7), by(api.Move, 0, 0), puts(0)), "7 =0"},
		{"nothing", code(by(api.Nop), sets(0, 7), by(api.Nop), puts(0)), "7 =0"},
		{"add", code(sets(0, 7), sets(1, 3), by(api.Arith, 2, 0, 1, api.Add), puts(0, 1, 2)), "7 3 10 =0"},
		{"sub", code(sets(0, 7), sets(1, 3), by(api.Arith, 0, 0, 1, api.Sub), puts(0, 1)), "4 3 =0"},
		{"rem the other way round", code(sets(0, 7), sets(1, 3), by(api.Arith, 1, 1, 0, api.Rem), puts(0, 1)), "7 3 =0"},
		{"less", code(sets(0, 7), sets(1, 3), by(api.Arith, 2, 1, 0, api.Less), by(api.Arith, 3, 0, 1, api.Less), puts(2, 3)), "1 0 =0"},
		{"equal", code(sets(0, 7), by(api.Arith, 0, 0, 0, api.Equal), puts(0)), "1 =0"},
		{"by 0", code(sets(0, 7), sets(1, 0), puts(0), by(api.Arith, 2, 0, 1, api.Div), puts(0)), "7 !1"},
		{"rem by 0", code(sets(0, 0), by(api.Arith, 2, 0, 0, api.Rem)), "!1"},
		{"mul by 0", code(sets(0, 0), by(api.Arith, 2, 0, 0, api.Mul), puts(2)), "0 =0"},
	})
}

// TestEachSum: P19.2, P19.3, Arith reckons as Reckon does.
func TestEachSum(t *testing.T) {
	for o := range api.LastSum + 1 {
		for _, c := range [][2]int64{{7, 2}, {-7, 2}, {2, -7}, {0, 5}, {5, 0}, {math.MinInt64, -1}} {
			p := with("()I", sets(0, int(c[0])), sets(1, int(c[1])), by(api.Arith, 2, 0, 1, o), by(api.Return, 2))
			n, trap := Reckon(int64(o), c[0], c[1])
			if r := ran(p).Result(); r.Code != n || r.Trap != trap || r.Steps != 4 && trap == api.NoTrap {
				t.Errorf("%d of %v: %s, not %d, %d", o, c, told(r), n, trap)
			}
		}
	}
}

// TestWays: P19.2, where it goes on.
func TestWays(t *testing.T) {
	skip := func(i api.Instr) []api.Instr { return code(i, sets(5, 9), puts(5)) }
	checkAll(t, true, []doing{
		{"jump", code(by(api.Jump, 3), sets(0, 1), puts(0), by(api.Nop)), "=0"},
		{"jump back", code(by(api.Jump, 3), sets(0, 1), by(api.Jump, 4), by(api.Jump, 1), puts(0)), "1 =0"},
		{"branch of 0", code(sets(0, 0), skip(by(api.Branch, 0, 4))), "9 =0"},
		{"branch of 1", code(sets(0, 1), skip(by(api.Branch, 0, 4))), "=0"},
		{"branch of what is below 0", code(sets(0, -1), skip(by(api.Branch, 0, 4))), "=0"},
		{"branch of the least", code(sets(0, math.MinInt64), skip(by(api.Branch, 0, 4))), "=0"},
		{"branch of what is great", code(sets(0, 1<<32), skip(by(api.Branch, 0, 4))), "=0"},
		{"branch of none", code(by(api.Nil, 0), skip(by(api.BranchNil, 0, 4))), "=0"},
		{"branch of an object", code(makes(0, "E"), skip(by(api.BranchNil, 0, 4))), "9 =0"},
		{"branch of an array of nothing", code(sets(1, 0), by(api.NewInts, 0, 1), skip(by(api.BranchNil, 0, 5))), "9 =0"},
		{"check of an object", code(makes(0, "E"), skip(by(api.Check, 0))), "9 =0"},
		{"check of none", code(by(api.Nil, 0), skip(by(api.Check, 0))), "!2"},
		{"throw", code(sets(0, 1), puts(0), by(api.Throw, -3), puts(0)), "1 !8:-3"},
		{"throw 0", code(by(api.Throw, 0)), "!8"},
		{"round and round", code(sets(0, 3), sets(1, 1), puts(0), by(api.Arith, 0, 0, 1, api.Sub), by(api.Branch, 0, 2)), "3 2 1 =0"},
		{"on and on", code(by(api.Jump, 0)), ".."},
	})
}

// TestInOut: P19.1, P19.2, what comes in, and what goes out; behind the input's end 0 comes.
func TestInOut(t *testing.T) {
	l := []doing{
		{"nothing", code(), "=0"},
		{"one", code(by(api.In, 0)), "<5 =0"},
		{"in order", code(by(api.In, 1), by(api.In, 0), puts(0, 1)), "<5 <-6 -6 5 =0"},
		{"in turn", code(by(api.In, 0), puts(0), sets(0, 1), puts(0), by(api.In, 0), puts(0)), "<5 5 1 <-6 -6 =0"},
		{"behind the end", code(by(api.In, 0), by(api.In, 0), by(api.In, 1), by(api.In, 1), puts(0, 1)), "<5 <-6 <0 <0 -6 0 =0"},
	}
	checkAll(t, true, l, 5, -6)
	checkAll(t, true, []doing{{"none at all", code(by(api.In, 0), puts(0)), "<0 0 =0"}})
}

// TestMuchIn: P19.1, of the input the first MaxInput numbers count.
func TestMuchIn(t *testing.T) {
	var input []int64
	for n := range int64(api.MaxInput + 3) {
		input = append(input, n+1)
	}
	p := with("()V", code(by(api.In, 0), by(api.Jump, 0), end)...)
	r := ran(p, input...).Result()
	for at, e := range r.Events {
		want := api.Event{In: true, N: int64(at + 1)}
		if at >= api.MaxInput {
			want.N = 0
		}
		if e != want {
			t.Fatalf("%d: %v, not %v", at, e, want)
		}
	}
	if len(r.Events) <= len(input) {
		t.Errorf("%d came in", len(r.Events))
	}
}

// TestObjects: P19.2, objects, and what their fields have.
func TestObjects(t *testing.T) {
	get := func(a, b int, class, name string) api.Instr { return of(by(api.Get, a, b), class, name) }
	put := func(b, c int, class, name string) api.Instr { return of(by(api.Put, b, c), class, name) }
	checkAll(t, true, []doing{
		{"at first", code(makes(0, "D"), get(1, 0, "A", "a"), puts(1), get(1, 0, "A", "b"), by(api.Check, 1)), "0 !2"},
		{"what is put is there", code(makes(0, "A"), sets(1, 5), put(0, 1, "A", "a"), sets(1, 6), get(2, 0, "A", "a"), puts(2)), "5 =0"},
		{"of an object of its own", code(makes(0, "A"), makes(1, "A"), sets(2, 5), put(0, 2, "A", "a"), get(2, 1, "A", "a"), puts(2)), "0 =0"},
		{"by another register", code(makes(0, "A"), by(api.Move, 1, 0), sets(2, 5), put(0, 2, "A", "a"), get(2, 1, "A", "a"), puts(2)), "5 =0"},
		{"of one name", code(makes(0, "D"), sets(1, 5), sets(2, 6), put(0, 1, "A", "a"), put(0, 2, "B", "a"), get(3, 0, "A", "a"), get(4, 0, "C", "a"), puts(3, 4)), "5 6 =0"},
		{"a reference", code(makes(0, "B"), makes(1, "A"), put(0, 1, "B", "b"), sets(2, 7), put(1, 2, "A", "a"), get(3, 0, "A", "b"), get(4, 3, "A", "a"), puts(4)), "7 =0"},
		{"get of none", code(by(api.Nil, 0), get(1, 0, "A", "a"), puts(1)), "!2"},
		{"put of none", code(by(api.Nil, 0), sets(1, 5), put(0, 1, "A", "a"), puts(1)), "!2"},
		{"none is put", code(makes(0, "A"), put(0, 0, "A", "b"), by(api.Nil, 1), put(0, 1, "A", "b"), get(2, 0, "A", "b"), by(api.Check, 2)), "!2"},
	})
}

// TestArrays: P19.2, arrays, and their elements.
func TestArrays(t *testing.T) {
	ints := func(size int) []api.Instr { return code(sets(1, size), by(api.NewInts, 0, 1)) }
	refs := func(size int, class string) []api.Instr {
		return code(sets(1, size), of(by(api.NewRefs, 0, 1), class))
	}
	checkAll(t, true, []doing{
		{"how long", code(ints(3), by(api.Len, 2, 0), refs(5, "I"), by(api.Len, 3, 0), puts(2, 3)), "3 5 =0"},
		{"of nothing", code(ints(0), by(api.Len, 2, 0), refs(0, "C"), by(api.Len, 3, 0), puts(2, 3)), "0 0 =0"},
		{"the longest", code(ints(api.MaxArray), by(api.Len, 2, 0), refs(api.MaxArray, "A"), by(api.Len, 3, 0), puts(2, 3)), "64 64 =0"},
		{"too long", code(ints(api.MaxArray+1), puts(1)), "!5"},
		{"references too long", code(refs(api.MaxArray+1, "A"), puts(1)), "!5"},
		{"below 0", code(ints(-1), puts(1)), "!5"},
		{"references below 0", code(refs(math.MinInt64, "A"), puts(1)), "!5"},
		{"how long none is", code(by(api.Nil, 0), by(api.Len, 2, 0)), "!2"},
		{"at first", code(ints(3), sets(2, 2), by(api.Load, 3, 0, 2), puts(3)), "0 =0"},
		{"references at first", code(refs(3, "A"), sets(2, 2), by(api.Load, 3, 0, 2), by(api.Check, 3)), "!2"},
		{"what is stored is there", code(ints(3), sets(2, 1), sets(3, 7), by(api.Store, 0, 2, 3), by(api.Load, 4, 0, 2), sets(2, 2), by(api.Load, 5, 0, 2), puts(4, 5)), "7 0 =0"},
		{"a reference", code(refs(2, "A"), sets(2, 1), makes(3, "B"), by(api.Store, 0, 2, 3), by(api.Load, 4, 0, 2), call(api.Call, 5, "A m ()I", 4), puts(5)), "2 =0"},
		{"the first one", code(ints(1), sets(2, 0), sets(3, 7), by(api.Store, 0, 2, 3), by(api.Load, 4, 0, 2), puts(4)), "7 =0"},
		{"load behind the last", code(ints(3), sets(2, 3), by(api.Load, 3, 0, 2), puts(3)), "!3"},
		{"load below 0", code(ints(3), sets(2, -1), by(api.Load, 3, 0, 2), puts(3)), "!3"},
		{"store behind the last", code(ints(3), by(api.Store, 0, 1, 1), puts(1)), "!3"},
		{"store below 0", code(refs(3, "A"), sets(1, -1), makes(2, "A"), by(api.Store, 0, 1, 2), puts(1)), "!3"},
		{"load of none", code(sets(1, 0), by(api.Nil, 0), by(api.Load, 2, 0, 1), puts(1)), "!2"},
		{"store into none", code(sets(1, 0), by(api.Nil, 0), by(api.Store, 0, 1, 1), puts(1)), "!2"},
	})
}

// TestStatics: P19.2, static fields, by the class that declares them.
func TestStatics(t *testing.T) {
	get := func(a int, class, name string) api.Instr { return of(by(api.GetStatic, a), class, name) }
	put := func(c int, class, name string) api.Instr { return of(by(api.PutStatic, c), class, name) }
	checkAll(t, true, []doing{
		{"at first", code(get(0, "A", "p"), puts(0), get(1, "A", "q"), by(api.Check, 1)), "0 !2"},
		{"what is put is there", code(sets(0, 5), put(0, "A", "p"), sets(0, 6), get(1, "A", "p"), puts(1)), "5 =0"},
		{"told by one below", code(sets(0, 5), put(0, "D", "p"), get(1, "A", "p"), get(2, "C", "p"), puts(1, 2)), "5 5 =0"},
		{"of one name", code(sets(0, 5), sets(1, 6), put(0, "K", "x"), put(1, "M", "x"), get(2, "K", "x"), get(3, "L", "x"), puts(2, 3)), "10 20 5 6 =0"},
		{"a reference", code(makes(0, "B"), put(0, "A", "q"), get(1, "B", "q"), call(api.Call, 2, "A m ()I", 1), puts(2)), "2 =0"},
		{"no reference", code(makes(0, "B"), put(0, "A", "q"), by(api.Nil, 0), put(0, "A", "q"), get(1, "A", "q"), by(api.Check, 1)), "!2"},
	})
}

// TestIsCast: P19.2, of which class an object is.
func TestIsCast(t *testing.T) {
	for _, c := range []struct {
		make  []api.Instr // sets register 0
		class string
		is    bool
	}{
		{code(makes(0, "B")), "B", true}, {code(makes(0, "B")), "A", true}, {code(makes(0, "B")), "I", true}, {code(makes(0, "D")), "C", true}, {code(makes(0, "D")), "J", true}, {code(makes(0, "D")), "I", true},
		{code(makes(0, "B")), "C", false}, {code(makes(0, "B")), "D", false}, {code(makes(0, "A")), "B", false}, {code(makes(0, "E")), "A", false}, {code(makes(0, "E")), "I", false}, {code(makes(0, "B")), "J", false},
		{code(sets(1, 1), by(api.NewInts, 0, 1)), "A", false}, {code(sets(1, 1), of(by(api.NewRefs, 0, 1), "A")), "A", false},
	} {
		is, cast := "0 =0", "!4"
		if c.is {
			is, cast = "1 =0", "=0"
		}
		checkAll(t, true, []doing{
			{"is " + c.class, code(c.make, of(by(api.Is, 1, 0), c.class), puts(1)), is},
			{"cast to " + c.class, code(c.make, of(by(api.Cast, 1, 0), c.class), by(api.Check, 1)), cast},
			{"is none " + c.class, code(by(api.Nil, 0), of(by(api.Is, 1, 0), c.class), puts(1)), "0 =0"},
			{"cast of none to " + c.class, code(by(api.Nil, 0), of(by(api.Cast, 1, 0), c.class), by(api.Check, 1)), "!2"},
		})
	}
	checkAll(t, true, []doing{
		{"what is cast is the same", code(makes(0, "D"), sets(1, 5), of(by(api.Put, 0, 1), "A", "a"), by(api.Move, 2, 0), of(by(api.Cast, 2, 2), "I"), of(by(api.Cast, 3, 2), "B"), of(by(api.Get, 4, 3), "A", "a"), puts(4)), "5 =0"},
	})
}

// TestFullHeap: P19.2, TrapHeap, behind MaxHeap objects and arrays.
func TestFullHeap(t *testing.T) {
	for what, one := range map[string]api.Instr{"objects": makes(0, "E"), "numbers": by(api.NewInts, 0, 1), "references": of(by(api.NewRefs, 0, 1), "E"), "looked up": by(api.Make, 0, 1)} {
		p := with("()V", code(sets(1, 0), one, by(api.In, 2), by(api.Jump, 1), end)...)
		p.Names = []string{"E"}
		r := ran(p).Result()
		if r.Trap != api.TrapHeap || r.Status != api.Trapped || len(r.Events) != api.MaxHeap || len(r.Trace.Made) != 1 {
			t.Errorf("%s: %d, %d events, %v", what, r.Trap, len(r.Events), r.Trace.Made)
		}
	}
}

// TestMade: P19.2, objects come from a site; Made has each once, in the order in which it came first.
func TestMade(t *testing.T) {
	p := with("()V", code(sets(1, 1), makes(0, "D"), by(api.NewInts, 2, 1), of(by(api.NewRefs, 3, 1), "I"), call(api.CallStatic, 0, "K s ()V"), by(api.In, 4), by(api.Branch, 4, 1), end)...)
	class(&p, "K").Methods[1].Code = code(makes(2, "E"), makes(3, "E"), end)
	r := ran(p, 1, 1, 0).Result()
	site := func(method string, at int, class string) api.Site {
		return api.Site{Method: ref(method), PC: at, Class: class}
	}
	if told(r) != "10 <1 <1 <0 =0" {
		t.Errorf("%s", told(r))
	}
	checkList(t, "made", r.Trace.Made, site("Main main ()V", 1, "D"), site("Main main ()V", 2, "[I"), site("Main main ()V", 3, "[LI;"), site("K s ()V", 0, "E"), site("K s ()V", 1, "E"))
}

// TestRead: P19.2, Read has the fields that Get and GetStatic told, by the class that declares them.
func TestRead(t *testing.T) {
	p := with("()V", code(makes(0, "D"), of(by(api.Get, 1, 0), "D", "b"), of(by(api.Get, 1, 0), "D", "a"), of(by(api.Get, 1, 0), "B", "a"), of(by(api.GetStatic, 1), "D", "p"), of(by(api.Get, 1, 0), "A", "a"),
		of(by(api.PutStatic, 1), "A", "p"), of(by(api.Put, 0, 1), "B", "a"), of(by(api.GetStatic, 1), "N", "x"), of(by(api.Get, 1, 0), "A", "b"), end)...)
	r := ran(p).Result()
	if r.Status != api.Exited {
		t.Errorf("%s", told(r))
	}
	checkList(t, "read", r.Trace.Read, fieldRef("A", "b"), fieldRef("B", "a"), fieldRef("A", "p"), fieldRef("A", "a"), fieldRef("L", "x"))
}
