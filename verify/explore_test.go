package verify

import (
	"math/rand"
	"slices"
	"strconv"
	"strings"
	"testing"

	"secateur/api"
	"secateur/flow"
	"secateur/hier"
	"secateur/join"
	"secateur/norm"
	"secateur/op"
)

// checkStates holds what is known at each place against lines of facts; a place that is not reached is an x.
func checkStates(t *testing.T, what string, p api.Program, ref api.MethodRef, want ...string) {
	t.Helper()
	states, reached := States(p, ref)
	if len(states) != len(want) || len(reached) != len(want) {
		t.Errorf("%s: %d, %d places", what, len(states), len(reached))
		return
	}
	for at, line := range want {
		l := facts(line)
		if line == "x" {
			l = nil
		}
		if reached[at] != (line != "x") || !slices.Equal(states[at], l) {
			t.Errorf("%s: at %d: %v, %v, not %s", what, at, states[at], reached[at], line)
		}
	}
}

func checkFound(t *testing.T, what string, p api.Program, ref api.MethodRef, want api.Errno, where int) {
	t.Helper()
	if e, at := Check(p, ref); e != want || at != where {
		t.Errorf("%s: %d at %d, not %d at %d", what, e, at, want, where)
	}
}

// TestStates: P16.3, what is known at each place.
func TestStates(t *testing.T) {
	newB, newD := of(by(api.New, 0), "B"), of(by(api.New, 0), "D")
	for _, c := range []struct {
		what  string
		m     api.Method
		lines []string
	}{
		{"in a row", virtual("x", "(I)V", 3, by(api.Const, 2), newB, by(api.Move, 1, 0), by(api.End)), []string{"LD i -", "LD i i", "LB i i", "LB LB i"}},
		{"without registers", static("x", "()V", 0, by(api.Nop), of(by(api.Init), "A"), by(api.End)), []string{"", "", ""}},
		{"what is not reached", static("x", "(I)V", 1, by(api.Jump, 2), by(api.Nil, 0), by(api.End)), []string{"i", "x", "i"}},
		{"behind each end", static("x", "(I)I", 1, by(api.Return, 0), by(api.Throw, 1), by(api.End), by(api.Jump, 0)), []string{"i", "x", "x", "x"}},
		{"two ways, joined", static("x", "(ILB;)V", 2, by(api.Branch, 0, 3), of(by(api.New, 1), "A"), by(api.Nil, 0), by(api.Nop), by(api.End)),
			[]string{"i LB", "i LB", "i LA", "- LA", "- LA"}},
		{"two ways, some reference", static("x", "(I)V", 2, by(api.Branch, 0, 3), newD, by(api.Jump, 4), newB, by(api.End)), []string{"i -", "i -", "LD -", "i -", "a -"}},
		{"none, and some", static("x", "(I)V", 2, by(api.Nil, 1), by(api.Branch, 0, 3), by(api.NewInts, 1, 0), by(api.End)), []string{"i -", "i n", "i n", "i [I"}},
		{"round", static("x", "(ILB;)V", 3, by(api.Move, 2, 1), by(api.Nop), of(by(api.Get, 1, 1), "A", "r"), by(api.Branch, 0, 0), by(api.End)), []string{"i a -", "i a a", "i a a", "i LI a", "i LI a"}},
		{"one way alone by a branch to the next", static("x", "(I)V", 1, by(api.Branch, 0, 1), by(api.End)), []string{"i", "i"}},
		{"the same way twice", static("x", "(I)V", 2, by(api.BranchNil, 1, 0), by(api.Jump, 0)), []string{"i -", "i -"}},
	} {
		p, ref := with(c.m)
		checkStates(t, c.what, p, ref, c.lines...)
	}
}

// TestStatesGoingRound: P16.3, a place is gone through again when more comes to it, and so are those behind.
func TestStatesGoingRound(t *testing.T) {
	// Registers hand on what comes: by each round one more has it.
	p, ref := with(static("x", "(I)V", 5, by(api.Move, 4, 3), by(api.Move, 3, 2), by(api.Move, 2, 1), by(api.Nil, 1), by(api.Branch, 0, 0), by(api.End)))
	checkStates(t, "what was never set", p, ref, "i - - - -", "i - - - -", "i - - - -", "i - - - -", "i n - - -", "i n - - -")
	p, ref = with(static("x", "(ILB;LB;LB;LB;)V", 5, by(api.Move, 4, 3), by(api.Move, 3, 2), by(api.Move, 2, 1), of(by(api.New, 1), "A"), by(api.Branch, 0, 0), by(api.End)))
	checkStates(t, "what is above", p, ref, "i LA LA LA LA", "i LA LA LA LA", "i LA LA LA LA", "i LA LA LA LA", "i LA LA LA LA", "i LA LA LA LA")
	p, ref = with(static("x", "(ILB;)V", 2, by(api.Jump, 4), of(by(api.New, 1), "A"), by(api.Jump, 4), by(api.Nop), by(api.Branch, 0, 1), by(api.End)))
	checkStates(t, "to the first one of a round, from behind", p, ref, "i LB", "i LA", "i LA", "x", "i LA", "i LA")
}

// TestStatesNowhere: P16.3, where After says false it does not go on, as long as it says so.
func TestStatesNowhere(t *testing.T) {
	p, ref := with(static("x", "(I)V", 3, by(api.Nil, 1), by(api.Load, 2, 1, 0), by(api.Out, 2), by(api.End)))
	checkStates(t, "an element of none", p, ref, "i - -", "i n -", "x", "x")
	p, ref = with(static("x", "(I)V", 3, by(api.Nil, 1), by(api.Branch, 0, 4), by(api.Load, 2, 1, 0), by(api.End), by(api.NewInts, 1, 0), by(api.Jump, 2)))
	checkStates(t, "an array on another way", p, ref, "i - -", "i n -", "i [I -", "i [I i", "i n -", "i [I -")
	p, ref = with(static("x", "(I)V", 3, by(api.Nil, 1), by(api.Branch, 0, 4), by(api.Load, 2, 1, 0), by(api.End), by(api.Jump, 2)))
	checkStates(t, "none on both ways", p, ref, "i - -", "i n -", "i n -", "x", "i n -")
	p, ref = with(static("x", "(I)V", 1, of(by(api.New, 0), "C"), by(api.End)))
	checkStates(t, "what is not as it must be", p, ref, "i", "x")
	p, ref = with(static("x", "(I)V", 1, by(api.Branch, 0, 2), of(by(api.Init), "Z"), by(api.End)))
	checkStates(t, "what is not there, on one way", p, ref, "i", "i", "i")
	// What does not hold goes on all the same.
	p, ref = with(static("x", "()V", 2, by(api.Arith, 0, 1, 1, api.Add), by(api.Return, 0)))
	checkStates(t, "what does not hold", p, ref, "- -", "i -")
	p, ref = with(static("x", "()V", 1, by(api.Nop)))
	checkStates(t, "behind its end", p, ref, "-")
}

// TestNoStates: P16.3, nothing, where the program can't be, or is not of a piece, or there is no such code.
func TestNoStates(t *testing.T) {
	for what, spoil := range spoilt() {
		p, ref := with(static("x", "()V", 1, by(api.End)))
		spoil(&p)
		checkStates(t, what, p, ref)
	}
	for _, ref := range strangers() {
		checkStates(t, ref.Class+"."+ref.Name, world(), ref)
	}
}

// spoilt is how a program can't be (norm.Right), or is not of a piece (hier.Check).
func spoilt() map[string]func(*api.Program) {
	return map[string]func(*api.Program){
		"in no order":                func(p *api.Program) { p.Classes[0], p.Classes[1] = p.Classes[1], p.Classes[0] },
		"with another class's code":  func(p *api.Program) { p.Classes[0].Methods[0].Code[0].A = 1 },
		"with too many names":        func(p *api.Program) { p.Names = make([]string, api.MaxNames+1) },
		"with no Super":              func(p *api.Program) { p.Classes[1].Super = "Z" },
		"with an interface as Super": func(p *api.Program) { p.Classes[1].Super = "I" },
		"in a ring":                  func(p *api.Program) { p.Classes[4].Ifaces = []string{"J"} },
	}
}

// strangers is methods that are not there, or have no code.
func strangers() []api.MethodRef {
	return []api.MethodRef{{}, {Class: "Z", Name: "m", Desc: "()V"}, {Class: "A", Name: "z", Desc: "()V"}, {Class: "A", Name: "m", Desc: "()I"}, {Class: "B", Name: "s", Desc: "()V"}, {Class: "C", Name: "o", Desc: "()V"}, {Class: "I", Name: "m", Desc: "()V"}}
}

// TestCheck: P16.4, what is wrong with a method, and where.
func TestCheck(t *testing.T) {
	for _, c := range world().Classes {
		for _, method := range c.Methods {
			want := api.OK
			if method.Abstract {
				want = api.ErrNone
			}
			checkFound(t, c.Name+"."+method.Name, world(), api.MethodRef{Class: c.Name, Name: method.Name, Desc: method.Desc}, want, 0)
		}
	}
	for _, c := range []struct {
		what string
		m    api.Method
		want api.Errno
		at   int
	}{
		{"what was never set", static("x", "()V", 2, by(api.Const, 0), by(api.Arith, 0, 0, 1, api.Add), by(api.End)), api.ErrKind, 1},
		{"it goes on behind its end", static("x", "()V", 1, by(api.Nop), by(api.Const, 0)), api.ErrShort, 1},
		{"it goes on where it is not reached", static("x", "()V", 1, by(api.End), by(api.Nop)), api.ErrShort, 1},
		{"no such class", static("x", "()V", 1, by(api.Nop), of(by(api.Init), "Z"), by(api.End)), api.ErrNone, 1},
		{"no such class where it is not reached", static("x", "()V", 1, by(api.End), of(by(api.New), "Z"), by(api.End)), api.ErrNone, 1},
		{"a class without objects", static("x", "()V", 1, by(api.Nop), by(api.Nop), of(by(api.New), "C"), by(api.End)), api.ErrKind, 2},
		{"of two names the first one", static("x", "()V", 1, of(by(api.New), "I"), of(by(api.New), "Z"), by(api.End)), api.ErrKind, 0},
		{"what does not hold where it is not reached", static("x", "()V", 1, by(api.End), by(api.Out, 0), by(api.End)), api.OK, 0},
		{"what does not hold behind an element of none", static("x", "()V", 2, by(api.Nil, 0), by(api.Const, 1), by(api.Load, 0, 0, 1), by(api.Len, 1, 1), by(api.End)), api.OK, 0},
		{"an element of none, at no place", static("x", "()V", 2, by(api.Nil, 0), by(api.Load, 0, 0, 1), by(api.End)), api.ErrKind, 1},
		{"of two the first one", static("x", "()V", 1, by(api.Check, 0), by(api.Out, 0), by(api.End)), api.ErrKind, 0},
		{"what holds at first alone", static("x", "(I)V", 2, by(api.Out, 0), by(api.Move, 1, 0), by(api.Nil, 0), by(api.Branch, 1, 0), by(api.End)), api.ErrKind, 0},
		{"no answer where one is asked", static("x", "()I", 1, by(api.End)), api.ErrKind, 0},
		{"an answer where none is asked", static("x", "(I)V", 1, by(api.Return, 0)), api.ErrKind, 0},
		{"another answer", static("x", "(I)LA;", 1, by(api.Return, 0)), api.ErrKind, 0},
		{"an answer below", static("x", "()LI;", 1, of(by(api.New), "B"), by(api.Return, 0)), api.OK, 0},
		{"a class with an element of its own", virtual("x", "([LA;)V", 3, by(api.Len, 2, 1), by(api.Store, 1, 2, 0), by(api.End)), api.ErrKind, 1},
	} {
		p, ref := with(c.m)
		checkFound(t, c.what, p, ref, c.want, c.at)
	}
}

// TestCheckOrder: P16.4, what is told first.
func TestCheckOrder(t *testing.T) {
	rightWrong := func(p *api.Program) { p.Classes[3].Fields = []api.Field{{Name: "f"}} }
	hierWrong := func(p *api.Program) { p.Classes[1].Super = "Z" }
	worse := by(api.Out, 0)
	// All that can be wrong, each time one thing less.
	p, ref := with(static("x", "()V", 1, worse, of(by(api.New), "C"), of(by(api.New), "Z"), by(api.Nop)))
	rightWrong(&p)
	hierWrong(&p)
	checkFound(t, "a program that can't be", p, ref, api.ErrForm, 0)
	checkFound(t, "a program that can't be, no method", p, api.MethodRef{}, api.ErrForm, 0)
	p.Classes[3].Fields = nil
	checkFound(t, "not of a piece", p, ref, api.ErrNone, 0)
	p.Classes[1].Super = "I"
	checkFound(t, "not of a piece, otherwise", p, ref, api.ErrKind, 0)
	checkFound(t, "not of a piece, no method", p, api.MethodRef{}, api.ErrKind, 0)
	p.Classes[1].Super = "A"
	checkFound(t, "no method", p, api.MethodRef{Class: "D", Name: "y", Desc: "()V"}, api.ErrNone, 0)
	checkFound(t, "behind its end", p, ref, api.ErrShort, 3)
	p.Classes[3].Methods[1].Code[3] = by(api.End)
	checkFound(t, "a name that is not as it must be", p, ref, api.ErrKind, 1)
	p.Classes[3].Methods[1].Code[1] = by(api.Nop)
	checkFound(t, "a name that is not there", p, ref, api.ErrNone, 2)
	p.Classes[3].Methods[1].Code[2] = by(api.Nop)
	checkFound(t, "what does not hold", p, ref, api.ErrKind, 0)
	p.Classes[3].Methods[1].Code[0] = by(api.In, 0)
	checkFound(t, "nothing", p, ref, api.OK, 0)
	for what, spoil := range spoilt() {
		p, ref := with(static("x", "()V", 1, by(api.End)))
		spoil(&p)
		e, _ := hier.Check(p)
		if right := norm.Right(p); right != api.OK {
			e = right
		}
		checkFound(t, what, p, ref, e, 0)
	}
	for _, ref := range strangers() {
		checkFound(t, ref.Class+"."+ref.Name, world(), ref, api.ErrNone, 0)
	}
}

// written is a method that a fixed seed writes down, of instructions that hold in a row, or not; then it is sent here and there.
func written(chance *rand.Rand, l []asking) api.Method {
	params := []string{"I", "LA;", "[I", "[LB;", "LJ;"}[:chance.Intn(6)]
	answer := []string{"V", "I", "LA;", "LI;"}[chance.Intn(4)]
	m := static("x", "("+strings.Join(params, "")+")"+answer, 5)
	m.Static = len(params) == 5 || chance.Intn(2) == 0
	p, ref := with(m)
	known, _ := Start(p, ref)
	size, careful := 2+chance.Intn(12), chance.Intn(4) > 0
	for len(m.Code) < size-1 {
		i := turned(chance, l, size)
		holds := Holds(p, ref, i, known)
		if behind, on := After(p, i, known); op.Falls(i.Op) && (holds && on || !careful && chance.Intn(20) == 0) {
			m.Code = append(m.Code, i)
			if on {
				known = behind
			}
		}
	}
	m.Code = append(m.Code, by(api.Throw, 1))
	for range chance.Intn(3) {
		at := chance.Intn(size)
		m.Code[at] = []api.Instr{by(api.Jump, chance.Intn(size)), by(api.Branch, chance.Intn(5), chance.Intn(size)), by(api.BranchNil, chance.Intn(5), chance.Intn(size)), by(api.End), by(api.Return, chance.Intn(5))}[chance.Intn(5)]
	}
	return m
}

// turned is one of some instructions, with registers that chance tells.
func turned(chance *rand.Rand, l []asking, size int) api.Instr {
	i := l[chance.Intn(len(l))].i
	for _, r := range registers(&i) {
		*r = chance.Intn(5)
	}
	if _, sets := op.Sets(i); op.IsCall(i.Op) && !sets {
		i.A = 0
	}
	if strings.Contains(op.Shape(i.Op), "t") {
		i.K = int64(chance.Intn(size))
	}
	return i
}

// methods is many methods of a fixed seed, each in a program that can be.
func methods(t *testing.T, size int) []api.Program {
	t.Helper()
	chance := rand.New(rand.NewSource(16))
	all := askings()
	var l []api.Program
	for len(l) < size {
		p, _ := with(written(chance, all))
		if e := norm.Right(p); e != api.OK {
			t.Fatalf("%d: %+v", e, p.Classes[3])
		}
		l = append(l, p)
	}
	return l
}

// last is the method that with puts in.
func last(p api.Program) (api.Method, api.MethodRef) {
	m := p.Classes[3].Methods[1]
	return m, api.MethodRef{Class: "D", Name: "x", Desc: m.Desc}
}

// reckoned is what is known at each place, reckoned by going through all places till nothing more comes.
func reckoned(p api.Program, m api.Method, start []api.Fact) map[int][]api.Fact {
	known := map[int][]api.Fact{0: start}
	for more := true; more; {
		more = false
		for at := len(m.Code) - 1; at >= 0; at-- {
			s, is := known[at]
			if !is {
				continue
			}
			behind, on := After(p, m.Code[at], s)
			for _, next := range flow.Next(m.Code, at) {
				if !on {
					continue
				}
				were, is := known[next]
				all := slices.Clone(behind)
				for r := range all {
					if is {
						all[r] = join.Join(p, were[r], behind[r])
					}
				}
				if !is || !slices.Equal(all, were) {
					known[next], more = all, true
				}
			}
		}
	}
	return known
}

// TestOnAll: P16.3, P16.4, held against what is reckoned otherwise.
func TestOnAll(t *testing.T) {
	whole, joined := 0, 0
	for _, p := range methods(t, 3000) {
		m, ref := last(p)
		start, _ := Start(p, ref)
		known := reckoned(p, m, start)
		states, reached := States(p, ref)
		want, where := flow.Check(m.Code)
		for at, i := range m.Code {
			if e := Names(p, i); want == api.OK && e != api.OK {
				want, where = e, at
			}
		}
		for at, i := range m.Code {
			s, is := known[at]
			if is != reached[at] || !slices.Equal(states[at], s) {
				t.Fatalf("at %d: %v, %v, not %v: %+v", at, states[at], reached[at], s, m)
			}
			if want == api.OK && is && !Holds(p, ref, i, s) {
				want, where = api.ErrKind, at
			}
			if is && len(flow.Back(m.Code, at)) > 1 {
				joined++
			}
		}
		if want == api.OK {
			whole++
		}
		checkFound(t, "a method", p, ref, want, where)
		if t.Failed() {
			t.Fatalf("%+v", m)
		}
	}
	if whole < 500 || whole > 2500 || joined < 500 {
		t.Errorf("%d are of a piece, %d places are joined", whole, joined)
	}
}

// TestFixedPoint: P16.5, what goes on behind a place is Below what is known there.
func TestFixedPoint(t *testing.T) {
	count := 0
	for _, p := range methods(t, 1500) {
		m, ref := last(p)
		states, reached := States(p, ref)
		for at, i := range m.Code {
			behind, on := After(p, i, states[at])
			for _, next := range flow.Next(m.Code, at) {
				if !reached[at] || !on {
					continue
				}
				if !reached[next] || len(states[next]) != len(behind) {
					t.Fatalf("%d behind %d: %v: %+v", next, at, states[next], m)
				}
				for r, f := range behind {
					count++
					if !join.Below(p, f, states[next][r]) {
						t.Fatalf("%d behind %d: %d: %v: %+v", next, at, r, f, m)
					}
				}
			}
		}
	}
	if count < 10000 {
		t.Errorf("only %d", count)
	}
}

// TestNoLess: P16.6, what holds with some facts holds with what is Below these, and so is what is known behind.
func TestNoLess(t *testing.T) {
	p, all, held, known := world(), facts(every), 0, 0
	under := map[api.Fact][]api.Fact{}
	for _, a := range all {
		for _, b := range all {
			if join.Below(p, a, b) {
				under[b] = append(under[b], a)
			}
		}
	}
	for _, a := range askings() {
		ref := api.MethodRef{Class: "D", Name: "w", Desc: a.desc}
		n := 0
		for s := range threes(all) {
			// By turns one register's fact is another one, each of those Below it.
			r := n % 3
			n++
			for _, f := range under[s[r]] {
				less := slices.Clone(s)
				less[r] = f
				if Holds(p, ref, a.i, s) {
					held++
					if !Holds(p, ref, a.i, less) {
						t.Fatalf("%+v: %v, not %v", a.i, s, less)
					}
				}
				behind, on := After(p, a.i, less)
				more, is := After(p, a.i, s)
				if on && !is {
					t.Fatalf("%+v: %v, not %v", a.i, less, s)
				}
				for at := range behind {
					known++
					if !join.Below(p, behind[at], more[at]) {
						t.Fatalf("behind %+v: %v and %v: %d", a.i, s, less, at)
					}
				}
			}
		}
	}
	if held < 10000 || known < 100000 {
		t.Errorf("only %d hold, %d are known", held, known)
	}
}

// TestHoldsWhereChecked: P16.7, of a method whose Check is OK each place that is reached has what it asks.
func TestHoldsWhereChecked(t *testing.T) {
	count := 0
	for _, p := range methods(t, 1500) {
		m, ref := last(p)
		if e, _ := Check(p, ref); e != api.OK {
			continue
		}
		states, reached := States(p, ref)
		for at, i := range m.Code {
			if reached[at] {
				count++
				if !Holds(p, ref, i, states[at]) {
					t.Fatalf("at %d: %v: %+v", at, states[at], m)
				}
			}
		}
	}
	if count < 2000 {
		t.Errorf("only %d", count)
	}
}

// TestAnything: P1, whatever is handed in, it ends, and what is refused answers nothing.
func TestAnything(t *testing.T) {
	chance := rand.New(rand.NewSource(17))
	one := func(l ...string) string { return l[chance.Intn(len(l))] }
	number := func() int { return []int{-1 << 63, -1, 0, 0, 1, 1, 2, 3, 1<<63 - 1}[chance.Intn(9)] }
	instr := func() api.Instr {
		i := api.Instr{Op: api.Op(chance.Intn(int(api.LastOp)+4) - 1), A: number(), B: number(), C: number(), K: int64(number())}
		i.Class, i.Name, i.Desc = one("A", "B", "", "Z", "I"), one("f", "m", "<clinit>", ""), one("()V", "(I)I", "", "(LA;)[I", "(")
		for range chance.Intn(4) {
			i.Args = append(i.Args, number())
		}
		return i
	}
	for range 4000 {
		var p api.Program
		for range chance.Intn(4) {
			c := api.Class{Name: one("A", "B", "I", ""), Super: one("A", "B", "", "Z"), Iface: chance.Intn(3) == 0, Abstract: chance.Intn(3) == 0, Ifaces: []string{one("I", "A", "Z")}}
			c.Fields = []api.Field{{Name: "f", Type: api.Type{Kind: api.Kind(chance.Intn(8) - 1), Class: one("A", "", "Z")}, Static: chance.Intn(2) == 0}}
			m := api.Method{Name: one("m", "<clinit>"), Desc: one("()V", "(I)I", "(LA;)[I", "("), Static: chance.Intn(2) == 0, Abstract: chance.Intn(4) == 0, Regs: number()}
			for range chance.Intn(4) {
				m.Code = append(m.Code, instr())
			}
			c.Methods = append(c.Methods, m)
			p.Classes = append(p.Classes, c)
		}
		ref, i := api.MethodRef{Class: one("A", "B", "I", ""), Name: one("m", "<clinit>"), Desc: one("()V", "(I)I", "(LA;)[I", "(")}, instr()
		var s []api.Fact
		for range chance.Intn(4) {
			s = append(s, api.Fact{Kind: api.FactKind(chance.Intn(9) - 1), Class: one("A", "", "I", "Z")})
		}
		if start, ok := Start(p, ref); !ok && len(start) > 0 || len(start) > api.MaxRegs+1 {
			t.Errorf("%v", start)
		}
		if behind, ok := After(p, i, s); !ok && len(behind) > 0 || ok && len(behind) != len(s) {
			t.Errorf("%v", behind)
		}
		if Names(p, i) != api.OK && Holds(p, ref, i, s) {
			t.Errorf("%+v holds", i)
		}
		states, reached := States(p, ref)
		if len(states) != len(reached) {
			t.Errorf("%d, %d", len(states), len(reached))
		}
		if e, at := Check(p, ref); norm.Right(p) != api.OK && (e != norm.Right(p) || at != 0 || len(states) > 0) {
			t.Errorf("%d at %d", e, at)
		}
	}
}

// TestMuch: P1, as much code as may be, that goes round and round with as many classes as may be, comes to an end.
func TestMuch(t *testing.T) {
	var p api.Program
	name := func(i int) string { return "n" + strconv.Itoa(100+i) }
	for i := range api.MaxClasses {
		c := api.Class{Name: name(i)}
		if i > 0 {
			c.Super = name(i - 1)
			c.Fields = []api.Field{{Name: "f", Type: api.Type{Kind: api.Ref, Class: name(i - 1)}}}
		}
		p.Classes = append(p.Classes, c)
	}
	// By each round register 1 goes one class up, and the others hand that on.
	lowest := name(api.MaxClasses - 1)
	m := static("x", "(IL"+lowest+";)V", api.MaxRegs)
	for r := 2; r < api.MaxRegs; r++ {
		m.Code = append(m.Code, by(api.Move, r, 1))
	}
	for len(m.Code) < api.MaxCode-1 {
		r := 1 + len(m.Code)%(api.MaxRegs-1)
		at := api.MaxClasses - 1 - len(m.Code)/4
		m.Code = append(m.Code, of(by(api.Get, r, r), name(max(at, 1)), "f"), by(api.Branch, 0, len(m.Code)/2))
	}
	m.Code = append(m.Code[:api.MaxCode-1], by(api.End))
	p.Classes[0].Methods = []api.Method{m}
	ref := api.MethodRef{Class: name(0), Name: "x", Desc: m.Desc}
	if e := norm.Right(p); e != api.OK {
		t.Fatal(e)
	}
	states, reached := States(p, ref)
	if len(states) != api.MaxCode || !reached[api.MaxCode-1] {
		t.Errorf("%d places, the last one %v", len(states), states[len(states)-1])
	}
}
