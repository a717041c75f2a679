package step

import (
	"math"
	"math/rand"
	"reflect"
	"slices"
	"testing"

	"secateur/api"
	"secateur/find"
	"secateur/hier"
	"secateur/kind"
	"secateur/norm"
	"secateur/op"
	"secateur/sound"
	"secateur/verify"
)

// one is one of some things.
func one[T any](chance *rand.Rand, l ...T) T {
	return l[chance.Intn(len(l))]
}

// anyInstr is an instruction of an Op that may be right in world.
func anyInstr(chance *rand.Rand, o api.Op, regs int) api.Instr {
	i := api.Instr{Op: o}
	for _, letter := range op.Shape(i.Op) {
		switch letter {
		case 'a':
			i.A = chance.Intn(regs)
		case 'b':
			i.B = chance.Intn(regs)
		case 'c':
			i.C = chance.Intn(regs)
		case 'k':
			i.K = int64(chance.Intn(6) - 1)
		case 'r':
			i.K = int64(chance.Intn(api.LastSum + 1))
		case 'C':
			i.Class = one(chance, "A", "B", "C", "D", "E", "I", "J", "K", "L", "M", "N")
		case 'F':
			f := one(chance, "A a", "A b", "A c", "A d", "A p", "A q", "B a", "B e", "D b", "C p", "K x", "L x", "N x", "M y")
			i.Class, i.Name = ref(f).Class, ref(f).Name
		case 'M':
			m := ref(one(chance, "A m ()I", "A s (II)I", "A t (LA;I)I", "A v ()V", "B m ()I", "B w ()V", "C o ()I", "D v ()V", "E m ()I", "E same (LA;)LA;", "I m ()I", "J o ()I", "J m ()I", "K s ()V", "L ask ()I", "M s ()I", "N s (I)V"))
			i.Class, i.Name, i.Desc = m.Class, m.Name, m.Desc
		case 'v':
			params, ret, _ := kind.Split(i.Desc)
			for range len(params) {
				i.Args = append(i.Args, chance.Intn(regs))
			}
			if i.Op != api.CallStatic {
				i.Args = append(i.Args, chance.Intn(regs))
			}
			if ret.Kind == api.Void {
				i.A = 0
			}
		}
	}
	return i
}

// anyThat is an instruction of an Op of which something holds, if one is met soon.
func anyThat(chance *rand.Rand, o api.Op, regs int, holds func(api.Instr) bool) (api.Instr, bool) {
	for range 60 {
		if i := anyInstr(chance, o, regs); holds(i) {
			return i, true
		}
	}
	return api.Instr{}, false
}

// anyCode is code of a method that is of a piece, as far as it goes straight on.
func anyCode(chance *rand.Rand, p api.Program, m api.MethodRef, size int) []api.Instr {
	facts, _ := verify.Start(p, m)
	var l []api.Instr
	if chance.Intn(2) == 0 {
		l = code(sets(6, chance.Intn(3)), makes(7, one(chance, "A", "B", "D", "N")), one(chance, of(by(api.NewRefs, 5, 6), "A"), by(api.NewInts, 5, 6)))
	}
	for _, i := range l {
		facts, _ = verify.After(p, i, facts)
	}
	for size += len(l); len(l) < size; {
		o, last := api.Op(1+chance.Intn(int(api.LastOp))), len(l)+1 >= size
		if last == op.Falls(o) || o == api.Throw && chance.Intn(4) > 0 {
			continue
		}
		i, is := anyThat(chance, o, len(facts), func(i api.Instr) bool { return verify.Holds(p, m, i, facts) })
		behind, on := verify.After(p, i, facts)
		if !is || !on {
			continue
		}
		l, facts = append(l, i), behind
	}
	// Some go elsewhere.
	for at := range l {
		if _, jumps := op.Target(l[at]); jumps {
			l[at].K = int64(chance.Intn(len(l)))
		} else if chance.Intn(20) == 0 {
			l[at] = by(api.Jump, chance.Intn(len(l)))
		}
	}
	return l
}

// many is so many programs of a fixed seed that are of a piece: world, with other code.
func many(size int) []api.Program {
	chance := rand.New(rand.NewSource(19))
	var l []api.Program
	for len(l) < size {
		p := with(one(chance, "()V", "()I"), by(api.Throw, 0))
		p.Names = []string{"A", "D", "L.ask", "M.s", "Z", "C", "N", "E.m", "K"}
		for _, m := range sound.Methods(p) {
			if chance.Intn(3) == 0 && m.Class != "Main" {
				continue
			}
			methods := class(&p, m.Class).Methods
			at := slices.IndexFunc(methods, func(o api.Method) bool { return o.Name == m.Name && o.Desc == m.Desc })
			was := methods[at]
			methods[at].Regs = 8
			if methods[at].Code = anyCode(chance, p, m, 2+chance.Intn(14)); norm.Right(p) != api.OK {
				methods[at] = was
			} else if e, _ := verify.Check(p, m); e != api.OK {
				methods[at] = was
			}
		}
		if sound.Check(p) == (api.Verdict{}) && len(class(&p, "Main").Methods[0].Code) > 1 {
			l = append(l, p)
		}
	}
	return l
}

func inputs(chance *rand.Rand) []int64 {
	var l []int64
	for range chance.Intn(6) {
		l = append(l, one[int64](chance, 0, 1, 2, 3, -1, math.MinInt64, math.MaxInt64))
	}
	return l
}

// beginning tells whether a list goes on as another one began.
func beginning[T comparable](a, b []T) bool {
	return len(a) <= len(b) && slices.Equal(a, b[:len(a)])
}

// once tells whether a list has each member once.
func once[T comparable](l []T) bool {
	met := map[T]int{}
	for _, x := range l {
		met[x]++
	}
	return len(met) == len(l)
}

// grows tells whether all that a run came to goes on as it began, each member once.
func grows(a, b api.Result) bool {
	s, t := a.Trace, b.Trace
	return beginning(a.Events, b.Events) && beginning(s.Entered, t.Entered) && beginning(s.Edges, t.Edges) && beginning(s.Made, t.Made) && beginning(s.Began, t.Began) && beginning(s.Read, t.Read) && beginning(s.Found, t.Found) &&
		once(t.Entered) && once(t.Edges) && once(t.Made) && once(t.Began) && once(t.Read) && once(t.Found)
}

// TestManySteps: P19.2, P19.4, P19.5, P19.6, step by step; what is of a piece does not go wrong.
func TestManySteps(t *testing.T) {
	chance, ends, ops := rand.New(rand.NewSource(20)), map[string]int{}, map[api.Op]int{}
	for _, p := range many(600) {
		input := inputs(chance)
		m := New(p, Identity(p), input)
		for range 300 {
			was, deep := m.Result(), m.Deep()
			if was.Status == api.Running {
				checkRunning(t, p, m, ops)
			}
			stepped := m.Step()
			is := m.Result()
			switch {
			case was.Status != api.Running:
				if stepped || !reflect.DeepEqual(is, was) || m.Deep() != deep {
					t.Fatalf("%+v, not %+v: %+v", is, was, p)
				}
			case !stepped || is.Steps != was.Steps+1 || !grows(was, is) || is.Trap == api.TrapWrong:
				t.Fatalf("%+v behind %+v: %+v", is, was, p)
			case m.Deep() < deep-1 || (m.Deep() == 0) != (is.Status == api.Exited) || (is.Trap != api.NoTrap) != (is.Status == api.Trapped):
				t.Fatalf("%d frames behind %d, %+v: %+v", m.Deep(), deep, is, p)
			}
			checkHeld(t, p, m)
		}
		ends[string(rune('0'+m.Result().Status))+string(rune('0'+m.Result().Trap))]++
	}
	for _, end := range []string{"00", "10", "21", "22", "23", "24", "26", "28"} {
		if ends[end] == 0 {
			t.Errorf("none ends so: %s, but %v", end, ends)
		}
	}
	for o := api.NoOp + 1; o <= api.LastOp; o++ {
		if ops[o] < 10 {
			t.Errorf("of %d there are %d", o, ops[o])
		}
	}
}

// checkRunning checks where a machine is that runs, and that what it has begun is begun as a whole.
func checkRunning(t *testing.T, p api.Program, m *Machine, ops map[api.Op]int) {
	t.Helper()
	r := m.Result()
	at, place := m.At()
	method, is := find.Get(p, at)
	if !is || place < 0 || place >= len(method.Code) || !slices.Contains(r.Trace.Entered, at) || m.Deep() < 1 || m.Deep() > api.MaxDeep {
		t.Fatalf("%v, %d, %+v: %+v", at, place, r, p)
	}
	ops[method.Code[place].Op]++
	for _, name := range r.Trace.Began {
		for _, above := range hier.Supers(p, name) {
			init, is := find.Init(p, above)
			if !slices.Contains(r.Trace.Began, above) || is && !slices.Contains(r.Trace.Entered, init) {
				t.Fatalf("%s is begun, not %s: %+v", name, above, r)
			}
		}
	}
}

// checkHeld checks that what is held can be: each place is one of references, entered or made.
func checkHeld(t *testing.T, p api.Program, m *Machine) {
	t.Helper()
	l, r := m.Held(), m.Result()
	if !once(l) || !slices.IsSortedFunc(l, func(a, b api.Held) int {
		return min(int(a.Place.Kind), int(api.InField)) - min(int(b.Place.Kind), int(api.InField))
	}) {
		t.Fatalf("%v", l)
	}
	for _, h := range l {
		is := slices.Contains(r.Trace.Made, h.Site)
		switch place := h.Place; place.Kind {
		case api.InReg:
			method, _ := find.Get(p, place.Method)
			is = is && slices.Contains(r.Trace.Entered, place.Method) && place.Reg >= 0 && place.Reg < method.Regs && place == api.Place{Kind: api.InReg, Method: place.Method, Reg: place.Reg}
		case api.InStatic:
			f, there := find.FieldOf(p, place.Field)
			is = is && there && f.Static && kind.IsRef(f.Type) && place == api.Place{Kind: api.InStatic, Field: place.Field} && fits(p, h.Site, f.Type)
		case api.InField:
			f, there := find.FieldOf(p, place.Field)
			is = is && there && !f.Static && kind.IsRef(f.Type) && place == api.Place{Kind: api.InField, Site: place.Site, Field: place.Field} && fits(p, h.Site, f.Type) &&
				slices.Contains(r.Trace.Made, place.Site) && hier.Sub(p, place.Site.Class, place.Field.Class)
		case api.InElement:
			array, _ := kind.Parse(place.Site.Class)
			is = is && array.Kind == api.Refs && place == api.Place{Kind: api.InElement, Site: place.Site} && fits(p, h.Site, kind.Element(array)) && slices.Contains(r.Trace.Made, place.Site)
		default:
			is = false
		}
		if !is {
			t.Fatalf("%+v: %+v", h, p)
		}
	}
}

// fits tells whether what comes from a site can be where a type is.
func fits(p api.Program, s api.Site, t api.Type) bool {
	if t.Kind == api.Ref {
		return hier.Sub(p, s.Class, t.Class)
	}
	return s.Class == kind.Text(t)
}

// TestManyAlike: P5, one machine more does the same; P19.1, so does one with what counts of the input alone.
func TestManyAlike(t *testing.T) {
	chance := rand.New(rand.NewSource(21))
	for _, p := range many(200) {
		input := inputs(chance)
		a, b := onward(New(p, Identity(p), input)), onward(New(norm.Clone(p), Identity(p), slices.Concat(input, make([]int64, api.MaxInput))))
		if !reflect.DeepEqual(a.Result(), b.Result()) || !reflect.DeepEqual(a.Held(), b.Held()) {
			t.Fatalf("%+v, not %+v", a.Result(), b.Result())
		}
	}
}

// wild is programs of any names, kinds and numbers, and mappings.
func wild(chance *rand.Rand) (api.Program, api.Mapping) {
	name := func() string {
		return one(chance, "", "A", "B", "I", "m", "m", "<clinit>", "A.m", "()V", "()I", "(LA;)V", "\xff\x00", "([LZ;I)LB;", "a b")
	}
	n := func() int { return one(chance, -1, 0, 0, 0, 1, 1, 2, 3, 3, 5, math.MaxInt, math.MinInt) }
	instr := func() api.Instr {
		i := api.Instr{Op: api.Op(chance.Intn(36) - 2), A: n(), B: n(), C: n(), K: int64(n()), Class: name(), Name: name(), Desc: name()}
		for range chance.Intn(3) {
			i.Args = append(i.Args, n())
		}
		return i
	}
	method := func() api.Method {
		m := api.Method{Name: name(), Desc: name(), Static: chance.Intn(3) > 0, Abstract: chance.Intn(4) == 0, Regs: one(chance, 4, 4, 9, 0, -3, math.MaxInt, math.MinInt)}
		for range chance.Intn(9) {
			m.Code = append(m.Code, instr())
		}
		return m
	}
	p := api.Program{Names: []string{name(), name()}, Entry: api.MethodRef{Class: "A", Name: "m", Desc: "()V"}}
	for range chance.Intn(5) {
		c := api.Class{Name: one(chance, "A", "A", "B", "I", ""), Super: name(), Iface: chance.Intn(3) == 0, Abstract: chance.Intn(3) == 0}
		for range chance.Intn(3) {
			c.Ifaces = append(c.Ifaces, name())
			c.Fields = append(c.Fields, api.Field{Name: name(), Type: api.Type{Kind: api.Kind(chance.Intn(8) - 1), Class: name()}, Static: chance.Intn(2) == 0})
			c.Methods = append(c.Methods, method())
		}
		start := method()
		start.Name, start.Desc, start.Static = "m", "()V", true
		c.Methods = append(c.Methods, start)
		p.Classes = append(p.Classes, c)
	}
	names := Identity(p)
	for range chance.Intn(3) {
		names.Classes = append(names.Classes, api.Pair{Old: name(), New: name()})
		names.Methods = append(names.Methods, api.Pair{Old: name() + name(), New: name()})
	}
	return p, names
}

// TestWild: P1, each call ends with whatever comes in; P2, P19.4, P19.5 hold there, too.
func TestWild(t *testing.T) {
	chance, met := rand.New(rand.NewSource(22)), map[api.Trap]int{}
	for range 20000 {
		p, names := wild(chance)
		m := New(p, names, inputs(chance))
		for range 60 {
			was := m.Result()
			if stepped := m.Step(); stepped != (was.Status == api.Running) {
				t.Fatalf("%v behind %+v", stepped, was)
			}
			is := m.Result()
			if !grows(was, is) || m.Deep() > api.MaxDeep || !once(m.Held()) || is.Code != 0 && is.Status == api.Trapped && is.Trap != api.TrapThrow {
				t.Fatalf("%+v behind %+v", is, was)
			}
			m.At()
		}
		met[m.Result().Trap]++
	}
	if met[api.NoTrap] < 100 || met[api.TrapWrong] < 1000 || met[api.TrapThrow] < 100 {
		t.Errorf("%v", met)
	}
}
