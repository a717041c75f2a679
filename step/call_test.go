package step

import (
	"slices"
	"testing"

	"secateur/api"
	"secateur/sound"
)

// TestCallStatic: P19.2, a frame of the method that the class has, or one above; its answer goes to A.
func TestCallStatic(t *testing.T) {
	same := "E same (LA;)LA;"
	checkAll(t, true, []doing{
		{"in order", code(sets(0, 7), sets(1, 3), call(api.CallStatic, 2, "A s (II)I", 0, 1), call(api.CallStatic, 3, "A s (II)I", 1, 0), puts(0, 1, 2, 3)), "7 3 4 -4 =0"},
		{"one twice", code(sets(5, 7), call(api.CallStatic, 5, "A s (II)I", 5, 5), puts(5)), "0 =0"},
		{"of one above", code(sets(0, 7), sets(1, 3), call(api.CallStatic, 2, "D s (II)I", 0, 1), puts(2)), "4 =0"},
		{"without an answer", code(sets(0, 7), call(api.CallStatic, 0, "B w ()V"), puts(0)), "5 7 =0"},
		{"a reference", code(makes(0, "B"), by(api.Nil, 3), call(api.CallStatic, 3, same, 0), call(api.Call, 4, "A m ()I", 3), puts(4), by(api.Nil, 0), call(api.CallStatic, 3, same, 0), by(api.Check, 3)), "2 !2"},
		{"of one name and another descriptor", code(call(api.CallStatic, 0, "M s ()I"), puts(0), call(api.CallStatic, 0, "M s ()V")), "10 20 30 =0"},
	})
}

// TestCall: P19.2, a frame of what find.Dispatch tells by the object's class.
func TestCall(t *testing.T) {
	m := func(what, class, by string) doing {
		o, want := api.Call, map[string]string{"A": "1 =0", "B": "2 =0", "D": "2 =0"}[what]
		if by == "I" || by == "J" {
			o = api.CallIface
		}
		return doing{what + " by " + by, code(makes(0, what), call(o, 1, by+" m ()I", 0), puts(1)), want}
	}
	checkAll(t, true, []doing{
		m("A", "A", "A"), m("B", "B", "A"), m("B", "B", "B"), m("D", "D", "A"), m("D", "D", "C"), m("D", "D", "D"), m("A", "A", "I"), m("B", "B", "I"), m("D", "D", "I"), m("D", "D", "J"),
		{"one that is abstract", code(makes(0, "D"), call(api.Call, 1, "C o ()I", 0), puts(1)), "4 =0"},
		{"one of an interface", code(makes(0, "D"), call(api.CallIface, 1, "J o ()I", 0), puts(1)), "4 =0"},
		{"without an answer", code(makes(1, "D"), sets(0, 7), call(api.Call, 0, "A v ()V", 1), puts(0)), "6 7 =0"},
		{"one of its own", code(makes(1, "A"), call(api.Call, 0, "A v ()V", 1)), "=0"},
		{"what is handed over", code(makes(0, "A"), makes(1, "A"), sets(2, 8), sets(3, 9), of(by(api.Put, 1, 2), "A", "a"), call(api.Call, 4, "A t (LA;I)I", 0, 1, 3), puts(4)), "9 8 =0"},
		{"none", code(by(api.Nil, 0), call(api.Call, 1, "A m ()I", 0), puts(1)), "!2"},
		{"none of an interface", code(by(api.Nil, 0), call(api.CallIface, 1, "I m ()I", 0), puts(1)), "!2"},
		{"none alone counts", code(makes(0, "A"), by(api.Nil, 1), sets(2, 8), puts(2), call(api.Call, 3, "A t (LA;I)I", 0, 1, 2)), "8 8 !2"},
	})
}

// TestRegisters: P19.2, a frame has registers of its own.
func TestRegisters(t *testing.T) {
	p := with("()V", code(sets(0, 1), sets(1, 2), sets(2, 3), call(api.CallStatic, 3, "A s (II)I", 2, 0), puts(0, 1, 2, 3), call(api.CallStatic, 3, "A s (II)I", 0, 2), puts(0, 1, 2, 3), end)...)
	if got := told(ran(p).Result()); got != "1 2 3 2 1 2 3 -2 =0" {
		t.Errorf("%s", got)
	}
}

// recursive is a program that calls a method, which calls itself so often; each behind its call puts out how often.
func recursive(times int) api.Program {
	p := with("()V", code(sets(0, times), call(api.CallStatic, 0, "Main go (I)V", 0), end)...)
	main := class(&p, "Main")
	main.Methods = slices.Insert(main.Methods, 0, static("go", "(I)V", code(by(api.Branch, 0, 2), end, sets(1, 1), by(api.Arith, 2, 0, 1, api.Sub), call(api.CallStatic, 0, "Main go (I)V", 2), puts(0), end)...))
	return p
}

// TestDeep: P19.2, P19.3, there are at most MaxDeep frames; the next one finds no room.
func TestDeep(t *testing.T) {
	p := recursive(api.MaxDeep - 2)
	if v := sound.Check(p); v != (api.Verdict{}) {
		t.Fatalf("%+v", v)
	}
	m, most := New(p, Identity(p), nil), 0
	for m.Step() {
		most = max(most, m.Deep())
	}
	r := m.Result()
	if most != api.MaxDeep || r.Status != api.Exited || len(r.Events) != api.MaxDeep-2 || m.Deep() != 0 {
		t.Errorf("%d frames, %s", most, told(r))
	}
	for at, e := range r.Events {
		if e.N != int64(at+1) {
			t.Errorf("%d: %v", at, e)
		}
	}
	m = ran(recursive(api.MaxDeep - 1))
	r = m.Result()
	if told(r) != "!6" || m.Deep() != api.MaxDeep || m.Step() {
		t.Errorf("%d frames, %s", m.Deep(), told(r))
	}
	checkList(t, "entered", r.Trace.Entered, ref("Main main ()V"), ref("Main go (I)V"))
	checkList(t, "edges", r.Trace.Edges, api.Edge{Method: ref("Main main ()V"), PC: 1, Target: ref("Main go (I)V")}, api.Edge{Method: ref("Main go (I)V"), PC: 4, Target: ref("Main go (I)V")})
}

// TestDeepCalls: P19.2, no room for a frame of an object's method, and of one that is looked up.
func TestDeepCalls(t *testing.T) {
	for what, c := range map[string]struct {
		one    api.Instr
		target string
	}{
		"of an object":     {call(api.Call, 1, "A x ()I", 0), "A x ()I"},
		"of an interface":  {call(api.CallIface, 1, "I x ()I", 0), "A x ()I"},
		"one looked up":    {by(api.Ask, 1, 2), "Main ask ()I"},
		"one of the class": {call(api.CallStatic, 1, "Main ask ()I"), "Main ask ()I"},
	} {
		p := with("()V", code(makes(0, "A"), sets(2, 0), c.one, end)...)
		again := code(makes(0, "A"), sets(2, 0), c.one, by(api.Return, 1))
		a, i, main := class(&p, "A"), class(&p, "I"), class(&p, "Main")
		a.Methods = append(a.Methods, virtual("x", "()I", again...))
		i.Methods = append(i.Methods, abstract("x", "()I"))
		main.Methods = slices.Insert(main.Methods, 0, static("ask", "()I", again...))
		p.Names = []string{"Main.ask"}
		if v := sound.Check(p); v != (api.Verdict{}) {
			t.Errorf("%s: %+v", what, v)
		}
		m := ran(p)
		r := m.Result()
		if told(r) != "!6" || m.Deep() != api.MaxDeep || len(r.Trace.Edges) != 2 || r.Trace.Edges[1].Target != ref(c.target) {
			t.Errorf("%s: %d frames, %s, %v", what, m.Deep(), told(r), r.Trace.Edges)
		}
	}
}

// TestEnds: P19.2, Return and End of the last frame: it has exited, with its answer, or 0.
func TestEnds(t *testing.T) {
	for _, c := range []struct {
		desc string
		code []api.Instr
		want string
	}{
		{"()I", code(sets(0, 7), by(api.Return, 0)), "=7"},
		{"()I", code(sets(0, -7), sets(1, 8), by(api.Return, 0), by(api.Throw, 1)), "=-7"},
		{"()I", code(sets(0, 0), by(api.Return, 0)), "=0"},
		{"()V", code(sets(0, 7), end), "=0"},
		{"()V", code(call(api.CallStatic, 0, "M s ()V"), sets(0, 1), puts(0), end), "10 20 1 =0"},
		{"()I", code(call(api.CallStatic, 0, "M s ()I"), by(api.Return, 0)), "10 20 =30"},
	} {
		p := with(c.desc, c.code...)
		if v := sound.Check(p); v != (api.Verdict{}) {
			t.Errorf("%v: %+v", c.code, v)
		}
		if got := told(ran(p).Result()); got != c.want {
			t.Errorf("%v: %s, not %s", c.code, got, c.want)
		}
	}
}

// TestEdges: P19.2, a frame that is put by a call is an Edge of that instruction, and entered; each once, in the order in which it came first.
func TestEdges(t *testing.T) {
	p := with("()V", code(makes(0, "B"), call(api.CallIface, 1, "I m ()I", 0), call(api.Call, 1, "A m ()I", 0), call(api.CallStatic, 1, "D s (II)I", 1, 1), makes(0, "A"), by(api.In, 2), by(api.Branch, 2, 1), by(api.Ask, 1, 2), end)...)
	p.Names = []string{"L.ask"}
	r := ran(p, 1, 1).Result()
	if told(r) != "<1 <1 <0 10 20 =0" {
		t.Errorf("%s", told(r))
	}
	edge := func(at int, target string) api.Edge {
		return api.Edge{Method: ref("Main main ()V"), PC: at, Target: ref(target)}
	}
	checkList(t, "edges", r.Trace.Edges, edge(1, "B m ()I"), edge(2, "B m ()I"), edge(3, "A s (II)I"), edge(1, "A m ()I"), edge(2, "A m ()I"), edge(7, "L ask ()I"))
	slices.SortFunc(r.Trace.Entered[4:6], func(a, b api.MethodRef) int { return slices.Compare([]string{a.Class}, []string{b.Class}) })
	checkList(t, "entered", r.Trace.Entered, ref("Main main ()V"), ref("B m ()I"), ref("A s (II)I"), ref("A m ()I"), ref("K <clinit> ()V"), ref("L <clinit> ()V"), ref("L ask ()I"))
}
