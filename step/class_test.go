package step

import (
	"slices"
	"testing"

	"secateur/api"
	"secateur/sound"
)

// TestBegins: P19.2, what begins a class, and which; the last one above it is gone through first, ahead of the instruction.
func TestBegins(t *testing.T) {
	none := code()
	for _, c := range []struct {
		what  string
		ahead []api.Instr // sets registers 0, 1, 2
		one   api.Instr
		want  string
		began []string
	}{
		{"New", none, makes(3, "M"), "10 20", []string{"K", "L", "M"}},
		{"New of the one above", none, makes(3, "K"), "10", []string{"K"}},
		{"New of the last one", none, makes(3, "N"), "10 20 40", []string{"K", "L", "M", "N"}},
		{"New without", none, makes(3, "D"), "", []string{"A", "B", "C", "D"}},
		{"Init", none, of(by(api.Init), "M"), "10 20", []string{"K", "L", "M"}},
		{"Init of an abstract one", none, of(by(api.Init), "C"), "", []string{"A", "B", "C"}},
		{"Init of an interface", none, of(by(api.Init), "J"), "", []string{"J"}},
		{"CallStatic", none, call(api.CallStatic, 0, "N s (I)V", 0), "10 20 40", []string{"K", "L", "M", "N"}},
		{"CallStatic of one above", none, call(api.CallStatic, 3, "N s ()I"), "10 20", []string{"K", "L", "M"}},
		{"CallStatic of its own class", none, call(api.CallStatic, 0, "K s ()V"), "10", []string{"K"}},
		{"GetStatic", none, of(by(api.GetStatic, 3), "L", "x"), "10 20", []string{"K", "L"}},
		{"GetStatic of one above", none, of(by(api.GetStatic, 3), "N", "x"), "10 20", []string{"K", "L"}},
		{"GetStatic of the last one above", none, of(by(api.GetStatic, 3), "D", "p"), "", []string{"A"}},
		{"PutStatic", none, of(by(api.PutStatic, 0), "K", "x"), "10", []string{"K"}},
		{"PutStatic of one above", none, of(by(api.PutStatic, 0), "M", "x"), "10 20", []string{"K", "L"}},
		{"Make", none, by(api.Make, 3, 0), "10 20 40", []string{"K", "L", "M", "N"}},
		{"Make of one without objects", none, by(api.Make, 3, 2), "", nil},
		{"Ask", none, by(api.Ask, 3, 1), "10 20", []string{"K", "L"}},
		{"NewRefs", none, of(by(api.NewRefs, 3, 0), "N"), "", nil},
		{"Is", code(by(api.Nil, 4)), of(by(api.Is, 3, 4), "N"), "", nil},
		{"Cast", code(by(api.Nil, 4)), of(by(api.Cast, 3, 4), "N"), "", nil},
		{"Call", code(makes(4, "D")), call(api.Call, 3, "A m ()I", 4), "", []string{"A", "B", "C", "D"}},
		{"Get", code(makes(4, "N")), of(by(api.Get, 3, 4), "K", "y"), "10 20 40", []string{"K", "L", "M", "N"}},
	} {
		p := with("()V", code(sets(0, 0), sets(1, 1), sets(2, 2), c.ahead, c.one, c.one, sets(0, 1), puts(0), end)...)
		p.Names = []string{"N", "L.ask", "C"}
		if v := sound.Check(p); v != (api.Verdict{}) {
			t.Errorf("%s: %+v", c.what, v)
		}
		r := ran(p).Result()
		want := c.want + " 1 =0"
		if c.want == "" {
			want = "1 =0"
		}
		if told(r) != want {
			t.Errorf("%s: %s, not %s", c.what, told(r), want)
		}
		slices.Sort(r.Trace.Began)
		c.began = append(c.began, "Main")
		slices.Sort(c.began)
		checkList(t, c.what, r.Trace.Began, c.began...)
	}
}

// TestBeginsOnce: P19.2, a class that is begun is not again, nor one above it.
func TestBeginsOnce(t *testing.T) {
	checkAll(t, true, []doing{
		{"one by one", code(makes(0, "K"), makes(0, "L"), makes(0, "M"), makes(0, "N"), makes(0, "K")), "10 20 40 =0"},
		{"all at once, then those above", code(makes(0, "N"), makes(0, "K"), makes(0, "L"), of(by(api.Init), "M")), "10 20 40 =0"},
		{"of one above, then of this one", code(of(by(api.GetStatic, 0), "N", "x"), sets(1, 1), puts(1), of(by(api.Init), "N")), "10 20 1 40 =0"},
	})
}

// TestBeginsAhead: P19.2, P19.4, where a frame is put the step is done, and the instruction is gone through again later.
func TestBeginsAhead(t *testing.T) {
	p := with("()V", code(by(api.Nop), makes(0, "L"), end)...)
	m := New(p, Identity(p), nil)
	for at, c := range []struct {
		method string
		place  int
		deep   int
		made   int
	}{
		{"Main main ()V", 0, 1, 0}, {"Main main ()V", 1, 1, 0}, {"K <clinit> ()V", 0, 3, 0}, {"K <clinit> ()V", 1, 3, 0}, {"K <clinit> ()V", 2, 3, 0},
		{"L <clinit> ()V", 0, 2, 0}, {"L <clinit> ()V", 1, 2, 0}, {"L <clinit> ()V", 2, 2, 0}, {"Main main ()V", 1, 1, 0}, {"Main main ()V", 2, 1, 1},
	} {
		r := m.Result()
		checkAt(t, "behind steps", m, c.method, c.place)
		if m.Deep() != c.deep || len(r.Trace.Made) != c.made || r.Steps != at {
			t.Errorf("behind %d steps: %d frames, %+v", at, m.Deep(), r)
		}
		m.Step()
	}
	if r := m.Result(); told(r) != "10 20 =0" || r.Steps != 10 || len(r.Trace.Edges) != 0 {
		t.Errorf("%+v", r)
	}
	// Without a frame it goes on in the same step.
	p = with("()V", code(makes(0, "D"), end)...)
	m = New(p, Identity(p), nil)
	m.Step()
	checkAt(t, "without", m, "Main main ()V", 1)
	if r := m.Result(); len(r.Trace.Began) != 5 || len(r.Trace.Made) != 1 {
		t.Errorf("%+v", r)
	}
}

// TestBeginsWithin: P19.2, a class is begun as soon as its frame is put: what its beginning does finds it so.
func TestBeginsWithin(t *testing.T) {
	p := with("()V", code(makes(0, "L"), end)...)
	class(&p, "K").Methods[0].Code = code(sets(0, 10), puts(0), makes(0, "L"), of(by(api.GetStatic, 1), "K", "x"), puts(1), of(by(api.Init), "N"), end)
	if v := sound.Check(p); v != (api.Verdict{}) {
		t.Errorf("%+v", v)
	}
	r := ran(p).Result()
	if told(r) != "10 0 40 20 =0" || len(r.Trace.Edges) != 0 {
		t.Errorf("%s, %v", told(r), r.Trace.Edges)
	}
	checkList(t, "made", r.Trace.Made, api.Site{Method: ref("K <clinit> ()V"), PC: 2, Class: "L"}, api.Site{Method: ref("Main main ()V"), PC: 0, Class: "L"})
}

// tower is a program of so many classes one above the other, each with a beginning; main makes one of the lowest.
func tower(size int) api.Program {
	p := with("()V", code(sets(0, 1), puts(0), makes(0, "T"), end)...)
	above := ""
	for at := range size {
		c := api.Class{Name: "T" + string(rune('A'+at)), Super: above, Methods: []api.Method{putsOut(at)}}
		if at == size-1 {
			c.Name = "T"
		}
		p.Classes = append(p.Classes, c)
		above = c.Name
	}
	return p
}

// TestBeginsDeep: P19.2, TrapDeep, if there is no room for the frames.
func TestBeginsDeep(t *testing.T) {
	r := ran(tower(api.MaxDeep - 1)).Result()
	if r.Status != api.Exited || len(r.Events) != api.MaxDeep || r.Events[0].N != 1 {
		t.Errorf("%s", told(r))
	}
	for at, e := range r.Events[1:] {
		if e.N != int64(at) {
			t.Errorf("%d: %v", at, e)
		}
	}
	m := ran(tower(api.MaxDeep))
	if r := m.Result(); told(r) != "1 !6" || r.Steps != 3 || m.Deep() > api.MaxDeep {
		t.Errorf("%d frames, %+v", m.Deep(), r)
	}
	p := tower(api.MaxDeep)
	lowest := class(&p, "T")
	lowest.Methods = append(lowest.Methods, static("main", "()V", end))
	p.Entry = ref("T main ()V")
	m = New(p, Identity(p), nil)
	if r := m.Result(); told(r) != "!6" || r.Steps != 0 || m.Step() {
		t.Errorf("at once: %+v", r)
	}
	p.Classes[len(p.Classes)-2].Methods = nil
	m = New(p, Identity(p), nil)
	if r := m.Result(); told(r) != ".." || m.Deep() != api.MaxDeep {
		t.Errorf("just enough: %d frames, %+v", m.Deep(), r)
	}
}
