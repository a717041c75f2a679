package step

import (
	"testing"

	"secateur/api"
	"secateur/sound"
)

// looked is a program that makes, or asks, each of its names, one behind the other, and puts out what it came to: of Make a 1, if there is an object, and 2, if there is none.
func looked(o api.Op, names ...string) api.Program {
	var l []api.Instr
	for at := range names {
		l = append(l, sets(0, at), sets(1, 77), by(o, 1, 0))
		if o == api.Ask {
			l = append(l, puts(1)...)
			continue
		}
		on := len(l)
		l = append(l, sets(2, 2), by(api.BranchNil, 1, on+3), sets(2, 1), by(api.Out, 2))
	}
	p := with("()V", code(l, end)...)
	p.Names = names
	return p
}

func checkLooked(t *testing.T, what string, p api.Program, names api.Mapping, want string, found ...string) {
	t.Helper()
	r := onward(New(p, names, nil)).Result()
	if told(r) != want {
		t.Errorf("%s: %s, not %s", what, told(r), want)
	}
	checkList(t, what, r.Trace.Found, found...)
}

// TestMake: P19.2, an object of the class that a name becomes, if that has objects; else none.
func TestMake(t *testing.T) {
	p := looked(api.Make, "A", "D", "C", "I", "Z", "", "A.m", "L.ask", "a", "\xff", "A")
	if v := sound.Check(p); v != (api.Verdict{}) {
		t.Errorf("%+v", v)
	}
	checkLooked(t, "as it is", p, Identity(p), "1 1 2 2 2 2 2 2 2 2 1 =0", "A", "D", "C", "I")
	checkLooked(t, "by no names", p, api.Mapping{}, "2 2 2 2 2 2 2 2 2 2 2 =0")
	// What is found is so whatever it becomes.
	names := api.Mapping{Classes: pairs("A", "E", "A", "D", "C", "Z", "D", "I", "Z", "B", "", "E", "L.ask", "E")}
	checkLooked(t, "by other names", p, names, "1 2 2 2 1 1 2 1 2 2 1 =0", "A", "D", "C", "Z", "", "L.ask")
	r := onward(New(p, names, nil)).Result()
	var made []string
	for _, s := range r.Trace.Made {
		made = append(made, s.Class)
	}
	checkList(t, "made", made, "E", "B", "E", "E", "E")
}

// TestMakeOne: P19.2, it is an object like any other one.
func TestMakeOne(t *testing.T) {
	p := with("()V", code(sets(0, 1), by(api.Make, 1, 0), of(by(api.Is, 2, 1), "D"), puts(2), of(by(api.Cast, 1, 1), "D"), call(api.Call, 2, "C o ()I", 1), puts(2), of(by(api.Get, 3, 1), "A", "a"), puts(3), end)...)
	p.Names = []string{"E", "D"}
	r := ran(p).Result()
	if told(r) != "1 4 0 =0" {
		t.Errorf("%s", told(r))
	}
	checkList(t, "made", r.Trace.Made, api.Site{Method: ref("Main main ()V"), PC: 1, Class: "D"})
	checkList(t, "found", r.Trace.Found, "D")
}

// TestAsk: P19.2, the answer of the method that a name becomes; 0 without.
func TestAsk(t *testing.T) {
	p := looked(api.Ask, "A.ask", "L.ask", "M.s", "N.s", "A.m", "K.s", "I.m", "Z.s", "L.z", "L", "ask", "", "L.ask()I", "M.s.s", "L.", ".ask")
	if v := sound.Check(p); v != (api.Verdict{}) {
		t.Errorf("%+v", v)
	}
	checkLooked(t, "as it is", p, Identity(p), "0 10 20 21 30 0 0 0 0 0 0 0 0 0 0 0 0 0 =0", "A.ask", "L.ask", "M.s", "N.s", "A.m", "K.s", "I.m")
	checkLooked(t, "by no names", p, api.Mapping{}, "0 0 0 0 0 0 0 0 0 0 0 0 0 0 0 0 =0")
	identity := Identity(p)
	checkLooked(t, "by classes alone", p, api.Mapping{Classes: identity.Classes}, "0 0 0 0 0 0 0 0 0 0 0 0 0 0 0 0 =0")
	checkLooked(t, "by methods alone", p, api.Mapping{Methods: identity.Methods}, "0 0 0 0 0 0 0 0 0 0 0 0 0 0 0 0 =0")
	checkLooked(t, "by methods as fields", p, api.Mapping{Classes: identity.Classes, Fields: identity.Methods}, "0 0 0 0 0 0 0 0 0 0 0 0 0 0 0 0 =0")
}

// TestAskOther: P19.2, by other names: of several the first one, by its name and descriptor.
func TestAskOther(t *testing.T) {
	names := api.Mapping{
		Classes: pairs("A", "L", "A", "M", "B", "M", "C", "Z", "L", "A"),
		Methods: pairs("x()V", "s", "x()I", "ask", "x()I", "s", "y()I", "s", "z()I", "q", "ask", "ask"),
	}
	p := looked(api.Ask, "A.x", "B.y", "B.x", "A.y", "C.x", "L.x", "A.z", "D.x", "L.ask", "A.s")
	checkLooked(t, "by other names", p, names, "10 20 21 30 0 0 0 0 0 0 0 0 =0", "A.x", "B.y", "B.x", "A.y", "C.x", "L.x", "A.z")
}

// TestAskNoMember: P19.2, what is no class's name, a point, and a member's is not found as a method, whatever there is of it.
func TestAskNoMember(t *testing.T) {
	names := api.Mapping{Classes: pairs("", "L", "L", "L", "a b", "L", "L.x", "L"), Methods: pairs("()I", "ask", "ask()I", "ask", "a b()I", "ask", "x.ask()I", "ask")}
	p := looked(api.Ask, "", "ask", "L", ".ask", "L.", ".", "a b.ask", "L.a b", "L.x.ask", "L/ask", "L ask", "L.ask()I")
	checkLooked(t, "no member", p, names, "0 0 0 0 0 0 0 0 0 0 0 0 =0")
}

// TestAskFrame: P19.2, a frame of it, whose answer goes to A.
func TestAskFrame(t *testing.T) {
	p := with("()V", code(sets(0, 0), sets(1, 5), by(api.Ask, 3, 0), puts(0, 1, 3), end)...)
	p.Names = []string{"M.s"}
	r := ran(p).Result()
	if told(r) != "10 20 0 5 30 =0" {
		t.Errorf("%s", told(r))
	}
	checkList(t, "edges", r.Trace.Edges, api.Edge{Method: ref("Main main ()V"), PC: 2, Target: ref("M s ()I")})
}

// TestNoPlace: P19.2, TrapBound, unless it is a place of Names.
func TestNoPlace(t *testing.T) {
	for _, o := range []api.Op{api.Make, api.Ask} {
		for _, c := range []struct {
			at   int
			want string
		}{{0, "1 =0"}, {1, "1 =0"}, {2, "!3"}, {-1, "!3"}, {1 << 32, "!3"}, {-1 << 63, "!3"}} {
			p := with("()V", code(sets(0, c.at), by(o, 2, 0), sets(1, 1), puts(1), end)...)
			p.Names = []string{"A", "M.a"}
			if got := told(ran(p).Result()); got != c.want {
				t.Errorf("%d of %d: %s, not %s", o, c.at, got, c.want)
			}
		}
		p := with("()V", code(sets(0, 0), by(o, 1, 0), end)...)
		r := ran(p).Result()
		if told(r) != "!3" || len(r.Trace.Found) > 0 {
			t.Errorf("%d without names: %+v", o, r)
		}
	}
}
