package find

import (
	"math/rand"
	"reflect"
	"slices"
	"testing"

	"secateur/api"
	"secateur/hier"
	"secateur/norm"
)

// What a method may be: with code for objects, abstract, static.
func coded(name, desc string) api.Method {
	return api.Method{Name: name, Desc: desc, Regs: 4, Code: []api.Instr{
		{Op: api.Call, Class: "A", Name: name, Desc: desc, Args: []int{0, 1}}, {Op: api.CallStatic, Args: []int{}}, {Op: api.End},
	}}
}

func abstract(name, desc string) api.Method {
	return api.Method{Name: name, Desc: desc, Abstract: true}
}

func static(name, desc string) api.Method {
	m := coded(name, desc)
	m.Static = true
	return m
}

func class(name, super string, ifaces []string, l ...api.Method) api.Class {
	return api.Class{Name: name, Super: super, Ifaces: ifaces, Abstract: true, Methods: l}
}

func iface(name string, ifaces []string, l ...api.Method) api.Class {
	return api.Class{Name: name, Iface: true, Abstract: true, Ifaces: ifaces, Methods: l}
}

// family is C below B below A; A is of I, B of J, and K is below J.
func family() api.Program {
	return api.Program{Classes: []api.Class{
		class("A", "", []string{"I"}, static("<clinit>", "()V"), coded("both", "()V"), coded("m", "()V"), abstract("open", "()V"), static("s", "()V"), static("turned", "()V")),
		class("B", "A", []string{"J"}, abstract("both", "()V"), coded("m", "(I)V"), coded("open", "()V"), coded("turned", "()V")),
		class("C", "B", nil, coded("m", "()V"), static("s", "(I)V"), static("open", "()V")),
		iface("I", nil, abstract("i", "()V"), abstract("m", "()V"), abstract("m", "()I"), abstract("ij", "()V")),
		iface("J", nil, abstract("ij", "()V"), abstract("j", "()V"), abstract("s", "()V")),
		iface("K", []string{"J"}, abstract("k", "()V")),
	}}
}

// fields is the same with fields.
func fields() api.Program {
	p := family()
	number, some := api.Type{Kind: api.Int}, api.Type{Kind: api.Ref, Class: "A"}
	p.Classes[0].Fields = []api.Field{{Name: "f", Type: number}, {Name: "g", Type: number, Static: true}, {Name: "h", Type: number}}
	p.Classes[1].Fields = []api.Field{{Name: "g", Type: some}, {Name: "m", Type: some}}
	p.Classes[2].Fields = []api.Field{{Name: "h", Type: some, Static: true}}
	// No interface has fields; one that has them is no Super.
	p.Classes[3].Fields = []api.Field{{Name: "i", Type: number}}
	return p
}

func ref(class, name, desc string) api.MethodRef {
	return api.MethodRef{Class: class, Name: name, Desc: desc}
}

// asked is a method that is asked for, and the class that it is found in; empty, if it is not.
type asked struct{ class, name, desc, want string }

type finder func(p api.Program, m api.MethodRef) (api.MethodRef, bool)

func dispatched(p api.Program, m api.MethodRef) (api.MethodRef, bool) {
	return Dispatch(p, m.Class, m.Name, m.Desc)
}

func begun(p api.Program, m api.MethodRef) (api.MethodRef, bool) {
	return Init(p, m.Class)
}

func checkFound(t *testing.T, p api.Program, find finder, l ...asked) {
	t.Helper()
	for _, a := range l {
		m, ok := find(p, ref(a.class, a.name, a.desc))
		want := ref(a.want, a.name, a.desc)
		if a.want == "" {
			want = api.MethodRef{}
		}
		if m != want || ok != (a.want != "") {
			t.Errorf("%s.%s%s: %v, %v", a.class, a.name, a.desc, m, ok)
		}
	}
}

// TestGet: P12.1, what a class itself declares.
func TestGet(t *testing.T) {
	p := family()
	for _, c := range p.Classes {
		for _, want := range c.Methods {
			if m, ok := Get(p, ref(c.Name, want.Name, want.Desc)); !ok || !reflect.DeepEqual(m, want) {
				t.Errorf("%s.%s%s: %v, %v", c.Name, want.Name, want.Desc, m, ok)
			}
		}
	}
	for _, r := range []api.MethodRef{
		{}, ref("Z", "m", "()V"), ref("", "m", "()V"), ref("A", "", ""), ref("A", "m", ""), ref("A", "m", "(I)V"), ref("B", "m", "()V"), ref("B", "s", "()V"), ref("A", "i", "()V"), ref("B", "<clinit>", "()V"),
	} {
		if m, ok := Get(p, r); ok || !reflect.DeepEqual(m, api.Method{}) {
			t.Errorf("%v: %v, %v", r, m, ok)
		}
	}
	if _, ok := Get(api.Program{}, api.MethodRef{}); ok {
		t.Error("nothing at all has a method")
	}
}

// TestGetOfTwo: P12.1, of several classes, methods and fields of one name the first ones count.
func TestGetOfTwo(t *testing.T) {
	p := api.Program{Classes: []api.Class{
		{Name: "A", Methods: []api.Method{{Name: "m", Regs: 1}, {Name: "m", Regs: 2}}, Fields: []api.Field{{Name: "f"}, {Name: "f", Static: true}}},
		{Name: "A", Methods: []api.Method{{Name: "m", Regs: 3}, {Name: "n"}}, Fields: []api.Field{{Name: "g"}}},
	}}
	if m, ok := Get(p, ref("A", "m", "")); !ok || m.Regs != 1 {
		t.Errorf("%v, %v", m, ok)
	}
	if f, ok := FieldOf(p, api.FieldRef{Class: "A", Name: "f"}); !ok || f.Static {
		t.Errorf("%v, %v", f, ok)
	}
	if m, ok := Get(p, ref("A", "n", "")); ok {
		t.Errorf("of the second class: %v", m)
	}
	if f, ok := FieldOf(p, api.FieldRef{Class: "A", Name: "g"}); ok {
		t.Errorf("of the second class: %v", f)
	}
}

// TestGetIsTheCallers: P3, what Get answers has memory of its own, and the program stays as it is.
func TestGetIsTheCallers(t *testing.T) {
	p := family()
	m, _ := Get(p, ref("A", "m", "()V"))
	m.Code[0].Args[0] = 7
	m.Code[0].Args = append(m.Code[0].Args[:1], 8)
	m.Code[1].Op = api.Nop
	_ = append(m.Code[:2], api.Instr{})
	if !reflect.DeepEqual(p, family()) {
		t.Errorf("%v", p.Classes[0])
	}
	if again, _ := Get(p, ref("A", "m", "()V")); !reflect.DeepEqual(again, coded("m", "()V")) {
		t.Errorf("asked again: %v", again)
	}
}

// TestFieldOf: P12.1, what a class itself declares.
func TestFieldOf(t *testing.T) {
	p := fields()
	for _, c := range p.Classes {
		for _, want := range c.Fields {
			if f, ok := FieldOf(p, api.FieldRef{Class: c.Name, Name: want.Name}); !ok || f != want {
				t.Errorf("%s.%s: %v, %v", c.Name, want.Name, f, ok)
			}
		}
	}
	for _, r := range []api.FieldRef{{}, {Class: "A"}, {Name: "f"}, {Class: "Z", Name: "f"}, {Class: "B", Name: "f"}, {Class: "A", Name: "m"}, {Class: "A", Name: "i"}, {Class: "C", Name: "g"}} {
		if f, ok := FieldOf(p, r); ok || f != (api.Field{}) {
			t.Errorf("%v: %v, %v", r, f, ok)
		}
	}
}

// TestField: P12.2, the first of a class's Supers that declares it, static or not.
func TestField(t *testing.T) {
	p := fields()
	for _, c := range []struct{ class, name, want string }{
		{"A", "f", "A"}, {"B", "f", "A"}, {"C", "f", "A"}, {"A", "g", "A"}, {"B", "g", "B"}, {"C", "g", "B"}, {"B", "h", "A"}, {"C", "h", "C"}, {"C", "m", "B"}, {"I", "i", "I"},
		{"A", "m", ""}, {"A", "i", ""}, {"C", "i", ""}, {"A", "", ""}, {"Z", "f", ""}, {"", "f", ""}, {"K", "i", ""},
	} {
		f, ok := Field(p, api.FieldRef{Class: c.class, Name: c.name})
		want := api.FieldRef{Class: c.want, Name: c.name}
		if c.want == "" {
			want = api.FieldRef{}
		}
		if f != want || ok != (c.want != "") {
			t.Errorf("%s.%s: %v, %v", c.class, c.name, f, ok)
		}
	}
}

// TestStatic: P12.2, the first of a class's Supers that declares it, if that is static.
func TestStatic(t *testing.T) {
	checkFound(t, family(), Static,
		asked{"A", "s", "()V", "A"}, asked{"B", "s", "()V", "A"}, asked{"C", "s", "()V", "A"}, asked{"C", "s", "(I)V", "C"}, asked{"B", "s", "(I)V", ""},
		asked{"A", "m", "()V", ""}, asked{"A", "open", "()V", ""}, asked{"C", "open", "()V", "C"},
		// What stands above one that is not static does not count.
		asked{"A", "turned", "()V", "A"}, asked{"B", "turned", "()V", ""}, asked{"C", "turned", "()V", ""},
		asked{"A", "<clinit>", "()V", "A"}, asked{"C", "<clinit>", "()V", "A"},
		asked{"I", "m", "()V", ""}, asked{"J", "s", "()V", ""}, asked{"Z", "s", "()V", ""}, asked{"", "", "", ""}, asked{"A", "s", "", ""}, asked{"A", "", "()V", ""},
	)
}

// TestVirtual: P12.3, the first of a class's Supers, then of its Ancestors, that declares it, if that is not static.
func TestVirtual(t *testing.T) {
	checkFound(t, family(), Virtual,
		asked{"A", "m", "()V", "A"}, asked{"B", "m", "()V", "A"}, asked{"C", "m", "()V", "C"}, asked{"A", "m", "(I)V", ""}, asked{"C", "m", "(I)V", "B"},
		asked{"A", "open", "()V", "A"}, asked{"B", "open", "()V", "B"}, asked{"C", "open", "()V", ""}, asked{"B", "both", "()V", "B"}, asked{"C", "both", "()V", "B"},
		asked{"A", "turned", "()V", ""}, asked{"C", "turned", "()V", "B"},
		asked{"A", "m", "()I", "I"}, asked{"C", "m", "()I", "I"}, asked{"A", "i", "()V", "I"}, asked{"B", "j", "()V", "J"}, asked{"A", "j", "()V", ""}, asked{"B", "ij", "()V", "I"},
		// What is static above hides what an interface has.
		asked{"B", "s", "()V", ""}, asked{"C", "s", "(I)V", ""},
		asked{"I", "m", "()V", "I"}, asked{"K", "k", "()V", "K"}, asked{"K", "ij", "()V", "J"}, asked{"K", "i", "()V", ""}, asked{"J", "s", "()V", "J"},
		asked{"A", "<clinit>", "()V", ""}, asked{"Z", "m", "()V", ""}, asked{"", "", "", ""}, asked{"A", "m", "", ""},
	)
	// Where the program is not of a piece: a beginning that is not static, and a class of Ifaces.
	odd := api.Program{Classes: []api.Class{
		class("A", "Z", []string{"D", "C", "Y"}, coded("<clinit>", "()V"), abstract("<clinit>", "()I")), class("B", "A", nil),
		class("D", "", nil, coded("m", "()V"), static("n", "()V")), class("C", "D", nil, static("m", "()V"), coded("n", "()V")),
	}}
	checkFound(t, odd, Virtual,
		asked{"A", "<clinit>", "()V", ""}, asked{"A", "<clinit>", "()I", ""}, asked{"B", "<clinit>", "()V", ""},
		asked{"B", "m", "()V", ""}, asked{"A", "m", "()V", ""}, asked{"B", "n", "()V", "C"}, asked{"D", "m", "()V", "D"}, asked{"C", "m", "()V", ""},
	)
}

// TestDispatch: P12.3, the first of a class's Supers that declares it, if that has code for objects.
func TestDispatch(t *testing.T) {
	checkFound(t, family(), dispatched,
		asked{"A", "m", "()V", "A"}, asked{"B", "m", "()V", "A"}, asked{"C", "m", "()V", "C"}, asked{"A", "m", "(I)V", ""}, asked{"C", "m", "(I)V", "B"},
		asked{"A", "open", "()V", ""}, asked{"B", "open", "()V", "B"}, asked{"C", "open", "()V", ""},
		// What stands above an abstract one does not count.
		asked{"A", "both", "()V", "A"}, asked{"B", "both", "()V", ""}, asked{"C", "both", "()V", ""},
		asked{"A", "turned", "()V", ""}, asked{"B", "turned", "()V", "B"}, asked{"C", "turned", "()V", "B"}, asked{"A", "s", "()V", ""}, asked{"B", "s", "()V", ""},
		asked{"A", "i", "()V", ""}, asked{"B", "j", "()V", ""}, asked{"I", "m", "()V", ""}, asked{"K", "ij", "()V", ""},
		asked{"A", "<clinit>", "()V", ""}, asked{"Z", "m", "()V", ""}, asked{"", "", "", ""}, asked{"A", "m", "", ""},
	)
	odd := api.Program{Classes: []api.Class{
		class("A", "I", nil, coded("<clinit>", "()V"), coded("<clinit>", "()I")), class("B", "C", nil), class("C", "B", nil, coded("m", "()V")),
		class("D", "B", []string{"I"}), {Name: "I", Iface: true, Methods: []api.Method{coded("n", "()V")}},
	}}
	checkFound(t, odd, dispatched,
		asked{"A", "<clinit>", "()V", ""}, asked{"A", "<clinit>", "()I", ""}, asked{"B", "m", "()V", "C"}, asked{"B", "n", "()V", ""}, asked{"D", "m", "()V", "C"},
		asked{"A", "n", "()V", "I"}, asked{"D", "n", "()V", ""}, asked{"I", "n", "()V", "I"},
	)
}

// TestInit: P12.3, a class's own beginning.
func TestInit(t *testing.T) {
	const name, desc = "<clinit>", "()V"
	p := family()
	p.Classes = append(p.Classes,
		class("D", "A", nil, coded(name, desc)), class("E", "A", nil, abstract(name, desc)), class("F", "A", nil, static(name, "()I")), class("G", "D", nil, static(name, "(I)V"), static(name, desc)),
		iface("L", nil, static(name, desc)), class("G", "D", nil), class("B", "A", nil, static(name, desc)), class("", "", nil, static(name, desc)),
	)
	checkFound(t, p, begun,
		asked{"A", name, desc, "A"}, asked{"B", name, desc, ""}, asked{"C", name, desc, ""}, asked{"D", name, desc, ""}, asked{"E", name, desc, ""}, asked{"F", name, desc, ""},
		asked{"G", name, desc, "G"}, asked{"L", name, desc, "L"}, asked{"I", name, desc, ""}, asked{"Z", name, desc, ""},
	)
	if m, ok := Init(p, ""); !ok || m != ref("", name, desc) {
		t.Errorf("a class without a name: %v, %v", m, ok)
	}
}

// programs is many programs that a fixed seed turns about: of few names, twice, not there, going round.
func programs() []api.Program {
	chance := rand.New(rand.NewSource(12))
	one := func(l ...string) string { return l[chance.Intn(len(l))] }
	method := func() api.Method {
		return api.Method{Name: one("m", "m", "n", "<clinit>"), Desc: one("()V", "()V", "()I"), Static: chance.Intn(4) == 0, Abstract: chance.Intn(3) == 0, Regs: chance.Intn(100)}
	}
	var l []api.Program
	for range 2000 {
		var p api.Program
		for range chance.Intn(8) {
			c := api.Class{Name: one("A", "B", "C", "D", "E"), Super: one("A", "B", "C", "D", "E", "", "Z"), Iface: chance.Intn(3) == 0}
			for range chance.Intn(3) {
				c.Ifaces = append(c.Ifaces, one("A", "B", "C", "D", "E", "Z"))
				c.Methods = append(c.Methods, method())
				c.Fields = append(c.Fields, api.Field{Name: one("m", "n", "f"), Type: api.Type{Kind: api.Kind(chance.Intn(6))}, Static: chance.Intn(2) == 0})
			}
			p.Classes = append(p.Classes, c)
		}
		l = append(l, p)
	}
	return l
}

// all is the methods that programs may be asked for.
func all() []api.MethodRef {
	var l []api.MethodRef
	for _, class := range []string{"A", "B", "C", "D", "E", "Z"} {
		for _, name := range []string{"m", "n", "<clinit>", ""} {
			l = append(l, ref(class, name, "()V"), ref(class, name, "()I"))
		}
	}
	return l
}

// TestFoundIsDeclared: P12.4, what is found is declared there, and the class that was asked is below it.
func TestFoundIsDeclared(t *testing.T) {
	count := 0
	for _, p := range programs() {
		for _, r := range all() {
			for _, find := range []finder{Static, Virtual, dispatched, begun} {
				if m, ok := find(p, r); ok {
					count++
					if _, is := Get(p, m); !is || !hier.Sub(p, r.Class, m.Class) {
						t.Fatalf("%v: %v: %+v", r, m, p)
					}
				}
			}
			if f, ok := Field(p, api.FieldRef{Class: r.Class, Name: r.Name}); ok {
				count++
				if _, is := FieldOf(p, f); !is || f.Name != r.Name || !hier.Sub(p, r.Class, f.Class) {
					t.Fatalf("%v: %v: %+v", r, f, p)
				}
			}
		}
	}
	if count < 10000 {
		t.Errorf("only %d are found", count)
	}
}

// TestOverriding: P12.5, a class's own code, or its Super's.
func TestOverriding(t *testing.T) {
	own, inherited := 0, 0
	for _, p := range programs() {
		for _, r := range all() {
			at := norm.Class(p, r.Class)
			if at == api.None || r.Name == api.InitName {
				continue
			}
			m, ok := dispatched(p, r)
			super := ref(p.Classes[at].Super, r.Name, r.Desc)
			declared, is := Get(p, r)
			if is && !declared.Static && !declared.Abstract {
				own++
				if !ok || m != r {
					t.Fatalf("%v: %v, %v: %+v", r, m, ok, p)
				}
			}
			if above, has := dispatched(p, super); !is && norm.Class(p, super.Class) != api.None {
				inherited++
				if m != above || ok != has {
					t.Fatalf("%v: %v, %v: %+v", r, m, ok, p)
				}
			}
		}
	}
	if own < 1000 || inherited < 1000 {
		t.Errorf("only %d, %d", own, inherited)
	}
}

// TestDispatchIsVirtual: P12.6, what Dispatch finds Virtual finds, too.
func TestDispatchIsVirtual(t *testing.T) {
	for _, p := range programs() {
		for _, r := range all() {
			if m, ok := dispatched(p, r); ok {
				if v, is := Virtual(p, r); !is || v != m {
					t.Fatalf("%v: %v, %v: %+v", r, m, v, p)
				}
			}
		}
	}
}

// TestOnAll: P12.2, P12.3, held against what is gone through otherwise: from the last one on, what stands nearer counts.
func TestOnAll(t *testing.T) {
	for _, p := range programs() {
		for _, r := range all() {
			supers := hier.Supers(p, r.Class)
			every := slices.Concat(supers, hier.Ancestors(p, r.Class))
			named := r.Name != api.InitName
			checkNearest(t, p, r, Static, supers, func(m api.Method) bool { return m.Static })
			checkNearest(t, p, r, Virtual, every, func(m api.Method) bool { return named && !m.Static })
			checkNearest(t, p, r, dispatched, supers, func(m api.Method) bool { return named && !m.Static && !m.Abstract })
			if t.Failed() {
				t.Fatalf("%+v", p)
			}
		}
	}
}

// checkNearest checks that a finder tells the nearest one that is declared, if it may be that.
func checkNearest(t *testing.T, p api.Program, r api.MethodRef, find finder, names []string, may func(api.Method) bool) {
	t.Helper()
	var want api.MethodRef
	is := false
	for _, name := range slices.Backward(names) {
		if m, ok := Get(p, ref(name, r.Name, r.Desc)); ok {
			if want, is = (api.MethodRef{}), may(m); is {
				want = ref(name, r.Name, r.Desc)
			}
		}
	}
	if m, ok := find(p, r); m != want || ok != is {
		t.Errorf("%v: %v, %v, not %v, %v", r, m, ok, want, is)
	}
}

// TestNothingIsTouched: P3, what is handed in stays as it is.
func TestNothingIsTouched(t *testing.T) {
	p := fields()
	for _, r := range all() {
		for _, find := range []finder{Static, Virtual, dispatched, begun} {
			find(p, r)
		}
		Get(p, r)
		Field(p, api.FieldRef{Class: r.Class, Name: r.Name})
		FieldOf(p, api.FieldRef{Class: r.Class, Name: r.Name})
	}
	if !reflect.DeepEqual(p, fields()) {
		t.Errorf("%+v", p)
	}
}
