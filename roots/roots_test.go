package roots

import (
	"reflect"
	"slices"
	"strings"
	"testing"

	"secateur/api"
	"secateur/norm"
)

// ruled reads rules, a comma between each two: names ahead of one that has Names; then the patterns of the class, and (of members) of Name and Desc.
func ruled(s string) []api.Rule {
	var l []api.Rule
	for one := range strings.SplitSeq(s, ",") {
		one, names := strings.CutPrefix(strings.TrimSpace(one), "names ")
		switch f := strings.Fields(one); len(f) {
		case 1:
			l = append(l, api.Rule{Names: names, Class: f[0]})
		case 3:
			l = append(l, api.Rule{Names: names, Member: true, Class: f[0], Name: f[1], Desc: f[2]})
		}
	}
	return l
}

// roots reads what rules are of: texts with blanks between, a field as its class and name, a method as its class, name and descriptor, with commas between.
func roots(classes, fields, methods, classNames, fieldNames, methodNames, lookups string) api.Roots {
	r := api.Roots{
		Classes: strings.Fields(classes), ClassNames: strings.Fields(classNames), FieldNames: strings.Fields(fieldNames),
		MethodNames: strings.Fields(methodNames), Lookups: strings.Fields(lookups),
	}
	for _, f := range strings.Fields(fields) {
		l := strings.Split(f, ",")
		r.Fields = append(r.Fields, api.FieldRef{Class: l[0], Name: l[1]})
	}
	for _, m := range strings.Fields(methods) {
		l := strings.Split(m, ",")
		r.Methods = append(r.Methods, api.MethodRef{Class: l[0], Name: l[1], Desc: l[2]})
	}
	return r
}

func checkOf(t *testing.T, p api.Program, s string, want api.Roots) {
	t.Helper()
	if got := Of(p, ruled(s)); !Same(got, want) || !alike(got, want) {
		t.Errorf("%s: %+v, not %+v", s, got, want)
	}
}

// lists is the seven lists of roots, each member as a text.
func lists(r api.Roots) [7][]string {
	l := [7][]string{r.Classes, nil, nil, r.ClassNames, r.FieldNames, r.MethodNames, r.Lookups}
	for _, f := range r.Fields {
		l[1] = append(l[1], f.Class+"\x00"+f.Name)
	}
	for _, m := range r.Methods {
		l[2] = append(l[2], m.Class+"\x00"+m.Name+"\x00"+m.Desc)
	}
	return l
}

// alike tells by all lists whether two are the same.
func alike(a, b api.Roots) bool {
	l, m := lists(a), lists(b)
	for i := range l {
		if !slices.Equal(l[i], m[i]) {
			return false
		}
	}
	return true
}

func typed(name string, t api.Type) api.Field {
	return api.Field{Name: name, Type: t}
}

func coded(name, desc string) api.Method {
	return api.Method{Name: name, Desc: desc, Regs: 8, Code: []api.Instr{{Op: api.Nop}, {Op: api.End}}}
}

func static(name, desc string) api.Method {
	m := coded(name, desc)
	m.Static = true
	return m
}

func abstract(name, desc string) api.Method {
	return api.Method{Name: name, Desc: desc, Abstract: true}
}

var integer, ints = api.Type{Kind: api.Int}, api.Type{Kind: api.Ints}

// family is B below A, which is of I; and a/C. It is as programs are written (norm.Right).
func family() api.Program {
	return api.Program{Classes: []api.Class{
		{Name: "A", Ifaces: []string{"I"}, Fields: []api.Field{
			typed("f", integer), typed("g", api.Type{Kind: api.Ref, Class: "B"}), {Name: "s", Type: ints, Static: true},
		}, Methods: []api.Method{static("<clinit>", "()V"), coded("get", "()I"), coded("m", "()V"), coded("m", "(I)V"), static("main", "()V"), static("make", "()I")}},
		{Name: "B", Super: "A", Fields: []api.Field{
			typed("f", api.Type{Kind: api.Refs, Class: "A"}), typed("m", integer),
		}, Methods: []api.Method{coded("m", "()V"), static("make", "()I"), static("make", "(I)I")}},
		{Name: "I", Iface: true, Abstract: true, Methods: []api.Method{abstract("get", "()I"), abstract("m", "()V")}},
		{Name: "a/C", Abstract: true, Methods: []api.Method{static("<clinit>", "()V"), abstract("get", "()I")}},
	}, Names: []string{"Z", "Z.m", "A.get"}, Entry: api.MethodRef{Class: "A", Name: "main", Desc: "()V"}}
}

func TestFamily(t *testing.T) {
	if e := norm.Right(family()); e != api.OK {
		t.Error(e)
	}
}

// TestOfClasses: P23.1, the classes that rules are of, and what may be looked up by them.
func TestOfClasses(t *testing.T) {
	p := family()
	for _, c := range []struct{ rules, classes, names string }{
		{"", "", ""},
		{"A", "A", ""}, {"names A", "A", "A"}, {"B,A", "A B", ""}, {"names B,A", "A B", "B"}, {"A,names A", "A", "A"}, {"names A,A,A", "A", "A"},
		{"*", "A B I a/C", ""}, {"names *", "A B I a/C", "A B I a/C"}, {"?", "A B I", ""}, {"a/*", "a/C", ""}, {"*,names a/*", "A B I a/C", "a/C"}, {"names *,A", "A B I a/C", "A B I a/C"},
		// What the program does not have.
		{"Z", "", ""}, {"a", "", ""}, {"AB,names Z*", "", ""}, {"C", "", ""},
	} {
		checkOf(t, p, c.rules, roots(c.classes, "", "", c.names, "", "", c.classes))
		checkOf(t, api.Program{Names: []string{"A"}, Entry: p.Entry}, c.rules, api.Roots{})
	}
}

// TestOfFields: P23.1, the fields that rules are of, by their types' texts; their classes, but not those classes' names.
func TestOfFields(t *testing.T) {
	p := family()
	for _, c := range []struct{ rules, classes, fields, names string }{
		{"A f I", "A", "A,f", ""}, {"names A f I", "A", "A,f", "f"}, {"A f V", "", "", ""}, {"A f [I", "", "", ""},
		{"* f *", "A B", "A,f B,f", ""}, {"* f I", "A", "A,f", ""}, {"* * I", "A B", "A,f B,m", ""}, {"* * [I", "A", "A,s", ""}, {"* * LB;", "A", "A,g", ""}, {"* * [LA;", "B", "B,f", ""}, {"* * L*", "A", "A,g", ""}, {"* * *;", "A B", "A,g B,f", ""},
		{"? ? ?", "A B", "A,f B,m", ""},
		// A class has no fields of those above it.
		{"B g *", "", "", ""}, {"B s *", "", "", ""},
		// Names are of those that a rule with Names is of, each once.
		{"* f *,names B f *", "A B", "A,f B,f", "f"}, {"names * f *", "A B", "A,f B,f", "f"}, {"* f I,names A s *,names A g *", "A", "A,f A,g A,s", "g s"}, {"names B m I,A s *", "A B", "A,s B,m", "m"},
	} {
		checkOf(t, p, c.rules, roots(c.classes, c.fields, "", "", c.names, "", c.classes))
	}
}

// TestOfMethods: P23.1, the methods that rules are of; their classes, but not those classes' names; those of Static and "()I" may be looked up.
func TestOfMethods(t *testing.T) {
	p := family()
	for _, c := range []struct{ rules, classes, methods, names, lookups string }{
		{"A m ()V", "A", "A,m,()V", "", ""}, {"names A m ()V", "A", "A,m,()V", "m()V", ""}, {"A m (*)V", "A", "A,m,()V A,m,(I)V", "", ""}, {"names * m ()V", "A B I", "A,m,()V B,m,()V I,m,()V", "m()V", ""},
		{"A m ()I", "", "", "", ""}, {"B m (I)V", "", "", "", ""}, {"B get ()I", "", "", "", ""}, {"a/C m *", "", "", "", ""},
		// Objects' methods, and abstract ones, are not looked up, nor are those of other descriptors.
		{"* get *", "A I a/C", "A,get,()I I,get,()I a/C,get,()I", "", ""}, {"A main *", "A", "A,main,()V", "", ""}, {"B make (I)I", "B", "B,make,(I)I", "", ""},
		{"A make *", "A", "A,make,()I", "", "A.make"}, {"names B make *", "B", "B,make,()I B,make,(I)I", "make()I make(I)I", "B.make"}, {"* * ()I", "A B I a/C", "A,get,()I A,make,()I B,make,()I I,get,()I a/C,get,()I", "", "A.make B.make"},
		// The method by which a class is initialised is none's.
		{"A <clinit> ()V", "", "", "", ""}, {"* <* *", "", "", "", ""}, {"a/C * ()V", "", "", "", ""},
		// Names are of those that a rule with Names is of.
		{"A m *,names A m (I)V", "A", "A,m,()V A,m,(I)V", "m(I)V", ""}, {"* m ()V,names B m ()V", "A B I", "A,m,()V B,m,()V I,m,()V", "m()V", ""}, {"names A make ()I,B make ()I", "A B", "A,make,()I B,make,()I", "make()I", "A.make B.make"},
	} {
		want := roots(c.classes, "", c.methods, "", "", c.names, "")
		want.Lookups = slices.Sorted(slices.Values(append(strings.Fields(c.lookups), want.Classes...)))
		checkOf(t, p, c.rules, want)
	}
}

// TestOfAll: P23.1, rules of classes, fields and methods at once; what is told by texts alone is not mixed up.
func TestOfAll(t *testing.T) {
	checkOf(t, family(), "names A,* m *,names B make ()I,a/C,names A s [I,I,B f *",
		roots("A B I a/C", "A,s B,f B,m", "A,m,()V A,m,(I)V B,m,()V B,make,()I I,m,()V", "A", "s", "make()I", "A B B.make I a/C"))
	checkOf(t, family(), "names * * *", roots("A B I a/C", "A,f A,g A,s B,f B,m",
		"A,get,()I A,m,()V A,m,(I)V A,main,()V A,make,()I B,m,()V B,make,()I B,make,(I)I I,get,()I I,m,()V a/C,get,()I",
		"", "f g m s", "get()I m()V m(I)V main()V make()I make(I)I", "A A.make B B.make I a/C"))
	// A rule of a class is of no member, and one that can't be of nothing.
	none := []api.Rule{{}, {Names: true}, {Class: "*", Name: "*", Desc: "*"}, {Names: true, Member: true, Class: "*"}, {Member: true, Class: "*", Name: "*", Desc: strings.Repeat("*", api.MaxString+1)}, {Class: "A "}}
	if got := Of(family(), none); !alike(got, api.Roots{}) {
		t.Errorf("%+v", got)
	}
	checkOf(t, family(), "*", roots("A B I a/C", "", "", "", "", "", "A B I a/C"))
}

// TestOfRises: P23.1, each list rises, each once, however the program stands: Fields by Class, then Name; Methods by Class, Name, Desc.
func TestOfRises(t *testing.T) {
	p := api.Program{Classes: []api.Class{
		{Name: "b", Fields: []api.Field{typed("f", integer), typed("a", integer)}, Methods: []api.Method{static("a$", "()I"), static("a", "()I"), static("a", "(I)V"), static("a", "()V")}},
		{Name: "a/", Fields: []api.Field{typed("a", integer)}, Methods: []api.Method{static("a", "()I")}},
		{Name: "a", Fields: []api.Field{typed("z", integer), typed("f$", integer), typed("f", integer), typed("F", integer)}, Methods: []api.Method{static("z", "()I"), static("b", "()I")}},
		{Name: "B"}, {Name: "aa", Fields: []api.Field{typed("a", integer)}}, {Name: "A"},
	}}
	checkOf(t, p, "names *,names * * *,names *", roots("A B a a/ aa b", "a,F a,f a,f$ a,z a/,a aa,a b,a b,f",
		"a,b,()I a,z,()I a/,a,()I b,a,()I b,a,()V b,a,(I)V b,a$,()I", "A B a a/ aa b", "F a f f$ z",
		// By the text as a whole: $ stands ahead of (.
		"a$()I a()I a()V a(I)V b()I z()I", "A B a a.b a.z a/ a/.a aa b b.a b.a$"))
}

// TestOfTwo: P23.1, of several classes, fields and methods of one name the first ones count.
func TestOfTwo(t *testing.T) {
	second := static("m", "()I")
	p := api.Program{Classes: []api.Class{
		{Name: "A", Fields: []api.Field{typed("f", integer), typed("f", ints)}, Methods: []api.Method{coded("m", "()I"), second}},
		{Name: "A", Fields: []api.Field{typed("f", ints), typed("g", integer)}, Methods: []api.Method{second, coded("n", "()V")}},
		{Name: "B", Methods: []api.Method{second, coded("m", "()I")}},
	}}
	checkOf(t, p, "names *", roots("A B", "", "", "A B", "", "", "A B"))
	checkOf(t, p, "names A * *", roots("A", "A,f", "A,m,()I", "", "f", "m()I", "A"))
	checkOf(t, p, "* f I", roots("A", "A,f", "", "", "", "", "A"))
	checkOf(t, p, "* f [I", api.Roots{})
	checkOf(t, p, "* g *", api.Roots{})
	checkOf(t, p, "* n *", api.Roots{})
	checkOf(t, p, "B m *", roots("B", "", "B,m,()I", "", "", "", "B B.m"))
	// A class may have the name of what is looked up.
	p.Classes = append(p.Classes, api.Class{Name: "B.m"})
	checkOf(t, p, "B m *,B.m", roots("B B.m", "", "B,m,()I", "", "", "", "B B.m"))
}

// TestOfNoPiece: P23.1, where names are none, and types can't be: of such a field the type's text is empty.
func TestOfNoPiece(t *testing.T) {
	p := api.Program{Classes: []api.Class{
		{Fields: []api.Field{{}, typed("\xff", api.Type{Kind: api.Void})}, Methods: []api.Method{{}, {Name: " ", Desc: "()I", Static: true, Abstract: true}}},
		{Name: "*", Fields: []api.Field{typed("f", api.Type{Kind: api.Int, Class: "A"}), typed("<clinit>", integer)}},
	}}
	want := api.Roots{
		Classes: []string{"", "*"}, Fields: []api.FieldRef{{}, {Name: "\xff"}, {Class: "*", Name: "f"}}, Methods: []api.MethodRef{{}, {Name: " ", Desc: "()I"}},
		ClassNames: []string{"", "*"}, FieldNames: []string{"", "f", "\xff"}, MethodNames: []string{"", " ()I"}, Lookups: []string{"", "*", ". "},
	}
	checkOf(t, p, "names * * *,names *", want)
	checkOf(t, p, "* * V", api.Roots{Classes: []string{""}, Fields: []api.FieldRef{{Name: "\xff"}}, Lookups: []string{""}})
	checkOf(t, p, "* * ?*,? f *", api.Roots{
		Classes: []string{"", "*"}, Fields: []api.FieldRef{{Name: "\xff"}, {Class: "*", Name: "f"}}, Methods: []api.MethodRef{{Name: " ", Desc: "()I"}}, Lookups: []string{"", "*", ". "},
	})
}

func checkExact(t *testing.T, r api.Roots, want string) {
	t.Helper()
	if got := Exact(family(), r); !slices.Equal(got, ruled(want)) {
		t.Errorf("%+v: %+v, not %s", r, got, want)
	}
}

// TestExact: P23.2, a rule of each class, then of each field, by its type's text, then of each method; with Names, if its name is one of those.
func TestExact(t *testing.T) {
	checkExact(t, api.Roots{}, "")
	checkExact(t, roots("A a/C", "", "", "", "", "", "A a/C"), "A,a/C")
	checkExact(t, roots("A a/C", "", "", "a/C", "", "", ""), "A,names a/C")
	checkExact(t, roots("A B", "A,f A,g A,s B,f", "", "", "", "", ""), "A,B,A f I,A g LB;,A s [I,B f [LA;")
	checkExact(t, roots("A B", "A,f A,s B,f", "", "B", "f", "", ""), "A,names B,names A f I,A s [I,names B f [LA;")
	checkExact(t, roots("", "", "A,m,()V A,m,(I)V B,m,()V", "", "", "m()V", ""), "names A m ()V,A m (I)V,names B m ()V")
	checkExact(t, roots("A", "A,f B,m", "A,m,()V A,make,()I", "A", "m", "make()I", "A A.make"), "names A,A f I,names B m I,A m ()V,names A make ()I")
	// Names of one kind are none of another one.
	checkExact(t, roots("A", "B,m", "B,m,()V", "m m()V", "A B m()V", "A m B", "A m"), "A,B m I,B m ()V")
	checkExact(t, roots("", "", "", "A", "f", "m()V", "A A.make"), "")
	checkExact(t, roots("m", "", "f,m,()V", "f", "m", "m m() f()V", ""), "m,f m ()V")
	// Of each one, as they stand.
	checkExact(t, roots("B A B", "B,m A,f B,m", "B,m,()V A,m,()V B,m,()V", "B", "f", "", ""), "names B,A,names B,B m I,names A f I,B m I,B m ()V,A m ()V,B m ()V")
}

// TestExactNone: P23.2, of what the program does not have, too; of a field that it does not declare there is no type's text.
func TestExactNone(t *testing.T) {
	r := roots("Z", "Z,f B,s A,z", "Z,m,()I B,get,()I", "Z", "s", "m()I", "")
	want := []api.Rule{
		{Names: true, Class: "Z"},
		{Member: true, Class: "Z", Name: "f"}, {Names: true, Member: true, Class: "B", Name: "s"}, {Member: true, Class: "A", Name: "z"},
		{Names: true, Member: true, Class: "Z", Name: "m", Desc: "()I"}, {Member: true, Class: "B", Name: "get", Desc: "()I"},
	}
	if got := Exact(family(), r); !slices.Equal(got, want) {
		t.Errorf("%+v", got)
	}
	two := api.Program{Classes: []api.Class{{Name: "A", Fields: []api.Field{typed("f", integer), typed("f", ints), typed("v", api.Type{Kind: 7})}}, {Name: "A", Fields: []api.Field{typed("g", integer)}}}}
	want = []api.Rule{{Member: true, Class: "A", Name: "f", Desc: "I"}, {Member: true, Class: "A", Name: "g"}, {Member: true, Class: "A", Name: "v"}}
	if got := Exact(two, roots("", "A,f A,g A,v", "", "", "", "", "")); !slices.Equal(got, want) {
		t.Errorf("%+v", got)
	}
}

// full is roots of which no list is empty.
func full() api.Roots {
	return roots("A B", "A,f B,f", "A,m,()V B,m,()I", "A C", "f g", "m()I m()V", "A B.m")
}

// changed is roots with one list after the other as a change makes it, beside what they were.
func changed(r api.Roots, change func(l []string) []string) []api.Roots {
	var l []api.Roots
	for i := range 5 {
		one := r
		list := []*[]string{&one.Classes, &one.ClassNames, &one.FieldNames, &one.MethodNames, &one.Lookups}[i]
		*list = change(slices.Clone(*list))
		l = append(l, one)
	}
	return l
}

// TestSame: P23.2, all alike, list by list.
func TestSame(t *testing.T) {
	r := full()
	empty := api.Roots{Classes: []string{}, Fields: []api.FieldRef{}, Methods: []api.MethodRef{}, ClassNames: []string{}, FieldNames: []string{}, MethodNames: []string{}, Lookups: []string{}}
	if !Same(r, full()) || !Same(api.Roots{}, api.Roots{}) || !Same(empty, api.Roots{}) || !Same(api.Roots{}, empty) || Same(r, empty) {
		t.Error("what is alike")
	}
	other := slices.Concat(
		changed(r, func(l []string) []string { return l[:1] }),
		changed(r, func(l []string) []string { return append(l, "Z") }),
		changed(r, func(l []string) []string { return append(l, l[1]) }),
		changed(r, func(l []string) []string { return []string{l[1], l[0]} }),
		changed(r, func(l []string) []string { return []string{l[0], l[1] + "$"} }),
		changed(r, func(l []string) []string { return nil }),
	)
	for _, fields := range []string{"", "A,f", "A,f C,f", "A,f B,g", "B,f A,f", "A,f B,f B,f"} {
		one := r
		one.Fields = roots("", fields, "", "", "", "", "").Fields
		other = append(other, one)
	}
	for _, methods := range []string{"", "A,m,()V", "A,m,()V C,m,()I", "A,m,()V B,n,()I", "A,m,()V B,m,()V", "B,m,()I A,m,()V", "A,m,()V B,m,()I B,m,()I"} {
		one := r
		one.Methods = roots("", "", methods, "", "", "", "").Methods
		other = append(other, one)
	}
	for _, one := range other {
		if Same(one, r) || Same(r, one) || !Same(one, one) {
			t.Errorf("%+v", one)
		}
	}
}

// TestWithin: P23.2, each member of each list of one is in that of the other one, wherever it stands, and however often.
func TestWithin(t *testing.T) {
	r := full()
	if !Within(r, r) || !Within(api.Roots{}, r) || Within(r, api.Roots{}) || !Within(api.Roots{}, api.Roots{}) {
		t.Error("what is whole, and what is empty")
	}
	var less, more, moved []api.Roots
	less = slices.Concat(changed(r, func(l []string) []string { return l[1:] }), changed(r, func(l []string) []string { return l[:1] }), changed(r, func(l []string) []string { return nil }))
	more = slices.Concat(changed(r, func(l []string) []string { return append(l, "Z") }), changed(r, func(l []string) []string { return []string{"Z", l[0]} }))
	moved = slices.Concat(changed(r, func(l []string) []string { return []string{l[1], l[0], l[1]} }))
	with := func(fields, methods string) api.Roots {
		one := r
		one.Fields, one.Methods = roots("", fields, "", "", "", "", "").Fields, roots("", "", methods, "", "", "", "").Methods
		return one
	}
	const f, m = "A,f B,f", "A,m,()V B,m,()I"
	less = append(less, with("", m), with("A,f", m), with("B,f", m), with(f, ""), with(f, "A,m,()V"), with(f, "B,m,()I"))
	more = append(more, with(f+" C,f", m), with("A,g", m), with("A,f B,g", m), with(f, m+" C,m,()V"), with(f, "A,n,()V"), with(f, "A,m,()I"), with(f, "B,m,()I B,m,()V"))
	moved = append(moved, with("B,f A,f B,f", m), with(f, "B,m,()I A,m,()V A,m,()V"))
	for _, one := range less {
		if !Within(one, r) || Within(r, one) {
			t.Errorf("less: %+v", one)
		}
	}
	for _, one := range more {
		if Within(one, r) {
			t.Errorf("more: %+v", one)
		}
	}
	for _, one := range moved {
		if !Within(one, r) || !Within(r, one) {
			t.Errorf("moved: %+v", one)
		}
	}
}

// TestKeeps: P3, what is handed in stays, spare room too; what is answered is the caller's.
func TestKeeps(t *testing.T) {
	p := family()
	room := ruled("* m *,names A,names * * *,B,names * make *,a/*")
	l := room[:4]
	r, same := Of(p, l), Of(p, l)
	rules := Exact(p, r)
	if !Same(r, same) || !Within(r, same) || !slices.Equal(room, ruled("* m *,names A,names * * *,B,names * make *,a/*")) || !reflect.DeepEqual(p, family()) {
		t.Fatalf("%+v %+v", room, p)
	}
	if !reflect.DeepEqual(r, same) || !slices.Equal(rules, Exact(p, same)) {
		t.Fatalf("%+v", r)
	}
	for _, list := range [][]string{r.Classes, r.ClassNames, r.FieldNames, r.MethodNames, r.Lookups} {
		for i := range list[:cap(list)] {
			list[:cap(list)][i] = "changed"
		}
	}
	for i := range r.Fields {
		r.Fields[i] = api.FieldRef{}
	}
	for i := range r.Methods {
		r.Methods[i] = api.MethodRef{}
	}
	if !slices.Equal(r.Lookups, slices.Repeat([]string{"changed"}, len(r.Lookups))) || !Same(Of(p, l), same) || !slices.Equal(Exact(p, same), rules) || !reflect.DeepEqual(p, family()) {
		t.Fatalf("%+v", Of(p, l))
	}
}
