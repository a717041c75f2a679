package roots

import (
	"maps"
	"math/rand"
	"slices"
	"strings"
	"testing"

	"secateur/api"
	"secateur/glob"
	"secateur/kind"
	"secateur/norm"
)

// long is a text of so many bytes, told apart from others by its last one.
func long(size int, last string) string {
	return strings.Repeat("x", size-1) + last
}

// maker makes programs and rules, by a fixed seed.
type maker struct{ *rand.Rand }

func (m maker) one(l ...string) string {
	return l[m.Intn(len(l))]
}

func (m maker) class() string {
	return m.one("A", "B", "a/B", "a/C", "$", long(api.MaxName, "A"), long(api.MaxName, "B"))
}

func (m maker) name() string {
	return m.one("m", "m", "n", "f", "m$", "get", long(api.MaxName, "m"), "<clinit>")
}

func (m maker) kind() api.Type {
	t := api.Type{Kind: api.Int + api.Kind(m.Intn(4))}
	if t.Kind == api.Ref || t.Kind == api.Refs {
		t.Class = m.class()
	}
	return t
}

func (m maker) desc() string {
	return m.one("()V", "()I", "()I", "(I)V", "()LA;", "(L"+long(api.MaxName, "A")+";"+strings.Repeat("[I", 6)+"[LA;"+")[LB;")
}

// program is one of these names, not in order, and of some of them twice.
func (m maker) program() api.Program {
	var p api.Program
	for range m.Intn(6) {
		c := api.Class{Name: m.class(), Abstract: true}
		for range m.Intn(5) {
			c.Fields = append(c.Fields, api.Field{Name: m.name(), Type: m.kind(), Static: m.Intn(2) == 0})
		}
		for range m.Intn(6) {
			c.Methods = append(c.Methods, m.method())
		}
		p.Classes = append(p.Classes, c)
	}
	return p
}

func (m maker) method() api.Method {
	name, desc := m.name(), m.desc()
	switch m.Intn(3) {
	case 0:
		return static(name, desc)
	case 1:
		return abstract(name, desc)
	}
	return coded(name, desc)
}

// right is a program as it is written, of what another one has.
func right(p api.Program) api.Program {
	p = norm.Sorted(p)
	p.Classes = slices.CompactFunc(p.Classes, func(a, b api.Class) bool { return a.Name == b.Name })
	for i := range p.Classes {
		c := &p.Classes[i]
		c.Fields = slices.DeleteFunc(c.Fields, func(f api.Field) bool { return f.Name == api.InitName })
		c.Fields = slices.CompactFunc(c.Fields, func(a, b api.Field) bool { return a.Name == b.Name })
		c.Methods = slices.DeleteFunc(c.Methods, func(m api.Method) bool { return m.Name == api.InitName && (!m.Static || m.Desc != "()V") })
		c.Methods = slices.CompactFunc(c.Methods, func(a, b api.Method) bool { return a.Name == b.Name && a.Desc == b.Desc })
		for j := range c.Methods {
			if !c.Methods[j].Abstract {
				c.Methods[j].Regs = 10
			}
		}
	}
	return p
}

func (m maker) rules(most int) []api.Rule {
	var l []api.Rule
	for range m.Intn(most + 1) {
		r := api.Rule{Names: m.Intn(2) == 0, Class: m.one(m.class(), m.class(), "*", "*", "a/*", "?")}
		if m.Intn(3) > 0 {
			r.Member, r.Name, r.Desc = true, m.one(m.name(), m.name(), "*", "*", "m*"), m.one(m.desc(), kind.Text(m.kind()), "*", "*", "*", "()?", "[*")
		}
		if m.Intn(20) == 0 {
			r.Name = m.one("", " ", "*")
		}
		l = append(l, r)
	}
	return l
}

// reckoned is what rules are of by the chapter's words alone, a rule and a member after the other.
func reckoned(p api.Program, l []api.Rule) api.Roots {
	classes, classNames, fieldNames, methodNames, lookups := map[string]int{}, map[string]int{}, map[string]int{}, map[string]int{}, map[string]int{}
	fields, methods := map[api.FieldRef]int{}, map[api.MethodRef]int{}
	for _, r := range l {
		for i, c := range p.Classes {
			if norm.Class(p, c.Name) != i || !glob.Right(r.Class) || !glob.Match(r.Class, c.Name) {
				continue
			}
			if !r.Member {
				if r.Name == "" && r.Desc == "" {
					classes[c.Name]++
					if r.Names {
						classNames[c.Name]++
					}
				}
				continue
			}
			is := func(name, desc string) bool {
				return glob.Right(r.Name) && glob.Right(r.Desc) && glob.Match(r.Name, name) && glob.Match(r.Desc, desc) && name != "<clinit>"
			}
			for j, f := range c.Fields {
				if norm.Field(c, f.Name) == j && is(f.Name, kind.Text(f.Type)) {
					classes[c.Name]++
					fields[api.FieldRef{Class: c.Name, Name: f.Name}]++
					if r.Names {
						fieldNames[f.Name]++
					}
				}
			}
			for j, m := range c.Methods {
				if norm.Method(c, m.Name, m.Desc) == j && is(m.Name, m.Desc) {
					classes[c.Name]++
					methods[api.MethodRef{Class: c.Name, Name: m.Name, Desc: m.Desc}]++
					if r.Names {
						methodNames[m.Name+m.Desc]++
					}
					if m.Static && m.Desc == "()I" {
						lookups[c.Name+"."+m.Name]++
					}
				}
			}
		}
	}
	maps.Copy(lookups, classes)
	return api.Roots{
		Classes: slices.Sorted(maps.Keys(classes)), ClassNames: slices.Sorted(maps.Keys(classNames)), FieldNames: slices.Sorted(maps.Keys(fieldNames)),
		MethodNames: slices.Sorted(maps.Keys(methodNames)), Lookups: slices.Sorted(maps.Keys(lookups)),
		Fields: slices.SortedFunc(maps.Keys(fields), func(a, b api.FieldRef) int {
			return strings.Compare(a.Class+"\x00"+a.Name, b.Class+"\x00"+b.Name)
		}),
		Methods: slices.SortedFunc(maps.Keys(methods), func(a, b api.MethodRef) int {
			return strings.Compare(a.Class+"\x00"+a.Name+"\x00"+a.Desc, b.Class+"\x00"+b.Name+"\x00"+b.Desc)
		}),
	}
}

// many calls for many programs, every second one as it is written, with rules.
func many(seed int64, check func(m maker, p api.Program, l []api.Rule)) {
	m := maker{rand.New(rand.NewSource(seed))}
	for i := range 6000 {
		p := m.program()
		if i%2 == 0 {
			p = right(p)
		}
		check(m, p, m.rules(6))
	}
}

// TestOfMany: P23.1, of many programs and rules.
func TestOfMany(t *testing.T) {
	var has [7]int
	many(231, func(m maker, p api.Program, l []api.Rule) {
		got, want := Of(p, l), reckoned(p, l)
		if !alike(got, want) {
			t.Fatalf("%+v of %+v: %+v, not %+v", l, p, got, want)
		}
		for i, list := range lists(got) {
			has[i] += len(list)
		}
	})
	for i, n := range has {
		if n < 1000 {
			t.Errorf("list %d has %d in all", i, n)
		}
	}
}

// TestMore: P23.3, what rules are of is Within what those and others are of; their order does not matter.
func TestMore(t *testing.T) {
	more := 0
	many(232, func(m maker, p api.Program, l []api.Rule) {
		r, whole := Of(p, l), slices.Concat(l, m.rules(3))
		if !Within(r, Of(p, whole)) {
			t.Fatalf("%+v and %+v of %+v: %+v, %+v", l, whole, p, r, Of(p, whole))
		}
		if !Within(Of(p, whole), r) {
			more++
		}
		moved := slices.Clone(whole)
		m.Shuffle(len(moved), func(i, j int) { moved[i], moved[j] = moved[j], moved[i] })
		if !alike(Of(p, moved), Of(p, whole)) || !Same(Of(p, slices.Concat(moved, moved)), Of(p, whole)) {
			t.Fatalf("%+v and %+v of %+v", whole, moved, p)
		}
	})
	if more < 500 {
		t.Errorf("%d times there is more", more)
	}
}

// TestExactAgain: P23.4, Of of Exact of Of is Of; each of these rules can be, and there is one of each class and member.
func TestExactAgain(t *testing.T) {
	named := 0
	many(233, func(m maker, p api.Program, l []api.Rule) {
		r := Of(p, l)
		exact := Exact(p, r)
		if again := Of(p, exact); !alike(again, r) || !Same(again, r) {
			t.Fatalf("%+v of %+v: %+v, but %+v by %+v", l, p, r, again, exact)
		}
		if len(exact) != len(r.Classes)+len(r.Fields)+len(r.Methods) {
			t.Fatalf("%+v: %+v", r, exact)
		}
		for _, one := range exact {
			if one.Names {
				named++
			}
		}
	})
	if named < 1000 {
		t.Errorf("%d rules have names", named)
	}
}

// TestClassesOfMembers: P23.5, each class of Fields and Methods is one of Classes; each of Lookups is a class of these, or a method's.
func TestClassesOfMembers(t *testing.T) {
	methods := 0
	many(234, func(m maker, p api.Program, l []api.Rule) {
		r := Of(p, l)
		for _, f := range r.Fields {
			if !slices.Contains(r.Classes, f.Class) {
				t.Fatalf("%+v: %+v", f, r)
			}
		}
		may := slices.Clone(r.Classes)
		for _, one := range r.Methods {
			may = append(may, one.Class+"."+one.Name)
			if !slices.Contains(r.Classes, one.Class) {
				t.Fatalf("%+v: %+v", one, r)
			}
		}
		for _, text := range r.Lookups {
			if !slices.Contains(may, text) {
				t.Fatalf("%s: %+v", text, r)
			}
		}
		methods += len(r.Lookups) - len(r.Classes)
	})
	if methods < 500 {
		t.Errorf("%d methods may be looked up", methods)
	}
}

// TestRightPrograms: every second of the programs is as programs are written, so that the promises are asked of such, too.
func TestRightPrograms(t *testing.T) {
	i, classes := 0, 0
	many(235, func(m maker, p api.Program, l []api.Rule) {
		if e := norm.Right(p); i%2 == 0 && e != api.OK {
			t.Fatalf("%v: %+v", e, p)
		}
		i++
		classes += len(p.Classes)
	})
	if classes < 4000 {
		t.Errorf("%d classes", classes)
	}
}

// TestWild: P1, P5, at any programs, rules and roots: each call ends, and answers the same again.
func TestWild(t *testing.T) {
	m := maker{rand.New(rand.NewSource(236))}
	text := func() string {
		return m.one("", "A", "*", "?", "m", "()I", "I", "\xff", " ", "<clinit>", "A.m", long(api.MaxString+1, "*"))
	}
	roots := func() api.Roots {
		var r api.Roots
		for range m.Intn(6) {
			for _, list := range []*[]string{&r.Classes, &r.ClassNames, &r.FieldNames, &r.MethodNames, &r.Lookups} {
				*list = append(*list, text())
			}
			r.Fields = append(r.Fields, api.FieldRef{Class: text(), Name: text()})
			r.Methods = append(r.Methods, api.MethodRef{Class: text(), Name: text(), Desc: text()})
		}
		return r
	}
	inside, apart := 0, 0
	for range 5000 {
		var p api.Program
		var l []api.Rule
		for range m.Intn(5) {
			p.Classes = append(p.Classes, api.Class{Name: text(), Fields: []api.Field{{Name: text(), Type: api.Type{Kind: api.Kind(m.Intn(9) - 2), Class: text()}}}, Methods: []api.Method{{Name: text(), Desc: text(), Static: m.Intn(2) == 0}}})
			l = append(l, api.Rule{Names: m.Intn(2) == 0, Member: m.Intn(2) == 0, Class: text(), Name: text(), Desc: text()})
		}
		r, other := roots(), roots()
		if m.Intn(3) == 0 {
			other = both(r, other)
		}
		if !alike(Of(p, l), reckoned(p, l)) || !alike(Of(p, l), Of(p, l)) {
			t.Fatalf("%+v of %+v: %+v", l, p, Of(p, l))
		}
		if exact := Exact(p, r); len(exact) != len(r.Classes)+len(r.Fields)+len(r.Methods) || !slices.Equal(exact, Exact(p, r)) {
			t.Fatalf("%+v: %+v", r, exact)
		}
		if Same(r, other) != alike(r, other) || Within(r, other) != within7(r, other) {
			t.Fatalf("%+v and %+v", r, other)
		}
		if Within(r, other) {
			inside++
		} else {
			apart++
		}
	}
	if inside < 1000 || apart < 1000 {
		t.Errorf("%d within, %d not", inside, apart)
	}
}

// both is what one has behind what another one has.
func both(a, b api.Roots) api.Roots {
	return api.Roots{
		Classes: slices.Concat(b.Classes, a.Classes), Fields: slices.Concat(b.Fields, a.Fields), Methods: slices.Concat(b.Methods, a.Methods), ClassNames: slices.Concat(b.ClassNames, a.ClassNames),
		FieldNames: slices.Concat(b.FieldNames, a.FieldNames), MethodNames: slices.Concat(b.MethodNames, a.MethodNames), Lookups: slices.Concat(b.Lookups, a.Lookups),
	}
}

// within7 tells by all seven lists whether one is within another one.
func within7(a, b api.Roots) bool {
	l, m := lists(a), lists(b)
	for i := range l {
		for _, text := range l[i] {
			if !slices.Contains(m[i], text) {
				return false
			}
		}
	}
	return true
}
