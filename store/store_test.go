package store

import (
	"math"
	"reflect"
	"slices"
	"strings"
	"testing"

	"secateur/api"
	"secateur/kind"
)

// The types that can be.
var (
	typeVoid = api.Type{Kind: api.Void}
	typeInt  = api.Type{Kind: api.Int}
	typeA    = api.Type{Kind: api.Ref, Class: "A"}
	typeInts = api.Type{Kind: api.Ints}
	typeAs   = api.Type{Kind: api.Refs, Class: "A"}
)

func number(n int64) api.Value {
	return api.Value{Kind: api.Number, N: n}
}

func pointer(n int64) api.Value {
	return api.Value{Kind: api.Pointer, N: n}
}

func ref(class, name string) api.FieldRef {
	return api.FieldRef{Class: class, Name: name}
}

// world is B below A, C below B, abstract, D below C; B has a field of the name that one of A has, and one that is static in A. E has none.
func world() api.Program {
	return api.Program{Classes: []api.Class{
		{Name: "A", Ifaces: []string{"I"}, Fields: []api.Field{{Name: "f", Type: typeInt}, {Name: "g", Type: typeA}, {Name: "s", Type: typeInt, Static: true}}},
		{Name: "B", Super: "A", Fields: []api.Field{{Name: "a", Type: typeInts}, {Name: "f", Type: typeAs}, {Name: "s", Type: typeInt}}},
		{Name: "C", Super: "B", Abstract: true, Fields: []api.Field{{Name: "c", Type: typeInt}}},
		{Name: "D", Super: "C", Fields: []api.Field{{Name: "t", Type: typeInts, Static: true}}},
		{Name: "E"},
		{Name: "I", Iface: true, Abstract: true},
	}}
}

// fieldsOf is the fields of an object of a class of world, with their first values.
func fieldsOf(class string) ([]api.FieldRef, []api.Value) {
	all := []api.FieldRef{ref("A", "f"), ref("A", "g"), ref("B", "a"), ref("B", "f"), ref("B", "s"), ref("C", "c")}
	values := []api.Value{number(0), pointer(0), pointer(0), pointer(0), number(0), number(0)}
	size := map[string]int{"A": 2, "B": 5, "D": 6}[class]
	return all[:size], values[:size]
}

func checkNew(t *testing.T, what string, got int64, trap api.Trap, want int64) {
	t.Helper()
	if got != want || trap != api.NoTrap {
		t.Errorf("%s: %d, %d, not %d", what, got, trap, want)
	}
}

func checkTrap(t *testing.T, what string, got, want api.Trap) {
	t.Helper()
	if got != want {
		t.Errorf("%s: %d, not %d", what, got, want)
	}
}

// checkNone checks a trap, and that nothing comes with it.
func checkNone(t *testing.T, what string, got int64, trap, want api.Trap) {
	t.Helper()
	checkTrap(t, what, trap, want)
	if got != 0 {
		t.Errorf("%s: with a trap there is %d", what, got)
	}
}

func checkValue(t *testing.T, what string, got api.Value, trap api.Trap, want api.Value) {
	t.Helper()
	if got != want || trap != api.NoTrap {
		t.Errorf("%s: %v, %d, not %v", what, got, trap, want)
	}
}

func checkNoValue(t *testing.T, what string, got api.Value, trap, want api.Trap) {
	t.Helper()
	checkTrap(t, what, trap, want)
	if got != (api.Value{}) {
		t.Errorf("%s: with a trap there is %v", what, got)
	}
}

// some is a store of 1: an object of A, 2: of D, 3: of E, 4: an array of two numbers, 5: of three references, 6: of nothing.
func some(t *testing.T) *Store {
	t.Helper()
	s := New()
	for _, class := range []string{"A", "D", "E"} {
		if _, trap := s.Make(world(), class); trap != api.NoTrap {
			t.Fatalf("%s: %d", class, trap)
		}
	}
	for n, of := range []api.Type{typeInts, typeAs, typeAs} {
		if _, trap := s.Array(of, []int64{2, 3, 0}[n]); trap != api.NoTrap {
			t.Fatalf("%v: %d", of, trap)
		}
	}
	return s
}

// TestNew: P18.1, there are no objects.
func TestNew(t *testing.T) {
	for what, s := range map[string]*Store{"new": New(), "as it is": {}} {
		if s == nil || s.Len() != 0 || s.Class(1) != "" || len(s.Fields(1)) > 0 || len(s.Items(1)) > 0 {
			t.Errorf("%s: %+v", what, s)
		}
		v, trap := s.Get(1, ref("A", "f"))
		checkNoValue(t, what, v, trap, api.TrapWrong)
		n, trap := s.Make(world(), "A")
		checkNew(t, what, n, trap, 1)
	}
	// One is not another one.
	one, other := New(), New()
	one.Make(world(), "A")
	if other.Len() != 0 {
		t.Errorf("another one has %d", other.Len())
	}
}

// TestZero: P18.1, a type's value at first.
func TestZero(t *testing.T) {
	for _, c := range []struct {
		t    api.Type
		want api.Value
	}{
		{typeInt, number(0)}, {typeA, pointer(0)}, {typeInts, pointer(0)}, {typeAs, pointer(0)}, {typeVoid, api.Value{}}, {api.Type{}, api.Value{}},
		{api.Type{Kind: -1}, api.Value{}}, {api.Type{Kind: api.Refs + 1}, api.Value{}}, {api.Type{Kind: math.MaxInt, Class: "A"}, api.Value{}}, {api.Type{Class: "A"}, api.Value{}}, {api.Type{Kind: api.Ref, Class: "Z"}, pointer(0)},
	} {
		if got := Zero(c.t); got != c.want {
			t.Errorf("%v: %v, not %v", c.t, got, c.want)
		}
	}
}

// TestMake: P18.1, objects have a value for each field that is not static, of all classes above, told by these.
func TestMake(t *testing.T) {
	s := New()
	for i, class := range []string{"A", "B", "D", "E", "A"} {
		n, trap := s.Make(world(), class)
		checkNew(t, class, n, trap, int64(i+1))
		fields, values := fieldsOf(class)
		if got := s.Fields(n); !slices.Equal(got, fields) {
			t.Errorf("%s: %v, not %v", class, got, fields)
		}
		for at, f := range fields {
			v, trap := s.Get(n, f)
			checkValue(t, class+" "+f.Class+"."+f.Name, v, trap, values[at])
		}
	}
}

// TestMakeOfNone: P18.1, there are no objects of what has none.
func TestMakeOfNone(t *testing.T) {
	s := New()
	for _, class := range []string{"C", "I", "Z", "", "AA", "[I"} {
		n, trap := s.Make(world(), class)
		checkNone(t, class, n, trap, api.TrapWrong)
	}
	n, trap := s.Make(api.Program{}, "A")
	checkNone(t, "without classes", n, trap, api.TrapWrong)
	if s.Len() != 0 {
		t.Errorf("%d are there", s.Len())
	}
}

// TestMakeOfNoPiece: P18.1, also where programs are not of a piece.
func TestMakeOfNoPiece(t *testing.T) {
	p := api.Program{Classes: []api.Class{
		{Name: "B", Super: "A", Fields: []api.Field{{Name: "z", Type: typeInt}, {Name: "v", Type: typeVoid}, {Name: "a", Type: api.Type{Kind: 9}}}},
		{Name: "A", Super: "B", Fields: []api.Field{{Name: "z", Type: typeA}}},
		{Name: "B", Abstract: true, Fields: []api.Field{{Name: "b", Type: typeInt}}},
		{Name: "C", Super: "Z", Ifaces: []string{"A"}, Fields: []api.Field{{Name: "", Type: typeInt}, {Name: "", Type: typeA}}},
		{Fields: []api.Field{{Name: "\xff", Type: typeInt}}},
	}}
	s := New()
	for i, c := range []struct {
		class string
		want  []api.FieldRef
	}{
		{"B", []api.FieldRef{ref("A", "z"), ref("B", "a"), ref("B", "v"), ref("B", "z")}},
		{"A", []api.FieldRef{ref("A", "z"), ref("B", "a"), ref("B", "v"), ref("B", "z")}},
		{"C", []api.FieldRef{ref("C", "")}},
		{"", []api.FieldRef{ref("", "\xff")}},
	} {
		n, trap := s.Make(p, c.class)
		checkNew(t, c.class, n, trap, int64(i+1))
		if got := s.Fields(n); !slices.Equal(got, c.want) || s.Class(n) != c.class {
			t.Errorf("%q: %v, not %v", c.class, got, c.want)
		}
	}
	v, trap := s.Get(1, ref("B", "v"))
	checkValue(t, "of no type", v, trap, api.Value{})
	checkTrap(t, "a number for no type", s.Put(1, ref("B", "v"), number(0)), api.TrapWrong)
	checkTrap(t, "none for a number", s.Put(1, ref("B", "z"), api.Value{}), api.TrapWrong)
	checkTrap(t, "of two of one name the first one", s.Put(3, ref("C", ""), number(1)), api.NoTrap)
}

// TestArray: P18.1, arrays have so many elements.
func TestArray(t *testing.T) {
	s := New()
	i := int64(0)
	for _, of := range []api.Type{typeInts, typeAs, {Kind: api.Refs, Class: "Z"}} {
		for _, size := range []int64{0, 1, 2, api.MaxArray} {
			i++
			n, trap := s.Array(of, size)
			checkNew(t, kind.Text(of), n, trap, i)
			first := pointer(0)
			if of == typeInts {
				first = number(0)
			}
			if got := s.Items(n); !slices.Equal(got, slices.Repeat([]api.Value{first}, int(size))) {
				t.Errorf("%v of %d: %v", of, size, got)
			}
		}
	}
}

// TestArrayOfNone: P18.1, what is no array, and lengths that may not be.
func TestArrayOfNone(t *testing.T) {
	s := New()
	for _, of := range []api.Type{typeVoid, typeInt, typeA, {}, {Kind: -1}, {Kind: api.Refs + 1}, {Kind: math.MaxInt}, {Class: "A"}} {
		for _, size := range []int64{2, 0, -1, api.MaxArray + 1} {
			n, trap := s.Array(of, size)
			checkNone(t, "no array", n, trap, api.TrapWrong)
		}
	}
	for _, of := range []api.Type{typeInts, typeAs} {
		for _, size := range []int64{-1, api.MaxArray + 1, math.MinInt64, math.MaxInt64, 1 << 32} {
			n, trap := s.Array(of, size)
			checkNone(t, "no length", n, trap, api.TrapSize)
		}
	}
	if s.Len() != 0 {
		t.Errorf("%d are there", s.Len())
	}
}

// TestFull: P18.1, there are MaxHeap objects, and no more, of whatever sort; what else is wrong is told ahead of that.
func TestFull(t *testing.T) {
	s := New()
	for i := range int64(api.MaxHeap) {
		make := func() (int64, api.Trap) { return s.Make(world(), "B") }
		if i%3 == 0 {
			make = func() (int64, api.Trap) { return s.Array(typeAs, 1) }
		}
		n, trap := make()
		checkNew(t, "one more", n, trap, i+1)
	}
	for range 2 {
		n, trap := s.Make(world(), "A")
		checkNone(t, "an object", n, trap, api.TrapHeap)
		n, trap = s.Array(typeInts, 0)
		checkNone(t, "an array", n, trap, api.TrapHeap)
		n, trap = s.Make(world(), "C")
		checkNone(t, "of no class", n, trap, api.TrapWrong)
		n, trap = s.Array(typeInt, -1)
		checkNone(t, "no array", n, trap, api.TrapWrong)
		n, trap = s.Array(typeInts, -1)
		checkNone(t, "no length", n, trap, api.TrapSize)
		n, trap = s.Array(typeInts, api.MaxArray+1)
		checkNone(t, "too long", n, trap, api.TrapSize)
		if s.Len() != api.MaxHeap || s.Class(api.MaxHeap) == "" || s.Class(api.MaxHeap+1) != "" {
			t.Errorf("%d are there", s.Len())
		}
	}
}

// strangers is numbers of no object of some, but 0.
var strangers = []int64{-1, 7, 8, math.MinInt64, math.MaxInt64, 1 << 32, -1 << 32, 1<<32 + 1}

// TestClass: P18.2, of which class objects are, and how many there are.
func TestClass(t *testing.T) {
	s := some(t)
	for i, want := range []string{"", "A", "D", "E", "[I", "[LA;", "[LA;"} {
		if got := s.Class(int64(i)); got != want {
			t.Errorf("%d: %q, not %q", i, got, want)
		}
	}
	for _, n := range strangers {
		if got := s.Class(n); got != "" {
			t.Errorf("%d: %q", n, got)
		}
	}
	if s.Len() != 6 {
		t.Errorf("%d are there", s.Len())
	}
}

// TestGet: P18.2, fields are told by the class that has them.
func TestGet(t *testing.T) {
	s := some(t)
	checkTrap(t, "Put", s.Put(2, ref("A", "f"), number(5)), api.NoTrap)
	checkTrap(t, "Put", s.Put(2, ref("B", "f"), pointer(6)), api.NoTrap)
	for _, c := range []struct {
		at   int64
		f    api.FieldRef
		want api.Value
	}{
		{1, ref("A", "f"), number(0)}, {1, ref("A", "g"), pointer(0)}, {2, ref("A", "f"), number(5)}, {2, ref("A", "g"), pointer(0)}, {2, ref("B", "f"), pointer(6)}, {2, ref("C", "c"), number(0)},
	} {
		v, trap := s.Get(c.at, c.f)
		checkValue(t, c.f.Class+"."+c.f.Name, v, trap, c.want)
	}
	for _, f := range []api.FieldRef{{}, ref("A", "s"), ref("A", "z"), ref("B", "f"), ref("", "f"), ref("Z", "f"), ref("a", "f")} {
		v, trap := s.Get(1, f)
		checkNoValue(t, f.Class+"."+f.Name, v, trap, api.TrapWrong)
		checkTrap(t, f.Class+"."+f.Name, s.Put(1, f, number(1)), api.TrapWrong)
	}
	for _, f := range []api.FieldRef{ref("D", "f"), ref("D", "t"), ref("D", "c"), ref("A", "s"), ref("B", "g")} {
		v, trap := s.Get(2, f)
		checkNoValue(t, f.Class+"."+f.Name, v, trap, api.TrapWrong)
	}
}

// TestGetOfNone: P18.2, of no object, of none of that number, and of an array.
func TestGetOfNone(t *testing.T) {
	s := some(t)
	for _, f := range []api.FieldRef{ref("A", "f"), ref("Z", "z"), {}} {
		v, trap := s.Get(0, f)
		checkNoValue(t, "no object", v, trap, api.TrapNil)
		checkTrap(t, "no object", s.Put(0, f, number(1)), api.TrapNil)
		checkTrap(t, "no object, no value", s.Put(0, f, api.Value{}), api.TrapNil)
		for _, n := range append([]int64{3, 4, 5, 6}, strangers...) {
			v, trap := s.Get(n, f)
			checkNoValue(t, "none", v, trap, api.TrapWrong)
			checkTrap(t, "none", s.Put(n, f, number(1)), api.TrapWrong)
		}
	}
}

// odd is values of no kind that there is.
var odd = []api.Value{{}, {N: 1}, {Kind: -1}, {Kind: api.Pointer + 1, N: 1}, {Kind: math.MaxInt}}

// TestPut: P18.2, a value fits by its Kind alone.
func TestPut(t *testing.T) {
	s := some(t)
	numbers := []api.Value{number(0), number(1), number(-1), number(math.MinInt64), number(math.MaxInt64)}
	pointers := []api.Value{pointer(0), pointer(1), pointer(6), pointer(77), pointer(-1), pointer(math.MaxInt64)}
	for _, c := range []struct {
		f         api.FieldRef
		fits, not []api.Value
	}{
		{ref("A", "f"), numbers, pointers}, {ref("B", "s"), numbers, pointers}, {ref("A", "g"), pointers, numbers}, {ref("B", "a"), pointers, numbers}, {ref("B", "f"), pointers, numbers},
	} {
		for _, v := range c.fits {
			checkTrap(t, c.f.Class+"."+c.f.Name, s.Put(2, c.f, v), api.NoTrap)
			got, trap := s.Get(2, c.f)
			checkValue(t, c.f.Class+"."+c.f.Name, got, trap, v)
		}
		was, _ := s.Get(2, c.f)
		for _, v := range slices.Concat(c.not, odd) {
			checkTrap(t, c.f.Class+"."+c.f.Name, s.Put(2, c.f, v), api.TrapWrong)
			got, trap := s.Get(2, c.f)
			checkValue(t, c.f.Class+"."+c.f.Name, got, trap, was)
		}
	}
}

// TestSize: P18.3, how many elements an array has.
func TestSize(t *testing.T) {
	s := some(t)
	for at, want := range map[int64]int64{4: 2, 5: 3, 6: 0} {
		n, trap := s.Size(at)
		checkNew(t, "an array", n, trap, want)
	}
	n, trap := s.Size(0)
	checkNone(t, "no object", n, trap, api.TrapNil)
	for _, at := range append([]int64{1, 2, 3}, strangers...) {
		n, trap := s.Size(at)
		checkNone(t, "no array", n, trap, api.TrapWrong)
	}
}

// TestLoad: P18.3, elements are told by their places.
func TestLoad(t *testing.T) {
	s := some(t)
	checkTrap(t, "Save", s.Save(4, 1, number(7)), api.NoTrap)
	checkTrap(t, "Save", s.Save(5, 0, pointer(2)), api.NoTrap)
	for at, want := range map[int64][]api.Value{4: {number(0), number(7)}, 5: {pointer(2), pointer(0), pointer(0)}, 6: nil} {
		for i, first := range want {
			v, trap := s.Load(at, int64(i))
			checkValue(t, "an element", v, trap, first)
		}
		for _, i := range []int64{int64(len(want)), int64(len(want)) + 1, -1, math.MinInt64, math.MaxInt64, 1 << 32, -1 << 32} {
			v, trap := s.Load(at, i)
			checkNoValue(t, "no element", v, trap, api.TrapBound)
			checkTrap(t, "no element", s.Save(at, i, number(1)), api.TrapBound)
			checkTrap(t, "no element, no value", s.Save(at, i, api.Value{}), api.TrapBound)
		}
		if got := s.Items(at); !slices.Equal(got, want) {
			t.Errorf("%d: %v, not %v", at, got, want)
		}
	}
}

// TestLoadOfNone: P18.3, of no object, of none of that number, and of an object.
func TestLoadOfNone(t *testing.T) {
	s := some(t)
	for _, i := range []int64{0, 1, -1, 99} {
		v, trap := s.Load(0, i)
		checkNoValue(t, "no object", v, trap, api.TrapNil)
		checkTrap(t, "no object", s.Save(0, i, api.Value{}), api.TrapNil)
		for _, at := range append([]int64{1, 2, 3}, strangers...) {
			v, trap := s.Load(at, i)
			checkNoValue(t, "no array", v, trap, api.TrapWrong)
			checkTrap(t, "no array", s.Save(at, i, number(1)), api.TrapWrong)
			checkTrap(t, "no array", s.Save(at, i, pointer(1)), api.TrapWrong)
		}
	}
}

// TestSave: P18.3, a value fits by its Kind alone.
func TestSave(t *testing.T) {
	s := some(t)
	numbers := []api.Value{number(0), number(1), number(math.MinInt64), number(math.MaxInt64)}
	pointers := []api.Value{pointer(0), pointer(1), pointer(5), pointer(77), pointer(-1)}
	for _, c := range []struct {
		at        int64
		fits, not []api.Value
	}{{4, numbers, pointers}, {5, pointers, numbers}} {
		for _, v := range c.fits {
			checkTrap(t, "it fits", s.Save(c.at, 1, v), api.NoTrap)
			got, trap := s.Load(c.at, 1)
			checkValue(t, "an element", got, trap, v)
		}
		was := s.Items(c.at)
		for _, v := range slices.Concat(c.not, odd) {
			checkTrap(t, "it does not fit", s.Save(c.at, 1, v), api.TrapWrong)
			if got := s.Items(c.at); !slices.Equal(got, was) {
				t.Errorf("%d: %v, not %v", c.at, got, was)
			}
		}
	}
}

// TestFields: P18.3, fields by Class, of one by Name; none of what is no object.
func TestFields(t *testing.T) {
	p := api.Program{Classes: []api.Class{
		{Name: "C", Super: "A", Fields: []api.Field{{Name: "b", Type: typeInt}, {Name: "a", Type: typeInt}, {Name: "B", Type: typeInt}}},
		{Name: "A", Super: "a", Fields: []api.Field{{Name: "z", Type: typeInt}, {Name: "zz", Type: typeInt}}},
		{Name: "a", Super: "AB", Fields: []api.Field{{Name: "a", Type: typeInt}}},
		{Name: "AB", Fields: []api.Field{{Name: "A", Type: typeInt}}},
	}}
	s := New()
	s.Make(p, "C")
	want := []api.FieldRef{ref("A", "z"), ref("A", "zz"), ref("AB", "A"), ref("C", "B"), ref("C", "a"), ref("C", "b"), ref("a", "a")}
	for range 20 {
		if got := s.Fields(1); !slices.Equal(got, want) {
			t.Fatalf("%v", got)
		}
	}
	s = some(t)
	for _, at := range append([]int64{0, 3, 4, 5, 6}, strangers...) {
		if got := s.Fields(at); len(got) > 0 {
			t.Errorf("%d: %v", at, got)
		}
	}
	for _, at := range append([]int64{0, 1, 2, 3, 6}, strangers...) {
		if got := s.Items(at); len(got) > 0 {
			t.Errorf("%d: %v", at, got)
		}
	}
}

// TestNil: P18.3, a nil store.
func TestNil(t *testing.T) {
	var s *Store
	n, trap := s.Make(world(), "A")
	checkNone(t, "Make", n, trap, api.TrapWrong)
	n, trap = s.Make(api.Program{}, "")
	checkNone(t, "Make of none", n, trap, api.TrapWrong)
	for _, of := range []api.Type{typeInts, typeAs, typeInt} {
		for _, size := range []int64{0, 1, -1} {
			n, trap = s.Array(of, size)
			checkNone(t, "Array", n, trap, api.TrapWrong)
		}
	}
	if s.Len() != 0 {
		t.Errorf("Len: %d", s.Len())
	}
	for _, at := range append([]int64{0, 1, 2}, strangers...) {
		v, trap := s.Get(at, ref("A", "f"))
		checkNoValue(t, "Get", v, trap, api.TrapWrong)
		checkTrap(t, "Put", s.Put(at, ref("A", "f"), number(1)), api.TrapWrong)
		n, trap := s.Size(at)
		checkNone(t, "Size", n, trap, api.TrapWrong)
		v, trap = s.Load(at, 0)
		checkNoValue(t, "Load", v, trap, api.TrapWrong)
		checkTrap(t, "Save", s.Save(at, 0, number(1)), api.TrapWrong)
		if s.Class(at) != "" || len(s.Fields(at)) > 0 || len(s.Items(at)) > 0 {
			t.Errorf("%d: %q, %v, %v", at, s.Class(at), s.Fields(at), s.Items(at))
		}
	}
}

// TestNothingIsTouched: P3, what is handed in stays as it is and is not looked at later; what is answered is the caller's.
func TestNothingIsTouched(t *testing.T) {
	p, s := world(), New()
	s.Make(p, "D")
	if !reflect.DeepEqual(p, world()) {
		t.Errorf("%+v", p)
	}
	p.Classes[0].Name, p.Classes[0].Fields[0].Name, p.Classes = "Z", "z", nil
	want, _ := fieldsOf("D")
	fields := s.Fields(1)
	for at := range fields {
		fields[at] = ref("Z", "z")
	}
	if got := s.Fields(1); !slices.Equal(got, want) || s.Class(1) != "D" {
		t.Errorf("%v", got)
	}
	s.Array(typeInts, 3)
	items := s.Items(2)
	items[0] = pointer(9)
	_ = append(items[:1], number(8))
	if got := s.Items(2); !slices.Equal(got, slices.Repeat([]api.Value{number(0)}, 3)) {
		t.Errorf("%v", got)
	}
	was := s.Items(2)
	s.Save(2, 1, number(4))
	if !slices.Equal(was, slices.Repeat([]api.Value{number(0)}, 3)) {
		t.Errorf("what was answered is now %v", was)
	}
}

// TestOtherPrograms: P18.2, an object has what it was made with, whatever program others are made of.
func TestOtherPrograms(t *testing.T) {
	s := New()
	s.Make(world(), "A")
	other := api.Program{Classes: []api.Class{{Name: "A", Fields: []api.Field{{Name: "f", Type: typeA}}}}}
	s.Make(other, "A")
	checkTrap(t, "a number", s.Put(1, ref("A", "f"), number(1)), api.NoTrap)
	checkTrap(t, "a reference", s.Put(2, ref("A", "f"), pointer(1)), api.NoTrap)
	if n := strings.Join([]string{s.Class(1), s.Class(2)}, " "); n != "A A" {
		t.Error(n)
	}
}
