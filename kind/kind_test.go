package kind

import (
	"math/rand"
	"regexp"
	"slices"
	"strings"
	"testing"

	"secateur/api"
)

// The chapter's words, as patterns.
const (
	classText = `[A-Za-z0-9_$/]{1,32}`
	paramText = `(?:I|\[I|\[?L` + classText + `;)`
	answer    = `(?:V|` + paramText + `)`
)

var (
	aType       = regexp.MustCompile(`^` + answer + `$`)
	aDescriptor = regexp.MustCompile(`^\(` + paramText + `*\)` + answer + `$`)
	aParameter  = regexp.MustCompile(paramText)
)

// of is a type, ref and refs are those of a class.
func of(k api.Kind) api.Type        { return api.Type{Kind: k} }
func ref(class string) api.Type     { return api.Type{Kind: api.Ref, Class: class} }
func refs(class string) api.Type    { return api.Type{Kind: api.Refs, Class: class} }
func some(l ...api.Type) []api.Type { return l }

// long is a class's name of so many letters.
func long(size int) string {
	return strings.Repeat("x", size)
}

// times is a list of n times a type.
func times(n int, t api.Type) []api.Type {
	return slices.Repeat(some(t), n)
}

// known is types that can be, and their texts.
func known() []struct {
	t    api.Type
	text string
} {
	return []struct {
		t    api.Type
		text string
	}{
		{of(api.Void), "V"},
		{of(api.Int), "I"},
		{of(api.Ints), "[I"},
		{ref("A"), "LA;"},
		{ref("a/B"), "La/B;"},
		{ref("/"), "L/;"},
		{ref("L"), "LL;"},
		{ref("I"), "LI;"},
		{ref("$_9"), "L$_9;"},
		{ref(long(32)), "L" + long(32) + ";"},
		{refs("A"), "[LA;"},
		{refs("a/B"), "[La/B;"},
		{refs("V"), "[LV;"},
		{refs(long(32)), "[L" + long(32) + ";"},
	}
}

// wrong is types that can't be.
func wrong() []api.Type {
	l := some(
		of(api.NoKind), of(api.Ref), of(api.Refs), of(-1), of(6), of(1<<62), of(-1<<63),
		ref(long(33)), refs(long(33)), ref("a.B"), refs("a B"), ref("A;"), refs("[A"), ref("<clinit>"), ref("\u00e4"), ref("A\n"), refs("(A)"),
	)
	for _, k := range []api.Kind{api.NoKind, api.Void, api.Int, api.Ints, 6, -1} {
		l = append(l, api.Type{Kind: k, Class: "A"}, api.Type{Kind: k, Class: " "})
	}
	return l
}

// P6.1
func TestRightAsWritten(t *testing.T) {
	for _, k := range known() {
		if !Right(k.t) {
			t.Errorf("%v can't be", k.t)
		}
	}
	for _, w := range wrong() {
		if Right(w) {
			t.Errorf("%v can be", w)
		}
	}
}

// P6.1
func TestIsRefAsWritten(t *testing.T) {
	for k := api.Kind(-3); k < 10; k++ {
		want := k == api.Ref || k == api.Ints || k == api.Refs
		for _, class := range []string{"", "A"} {
			if got := IsRef(api.Type{Kind: k, Class: class}); got != want {
				t.Errorf("IsRef of %d, %q: %v", k, class, got)
			}
		}
	}
}

// P6.1
func TestElementAsWritten(t *testing.T) {
	for _, c := range []struct{ t, want api.Type }{
		{of(api.Ints), of(api.Int)},
		{refs("A"), ref("A")},
		{refs("a/B"), ref("a/B")},
		{api.Type{Kind: api.Ints, Class: "A"}, of(api.Int)},
		{api.Type{}, api.Type{}},
		{of(api.Void), api.Type{}},
		{of(api.Int), api.Type{}},
		{ref("A"), api.Type{}},
		{of(6), api.Type{}},
		{of(-1), api.Type{}},
	} {
		if got := Element(c.t); got != c.want {
			t.Errorf("Element(%v) = %v, not %v", c.t, got, c.want)
		}
	}
}

// P6.1
func TestTextAsWritten(t *testing.T) {
	for _, k := range known() {
		if s := Text(k.t); s != k.text {
			t.Errorf("Text(%v) = %q, not %q", k.t, s, k.text)
		}
	}
	for _, w := range wrong() {
		if s := Text(w); s != "" {
			t.Errorf("Text(%v) = %q", w, s)
		}
	}
}

// P6.1
func TestParseAsWritten(t *testing.T) {
	for _, k := range known() {
		if got, e := Parse(k.text); got != k.t || e != api.OK {
			t.Errorf("Parse(%q) = %v, %d, not %v", k.text, got, e, k.t)
		}
	}
	for _, s := range []string{
		"", " ", "v", "i", "VV", "IV", "II", "V ", " I", "I;", "V;", "Z", "0",
		"[", "[V", "[[I", "[[LA;", "[I;", "[II", "[I[I", "[ I", "]I",
		"L", "L;", "LA", "LA;;", "LA;I", "LA;LB;", "L A;", "La.B;", "LA\n;", "LA;\n", "L\u00e4;", "L<clinit>;", "lA;", "A;", ";",
		"[L", "[L;", "[LA", "[LA;;", "[L[A;", "L[A;", "[LA;V", "L" + long(33) + ";", "[L" + long(33) + ";", "L" + long(70000), "L" + long(70000) + ";",
		"()V", "(I)I", "\x00", "V\x00", "\xff", strings.Repeat("[", 70000),
	} {
		if got, e := Parse(s); got != (api.Type{}) || e != api.ErrForm {
			t.Errorf("Parse(%.40q) = %v, %d", s, got, e)
		}
	}
}

// P6.1: each byte within a class's name, and in each other place.
func TestWhichBytesTypesHave(t *testing.T) {
	for c := range 256 {
		one := string([]byte{byte(c)})
		for _, s := range []string{one, "L" + one + ";", "La" + one + "b;", "[L" + one + "a;", "LA" + one, "[" + one, one + "I", "I" + one, one + "A;", "[" + one + "A;"} {
			got, e := Parse(s)
			if can := aType.MatchString(s); can != (e == api.OK) || !can && e != api.ErrForm || !can && got != (api.Type{}) {
				t.Errorf("Parse(%q) = %v, %d", s, got, e)
			}
		}
	}
}

// P6.2
func TestDescAsWritten(t *testing.T) {
	for _, c := range []struct {
		ret    api.Type
		params []api.Type
		want   string
	}{
		{of(api.Void), nil, "()V"},
		{of(api.Int), some(), "()I"},
		{of(api.Void), some(of(api.Int)), "(I)V"},
		{of(api.Void), some(of(api.Int), refs("a/B")), "(I[La/B;)V"},
		{ref("B"), some(ref("A"), of(api.Ints)), "(LA;[I)LB;"},
		{of(api.Ints), some(of(api.Int), of(api.Int)), "(II)[I"},
		{refs("A"), some(refs("A")), "([LA;)[LA;"},
		{of(api.Int), times(8, of(api.Int)), "(IIIIIIII)I"},
		{of(api.Void), some(ref(long(32)), ref(long(25))), "(L" + long(32) + ";L" + long(25) + ";)V"},
		{ref(long(32)), some(ref(long(26))), "(L" + long(26) + ";)L" + long(32) + ";"},
	} {
		if s, e := Desc(c.ret, c.params...); s != c.want || e != api.OK {
			t.Errorf("Desc(%v, %v) = %q, %d, not %q", c.ret, c.params, s, e, c.want)
		}
	}
}

// P6.2
func TestDescThatFails(t *testing.T) {
	type failing struct {
		ret    api.Type
		params []api.Type
		e      api.Errno
	}
	l := []failing{
		{of(api.Void), some(of(api.Void)), api.ErrForm},
		{of(api.Int), some(of(api.Int), of(api.Void)), api.ErrForm},
		{of(api.Int), some(of(api.Void), of(api.Int)), api.ErrForm},
		{of(api.Void), times(9, of(api.Int)), api.ErrLong},
		{of(api.Void), times(5000, of(api.Int)), api.ErrLong},
		{ref(long(32)), some(ref(long(27))), api.ErrLong},
		{of(api.Void), some(ref(long(32)), ref(long(26))), api.ErrLong},
		{of(api.Void), times(8, refs(long(32))), api.ErrLong},
		// What can't be comes ahead of what is too much.
		{of(api.NoKind), times(9, of(api.Int)), api.ErrForm},
		{of(api.Void), append(times(9, of(api.Int)), of(api.Void)), api.ErrForm},
		{of(api.Void), append(times(5000, of(api.Int)), ref("")), api.ErrForm},
		{of(api.Void), append(times(3, ref(long(32))), ref(long(33))), api.ErrForm},
	}
	for _, w := range wrong() {
		l = append(l, failing{w, nil, api.ErrForm}, failing{of(api.Void), some(w), api.ErrForm}, failing{of(api.Void), some(of(api.Int), w, ref("A")), api.ErrForm})
	}
	for _, c := range l {
		if s, e := Desc(c.ret, c.params...); s != "" || e != c.e {
			t.Errorf("Desc(%v, %v) = %q, %d, not %d", c.ret, c.params, s, e, c.e)
		}
	}
}

// P6.2
func TestSplitAsWritten(t *testing.T) {
	for _, c := range []struct {
		desc   string
		params []api.Type
		ret    api.Type
	}{
		{"()V", nil, of(api.Void)},
		{"()I", nil, of(api.Int)},
		{"(I)V", some(of(api.Int)), of(api.Void)},
		{"(I[La/B;)V", some(of(api.Int), refs("a/B")), of(api.Void)},
		{"(LA;[ILB;)[LC;", some(ref("A"), of(api.Ints), ref("B")), refs("C")},
		{"([I[I)[I", some(of(api.Ints), of(api.Ints)), of(api.Ints)},
		{"(LV;)LV;", some(ref("V")), ref("V")},
		{"(IIIIIIII)V", times(8, of(api.Int)), of(api.Void)},
		{"(L" + long(26) + ";)L" + long(32) + ";", some(ref(long(26))), ref(long(32))},
	} {
		params, ret, e := Split(c.desc)
		if !slices.Equal(params, c.params) || ret != c.ret || e != api.OK {
			t.Errorf("Split(%q) = %v, %v, %d", c.desc, params, ret, e)
		}
	}
}

// P6.2
func TestSplitThatFails(t *testing.T) {
	for _, c := range []struct {
		desc string
		e    api.Errno
	}{
		{"", api.ErrForm},
		{"V", api.ErrForm},
		{"I", api.ErrForm},
		{"(", api.ErrForm},
		{")", api.ErrForm},
		{"()", api.ErrForm},
		{")V", api.ErrForm},
		{"(V", api.ErrForm},
		{"(I", api.ErrForm},
		{"(I)", api.ErrForm},
		{"(V)V", api.ErrForm},
		{"(IV)V", api.ErrForm},
		{"(VI)V", api.ErrForm},
		{"([V)V", api.ErrForm},
		{"()[V", api.ErrForm},
		{"()VV", api.ErrForm},
		{"()V)", api.ErrForm},
		{"()V()V", api.ErrForm},
		{"()II", api.ErrForm},
		{"(()V", api.ErrForm},
		{"())V", api.ErrForm},
		{" ()V", api.ErrForm},
		{"()V ", api.ErrForm},
		{"( )V", api.ErrForm},
		{"(I,I)V", api.ErrForm},
		{"(I;)V", api.ErrForm},
		{"([)V", api.ErrForm},
		{"([[I)V", api.ErrForm},
		{"(L)V", api.ErrForm},
		{"(LA)V", api.ErrForm},
		{"(L;)V", api.ErrForm},
		{"(LA.B;)V", api.ErrForm},
		{"(LA;;)V", api.ErrForm},
		{"()LA", api.ErrForm},
		{"()LA;;", api.ErrForm},
		{"(L" + long(33) + ";)V", api.ErrForm},
		{"(I)Z", api.ErrForm},
		{"m()V", api.ErrForm},
		{"\x00", api.ErrForm},
		{"()\xff", api.ErrForm},
		{strings.Repeat("(", 64), api.ErrForm},
		{"(IIIIIIIII)V", api.ErrLong},
		{"(" + strings.Repeat("I", 61) + ")V", api.ErrLong},
		{"([I[I[I[ILA;[LA;III)[LA;", api.ErrLong},
		// What is no descriptor comes ahead of too many parameters, what is too long ahead of that.
		{"(IIIIIIIII)", api.ErrForm},
		{"(IIIIIIIIIV)V", api.ErrForm},
		{"(IIIIIIIII)VV", api.ErrForm},
		{"(" + strings.Repeat("I", 62) + ")", api.ErrForm},
		{"(" + strings.Repeat("I", 62) + ")V", api.ErrLong},
		{"(L" + long(27) + ";)L" + long(32) + ";", api.ErrLong},
		{strings.Repeat("(", 65), api.ErrLong},
		{strings.Repeat("\xff", 70000), api.ErrLong},
		{"()V" + strings.Repeat(" ", 62), api.ErrLong},
	} {
		params, ret, e := Split(c.desc)
		if len(params) != 0 || ret != (api.Type{}) || e != c.e {
			t.Errorf("Split(%.70q) = %v, %v, %d, not %d", c.desc, params, ret, e, c.e)
		}
	}
}

// texts is texts of a few letters: all short ones, and some of all lengths that a fixed seed gives, most of which are near to what can be.
func texts() []string {
	const each = "VIL[;A()"
	l := []string{""}
	for from, size := 0, 0; size < 5; size++ {
		to := len(l)
		for _, s := range l[from:to] {
			for i := range len(each) {
				l = append(l, s+each[i:i+1])
			}
		}
		from = to
	}
	chance := rand.New(rand.NewSource(1))
	parts := []string{"I", "[I", "LA;", "[LA;", "La/B;", "[Lx9$_;", "LV;"}
	for range 30000 {
		desc := "("
		for range chance.Intn(11) {
			desc += parts[chance.Intn(len(parts))]
		}
		desc += ")" + append(parts, "V")[chance.Intn(len(parts)+1)]
		l = append(l, desc)
		at := chance.Intn(len(desc) + 1)
		l = append(l, desc[:at]+parts[chance.Intn(len(parts))]+desc[at:], desc[:at]+each[at%8:at%8+1]+desc[at:], desc[:at]+desc[min(at+1, len(desc)):])
	}
	return l
}

// P6.2: what is a descriptor, against the words as a pattern.
func TestSplitAsTheWordsSay(t *testing.T) {
	told := map[api.Errno]int{}
	for _, s := range texts() {
		params, ret, e := Split(s)
		want := api.OK
		switch {
		case len(s) > 64:
			want = api.ErrLong
		case !aDescriptor.MatchString(s):
			want = api.ErrForm
		case len(aParameter.FindAllString(s[:strings.Index(s, ")")], -1)) > 8:
			want = api.ErrLong
		}
		told[e]++
		if e != want {
			t.Fatalf("Split(%q): %d, not %d", s, e, want)
		}
		if e != api.OK && (len(params) != 0 || ret != api.Type{}) {
			t.Fatalf("Split(%q) = %v, %v beside %d", s, params, ret, e)
		}
	}
	if told[api.OK] < 10000 || told[api.ErrForm] < 10000 || told[api.ErrLong] < 1000 {
		t.Errorf("how often each: %v", told)
	}
}

// P6.3
func TestClassesAsWritten(t *testing.T) {
	for _, c := range []struct {
		desc string
		want []string
	}{
		{"()V", nil},
		{"(I[I)I", nil},
		{"(LA;)V", []string{"A"}},
		{"()LA;", []string{"A"}},
		{"()[La/B;", []string{"a/B"}},
		{"(LB;I[LA;)LC;", []string{"B", "A", "C"}},
		{"([LC;LB;)LA;", []string{"C", "B", "A"}},
		{"(LA;[LA;)LA;", []string{"A", "A", "A"}},
		{"", nil},
		{"LA;", nil},
		{"(LA;V)V", nil},
		{"(LA;)", nil},
		{"(LA;)[V", nil},
		{"(LA;IIIIIIII)V", nil},
		{"(L" + long(27) + ";)L" + long(32) + ";", nil},
	} {
		if l := Classes(c.desc); !slices.Equal(l, c.want) {
			t.Errorf("Classes(%q) = %q, not %q", c.desc, l, c.want)
		}
	}
}

// P6.3
func TestRenamedTypeAsWritten(t *testing.T) {
	l := []api.Pair{{Old: "A", New: "c"}, {Old: "B", New: "A"}, {Old: "A", New: "d"}, {Old: "", New: "e"}, {Old: "W", New: "not a name"}, {Old: "E", New: ""}}
	for _, c := range []struct{ t, want api.Type }{
		{ref("A"), ref("c")},
		{refs("A"), refs("c")},
		{ref("B"), ref("A")},
		{refs("C"), refs("C")},
		{ref("c"), ref("c")},
		{ref("a"), ref("a")},
		{ref("W"), ref("not a name")},
		{refs("E"), of(api.Refs)},
		{of(api.Ref), ref("e")},
		{of(api.Int), of(api.Int)},
		{of(api.Void), of(api.Void)},
		{of(api.Ints), of(api.Ints)},
		{api.Type{}, api.Type{}},
		{api.Type{Kind: api.Int, Class: "A"}, api.Type{Kind: api.Int, Class: "A"}},
		{api.Type{Kind: api.Ints, Class: "A"}, api.Type{Kind: api.Ints, Class: "A"}},
		{api.Type{Kind: 6, Class: "A"}, api.Type{Kind: 6, Class: "A"}},
	} {
		if got := RenamedType(c.t, l); got != c.want {
			t.Errorf("RenamedType(%v) = %v, not %v", c.t, got, c.want)
		}
		if got := RenamedType(c.t, nil); got != c.t {
			t.Errorf("RenamedType(%v) by nothing = %v", c.t, got)
		}
	}
}

// P6.3
func TestRenamedAsWritten(t *testing.T) {
	l := []api.Pair{{Old: "A", New: "c"}, {Old: "B", New: "A"}, {Old: "A", New: "d"}, {Old: "I", New: "V"}, {Old: "W", New: "w w"}, {Old: "E", New: ""}, {Old: "L", New: long(32)}, {Old: "X", New: long(33)}}
	for _, c := range []struct{ desc, want string }{
		{"(LA;)I", "(Lc;)I"},
		{"()V", "()V"},
		{"(I[I)I", "(I[I)I"},
		{"(LI;I)LI;", "(LV;I)LV;"},
		{"(LA;[LB;LC;)[LA;", "(Lc;[LA;LC;)[Lc;"},
		{"(LL;)V", "(L" + long(32) + ";)V"},
		{"(LL;[LL;)V", ""}, // too long behind it
		{"(LL;)LL;", ""},
		{"(LX;)V", ""},
		{"(LA;)LW;", ""},
		{"(LW;)LA;", ""},
		{"(LE;)V", ""},
		{"()[LE;", ""},
		{"", ""},
		{"LA;", ""},
		{"(LA;)", ""},
		{"(V)V", ""},
		{"(IIIIIIIII)V", ""},
		{"(L" + long(27) + ";)L" + long(32) + ";", ""},
	} {
		if s := Renamed(c.desc, l); s != c.want {
			t.Errorf("Renamed(%q) = %q, not %q", c.desc, s, c.want)
		}
	}
	// What is too long to begin with does not become a descriptor by shorter names.
	if s := Renamed("(L"+long(27)+";)LA;"+long(40), []api.Pair{{Old: long(27), New: "a"}}); s != "" {
		t.Errorf("what is too long: %q", s)
	}
	if s := Renamed("(L"+long(29)+";)L"+long(31)+";", []api.Pair{{Old: long(29), New: "a"}}); s != "" {
		t.Errorf("what is too long, but would not be: %q", s)
	}
	if s := Renamed("(LA;)[LB;", nil); s != "(LA;)[LB;" {
		t.Errorf("by nothing: %q", s)
	}
}

// P6.4
func TestTypesAndTextsAreThereAndBack(t *testing.T) {
	taken := 0
	for _, s := range texts() {
		got, e := Parse(s)
		if can := aType.MatchString(s); can != (e == api.OK) {
			t.Fatalf("Parse(%q) = %v, %d", s, got, e)
		}
		if e != api.OK {
			continue
		}
		taken++
		if !Right(got) || Text(got) != s {
			t.Fatalf("Parse(%q) = %v, Text %q", s, got, Text(got))
		}
	}
	if taken < 15 {
		t.Errorf("only %d are types", taken)
	}
	for _, k := range known() {
		if back, e := Parse(Text(k.t)); back != k.t || e != api.OK {
			t.Errorf("Parse of Text(%v) = %v, %d", k.t, back, e)
		}
	}
}

// P6.4
func TestDescOfSplitIsTheDescriptor(t *testing.T) {
	for _, s := range texts() {
		params, ret, e := Split(s)
		if e != api.OK {
			continue
		}
		if back, e := Desc(ret, params...); back != s || e != api.OK {
			t.Fatalf("Desc of Split(%q) = %q, %d", s, back, e)
		}
	}
}

// P6.4
func TestSplitOfDescAreTheTypes(t *testing.T) {
	chance := rand.New(rand.NewSource(2))
	all := known()
	taken := 0
	for range 20000 {
		ret, params := all[chance.Intn(len(all))].t, make([]api.Type, chance.Intn(10))
		for i := range params {
			params[i] = all[chance.Intn(len(all))].t
		}
		s, e := Desc(ret, params...)
		if e != api.OK {
			continue
		}
		taken++
		back, backRet, e := Split(s)
		if !slices.Equal(back, params) || backRet != ret || e != api.OK {
			t.Fatalf("Split of Desc(%v, %v) = %v, %v, %d", ret, params, back, backRet, e)
		}
	}
	if taken < 1000 {
		t.Errorf("only %d are descriptors", taken)
	}
}

// P6.5
func TestRenamedThereAndBack(t *testing.T) {
	there := []api.Pair{{Old: "A", New: "a/B"}, {Old: "a/B", New: "V"}, {Old: "V", New: "$"}, {Old: "x9$_", New: "A"}}
	var back []api.Pair
	for _, p := range there {
		back = append(back, api.Pair{Old: p.New, New: p.Old})
	}
	taken := 0
	for _, s := range texts() {
		if _, _, e := Split(s); e != api.OK || slices.Contains(Classes(s), "$") {
			continue
		}
		other := Renamed(s, there)
		if other == "" {
			continue // too long behind it
		}
		taken++
		if again := Renamed(other, back); again != s {
			t.Fatalf("%q becomes %q, and that %q", s, other, again)
		}
		named := slices.ContainsFunc(there, func(p api.Pair) bool { return slices.Contains(Classes(s), p.Old) })
		if named == (other == s) {
			t.Fatalf("%q becomes %q", s, other)
		}
	}
	if taken < 10000 {
		t.Errorf("only %d are renamed", taken)
	}
}

// P3
func TestNothingHandedInIsChanged(t *testing.T) {
	room := some(ref("A"), of(api.Int), ref("spare"), ref("spare"))
	was := slices.Clone(room)
	if s, e := Desc(of(api.Void), room[:2]...); s != "(LA;I)V" || e != api.OK {
		t.Errorf("Desc = %q, %d", s, e)
	}
	if !slices.Equal(room, was) {
		t.Errorf("the types are %v", room)
	}
	pairs := []api.Pair{{Old: "A", New: "b"}, {Old: "b", New: "c"}, {Old: "spare", New: "spare"}}
	wasPairs := slices.Clone(pairs)
	Renamed("(LA;)LA;", pairs[:2])
	RenamedType(ref("A"), pairs[:2])
	if !slices.Equal(pairs, wasPairs) {
		t.Errorf("the pairs are %v", pairs)
	}
}

// P3
func TestAnswersAreTheCallers(t *testing.T) {
	params, _, _ := Split("(LA;I)V")
	params[0] = of(api.Void)
	if again, _, _ := Split("(LA;I)V"); !slices.Equal(again, some(ref("A"), of(api.Int))) {
		t.Errorf("the types are %v behind a change", again)
	}
	l := Classes("(LA;)LB;")
	l[0] = "changed"
	if again := Classes("(LA;)LB;"); !slices.Equal(again, []string{"A", "B"}) {
		t.Errorf("the classes are %q behind a change", again)
	}
}

// A panic that is not of the reading's own is not taken for a text that is none.
func TestReadCatchesItsOwnPanicAlone(t *testing.T) {
	if n, e := read(func() int { panic(noText{}) }); n != 0 || e != api.ErrForm {
		t.Errorf("its own: %d, %d", n, e)
	}
	if n, e := read(func() int { return 7 }); n != 7 || e != api.OK {
		t.Errorf("none: %d, %d", n, e)
	}
	defer func() {
		if caught := recover(); caught != "another" {
			t.Errorf("another: %v", caught)
		}
	}()
	read(func() int { panic("another") })
}
