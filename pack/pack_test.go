package pack

import (
	"bytes"
	"math"
	"math/rand"
	"reflect"
	"slices"
	"strconv"
	"strings"
	"testing"

	"secateur/api"
	"secateur/kind"
	"secateur/leb"
	"secateur/norm"
	"secateur/op"
	"secateur/pool"
	"secateur/wire"
)

// many is a list of n members, each as its number tells.
func many[T any](n int, one func(i int) T) []T {
	l := make([]T, n)
	for i := range l {
		l[i] = one(i)
	}
	return l
}

// numbered is a name by which members rise.
func numbered(i int) string {
	return "n" + strconv.Itoa(10000+i)
}

// whole is a unit that is right, with something of each kind.
func whole() api.Unit {
	return api.Unit{
		Program: api.Program{
			Classes: []api.Class{
				{
					Name: "A", Abstract: true, Ifaces: []string{"I", "J"},
					Fields: []api.Field{
						{Name: "f", Type: api.Type{Kind: api.Int}},
						{Name: "g", Type: api.Type{Kind: api.Refs, Class: "a/B"}, Static: true},
					},
					Methods: []api.Method{
						{Name: "<clinit>", Desc: "()V", Static: true, Code: []api.Instr{{Op: api.End}}},
						{Name: "m", Desc: "()V", Abstract: true},
						{Name: "m", Desc: "(I)LA;", Regs: 3, Code: []api.Instr{
							{Op: api.Get, A: 2, B: 0, Class: "A", Name: "f"},
							{Op: api.Call, A: 0, Class: "A", Name: "m", Desc: "(I)LA;", Args: []int{0, 1}},
							{Op: api.Branch, B: 2, K: 0},
							{Op: api.Arith, A: 2, B: 1, C: 2, K: api.Less},
							{Op: api.Return, B: 0},
						}},
					},
				},
				{
					Name: "B", Super: "A", Ifaces: []string{"J"},
					Methods: []api.Method{
						{Name: "main", Desc: "()I", Static: true, Regs: 1, Code: []api.Instr{{Op: api.New, A: 0, Class: "B"}, {Op: api.Const, A: 0, K: -300}, {Op: api.Return, B: 0}}},
					},
				},
				{Name: "I", Iface: true, Abstract: true, Ifaces: []string{"J"}, Methods: []api.Method{{Name: "m", Desc: "()V", Abstract: true}}},
			},
			Names: []string{"B", "", "any \xff text", "B"},
			Entry: api.MethodRef{Class: "B", Name: "main", Desc: "()I"},
		},
		Linked: true,
		Tables: []api.Table{
			{Class: "A", Slots: []api.Slot{{Name: "<clinit>", Desc: "()V", Impl: "A"}, {Name: "m", Desc: "()V"}, {Name: "m", Desc: "(I)LA;", Impl: "B"}}},
			{Class: "a/T"},
		},
	}
}

// change is something done to a unit, and what Right says then.
type change struct {
	what string
	do   func(u *api.Unit)
	want api.Errno
}

// tables is tables of so many classes.
func someTables(n int) []api.Table {
	return many(n, func(i int) api.Table { return api.Table{Class: numbered(i)} })
}

func someSlots(n int) []api.Slot {
	return many(n, func(i int) api.Slot { return api.Slot{Name: numbered(i), Desc: "()V"} })
}

func someNames(n int) []string {
	return many(n, numbered)
}

// rightChanges is changes that tell each of Right's errors, and what comes first.
func rightChanges() []change {
	return []change{
		{"nothing", func(u *api.Unit) {}, api.OK},
		{"no unit at all", func(u *api.Unit) { *u = api.Unit{} }, api.OK},
		{"linked, without tables", func(u *api.Unit) { u.Tables = nil }, api.OK},
		{"the program's form", func(u *api.Unit) { u.Program.Classes[0].Name = "a b"; u.Tables = someTables(65) }, api.ErrForm},
		{"the program's order", func(u *api.Unit) { u.Program.Classes[0].Name = "C"; u.Linked = false }, api.ErrOrder},
		{"the program's names", func(u *api.Unit) { u.Program.Names = someNames(65); u.Linked = false }, api.ErrLong},
		{"64 tables", func(u *api.Unit) { u.Tables = someTables(64) }, api.OK},
		{"65 tables", func(u *api.Unit) { u.Tables = someTables(65) }, api.ErrLong},
		{"65 tables, not linked", func(u *api.Unit) { u.Tables = someTables(65); u.Linked = false }, api.ErrLong},
		{"65 tables that can't be", func(u *api.Unit) { u.Tables = make([]api.Table, 65) }, api.ErrLong},
		{"256 slots", func(u *api.Unit) { u.Tables[1].Slots = someSlots(256) }, api.OK},
		{"257 slots", func(u *api.Unit) { u.Tables[1].Slots = someSlots(257) }, api.ErrLong},
		{"257 slots, and a table that can't be", func(u *api.Unit) { u.Tables[1].Slots = someSlots(257); u.Tables[0].Class = "" }, api.ErrLong},
		{"not linked", func(u *api.Unit) { u.Linked = false }, api.ErrForm},
		{"not linked, a table", func(u *api.Unit) { u.Linked = false; u.Tables = u.Tables[:1] }, api.ErrForm},
		{"not linked, without tables", func(u *api.Unit) { u.Linked = false; u.Tables = []api.Table{} }, api.OK},
		{"a table's class that is none", func(u *api.Unit) { u.Tables[1].Class = "a.b" }, api.ErrForm},
		{"a table's class that is empty", func(u *api.Unit) { u.Tables[0].Class = "" }, api.ErrForm},
		{"a slot's name that is none", func(u *api.Unit) { u.Tables[0].Slots[2].Name = "a/b" }, api.ErrForm},
		{"a slot's name that is empty", func(u *api.Unit) { u.Tables[0].Slots[0].Name = "" }, api.ErrForm},
		{"a slot's descriptor that is none", func(u *api.Unit) { u.Tables[0].Slots[2].Desc = "(V)I" }, api.ErrForm},
		{"a slot's descriptor of too many", func(u *api.Unit) { u.Tables[0].Slots[2].Desc = "(IIIIIIIII)V" }, api.ErrForm},
		{"a slot's impl that is none", func(u *api.Unit) { u.Tables[0].Slots[2].Impl = "<clinit>" }, api.ErrForm},
		{"a slot's impl of another class", func(u *api.Unit) { u.Tables[0].Slots[2].Impl = "x/Y" }, api.OK},
		{"a table that can't be, in disorder", func(u *api.Unit) { u.Tables[0].Class, u.Tables[1].Class = "b", "?" }, api.ErrForm},
		{"tables in disorder", func(u *api.Unit) { u.Tables[0].Class = "b" }, api.ErrOrder},
		{"a table twice", func(u *api.Unit) { u.Tables[1].Class = "A" }, api.ErrOrder},
		{"slots in disorder", func(u *api.Unit) { u.Tables[0].Slots[0].Name = "z" }, api.ErrOrder},
		{"slots of one name in disorder", func(u *api.Unit) { u.Tables[0].Slots[1].Desc = "(LA;)V" }, api.ErrOrder},
		{"a slot twice", func(u *api.Unit) { u.Tables[0].Slots[1].Desc = "(I)LA;" }, api.ErrOrder},
		{"slots in order by name first", func(u *api.Unit) { u.Tables[0].Slots[0].Desc = "(LA;)V" }, api.OK},
		{"slots in disorder of the last table", func(u *api.Unit) {
			u.Tables[1].Slots = []api.Slot{{Name: "b", Desc: "()V"}, {Name: "a", Desc: "()V"}}
		}, api.ErrOrder},
	}
}

// TestRight: P9.1.
func TestRight(t *testing.T) {
	for _, c := range rightChanges() {
		u := whole()
		c.do(&u)
		if e := Right(u); e != c.want {
			t.Errorf("%s: %d, not %d", c.what, e, c.want)
		}
		_, e := Strings(u)
		_, f := Encode(u)
		if e != c.want || f != c.want {
			t.Errorf("%s: Strings says %d, Encode %d, not %d", c.what, e, f, c.want)
		}
	}
}

// withPool is a linked unit whose pool has so many strings, n above 260.
func withPool(n int) api.Unit {
	u := api.Unit{Linked: true, Tables: many(5, func(i int) api.Table { return api.Table{Class: "T" + strconv.Itoa(i)} })}
	n -= 6 // the tables' classes, and the descriptor
	for i := 0; n > 0; i++ {
		size := min(n, api.MaxSlots)
		u.Tables[i].Slots = many(size, func(k int) api.Slot {
			return api.Slot{Name: "s" + strconv.Itoa(10000+1000*i+k), Desc: "()V"}
		})
		n -= size
	}
	return u
}

// TestPoolTooLong: P9.1: a pool of more than MaxPool strings, but what is wrong otherwise comes first.
func TestPoolTooLong(t *testing.T) {
	for n, want := range map[int]api.Errno{1023: api.OK, 1024: api.OK, 1025: api.ErrLong, 1200: api.ErrLong} {
		u := withPool(n)
		l, e := Strings(u)
		b, f := Encode(u)
		if e != want || f != want || Right(u) != want {
			t.Errorf("%d strings: %d, %d, %d, not %d", n, Right(u), e, f, want)
		}
		if want == api.OK && len(l) != n || want != api.OK && (len(l) > 0 || len(b) > 0) {
			t.Errorf("%d strings: %d came, and %d bytes", n, len(l), len(b))
		}
	}
	u := withPool(1200)
	u.Tables[0].Class = "Z"
	if e := Right(u); e != api.ErrOrder {
		t.Errorf("too many strings, in disorder: %d", e)
	}
	// The program's strings and the tables' together: each alone would do.
	u = withPool(1020)
	u.Program.Names = someNames(10)
	if e := Right(u); e != api.ErrLong {
		t.Errorf("too many strings in all: %d", e)
	}
}

// TestStrings: P9.1.
func TestStrings(t *testing.T) {
	want := []string{"", "()I", "()V", "(I)LA;", "<clinit>", "A", "B", "I", "J", "[La/B;", "a/T", "any \xff text", "f", "g", "m", "main"}
	if l, e := Strings(whole()); e != api.OK || !slices.Equal(l, want) {
		t.Errorf("%q, %d", l, e)
	}
	// What only tables have: a class, a slot's name, its descriptor, its impl, but nothing that is empty.
	u := api.Unit{Linked: true, Tables: []api.Table{{Class: "T", Slots: []api.Slot{{Name: "n", Desc: "([I)I"}, {Name: "o", Desc: "()V", Impl: "X"}}}}}
	if l, e := Strings(u); e != api.OK || !slices.Equal(l, []string{"()V", "([I)I", "T", "X", "n", "o"}) {
		t.Errorf("of tables: %q, %d", l, e)
	}
	if l, e := Strings(api.Unit{}); e != api.OK || len(l) > 0 {
		t.Errorf("of nothing: %q, %d", l, e)
	}
	u = whole()
	u.Linked = false
	if l, e := Strings(u); e != api.ErrForm || l != nil {
		t.Errorf("of what can't be: %q, %d", l, e)
	}
}

// TestSame: P9.1.
func TestSame(t *testing.T) {
	if !Same(whole(), whole()) || !Same(api.Unit{}, api.Unit{}) {
		t.Error("alike, but not the same")
	}
	u := api.Unit{Program: api.Program{Classes: []api.Class{}, Names: []string{}}, Tables: []api.Table{}}
	if !Same(u, api.Unit{}) {
		t.Error("empty and nil are alike")
	}
	u, v := whole(), whole()
	u.Tables[1].Slots = []api.Slot{}
	if !Same(u, v) {
		t.Error("slots that are empty and nil are alike")
	}
	for what, do := range map[string]func(u *api.Unit){
		"class":           func(u *api.Unit) { u.Program.Classes[2].Name = "K" },
		"code":            func(u *api.Unit) { u.Program.Classes[0].Methods[2].Code[4].B++ },
		"names":           func(u *api.Unit) { u.Program.Names[3] = "" },
		"entry":           func(u *api.Unit) { u.Program.Entry.Name = "n" },
		"linked":          func(u *api.Unit) { u.Linked = false },
		"a table less":    func(u *api.Unit) { u.Tables = u.Tables[:1] },
		"a table's class": func(u *api.Unit) { u.Tables[1].Class = "a/U" },
		"a slot less":     func(u *api.Unit) { u.Tables[0].Slots = u.Tables[0].Slots[:2] },
		"a slot's name":   func(u *api.Unit) { u.Tables[0].Slots[2].Name = "n" },
		"a slot's desc":   func(u *api.Unit) { u.Tables[0].Slots[2].Desc = "(I)LB;" },
		"a slot's impl":   func(u *api.Unit) { u.Tables[0].Slots[1].Impl = "A" },
	} {
		u := whole()
		do(&u)
		if Same(u, whole()) || Same(whole(), u) {
			t.Errorf("another %s: not the same", what)
		}
	}
}

// container is a container of sections.
func container(sections ...[]byte) []byte {
	b := []byte("SEC1")
	for i, s := range sections {
		b = append(b, wire.Section(byte(i+1), s)...)
	}
	return b
}

// begins is at which place what a section has begins, the first one being 1.
func begins(sections [][]byte, id int) int {
	at := len(container(sections[:id-1]...))
	return at + 1 + leb.Size(uint64(len(sections[id-1])))
}

// put is the bytes of a pool.
func put(l ...string) []byte {
	b := leb.Put(uint64(len(l)))
	for _, s := range l {
		b = append(b, wire.Text(s)...)
	}
	return b
}

// TestEncodeBytes: P9.2, each byte of a container told by hand.
func TestEncodeBytes(t *testing.T) {
	u := api.Unit{
		Program: api.Program{
			Classes: []api.Class{
				{Name: "A", Iface: true, Abstract: true, Methods: []api.Method{{Name: "m", Desc: "(I)V", Abstract: true}}},
				{
					Name: "B", Super: "C", Abstract: true, Ifaces: []string{"A", "C"},
					Fields: []api.Field{{Name: "f", Type: api.Type{Kind: api.Int}, Static: true}, {Name: "g", Type: api.Type{Kind: api.Int}}},
					Methods: []api.Method{{Name: "m", Desc: "(I)V", Static: true, Regs: 4, Code: []api.Instr{
						{Op: api.Const, A: 1, K: -2},
						{Op: api.Arith, A: 1, B: 2, C: 3, K: 9},
						{Op: api.Branch, B: 2, K: 5},
						{Op: api.Put, B: 1, C: 2, Class: "B", Name: "f"},
						{Op: api.Call, A: 0, Class: "A", Name: "m", Desc: "(I)V", Args: []int{3, 1}},
						{Op: api.Is, A: 3, B: 2, Class: "A"},
						{Op: api.End},
					}}},
				},
				{Name: "C"},
			},
			Names: []string{"m", "B", "m"},
			Entry: api.MethodRef{Class: "B", Name: "f", Desc: "()V"},
		},
		Linked: true,
		Tables: []api.Table{{Class: "B", Slots: []api.Slot{{Name: "f", Desc: "()V"}, {Name: "m", Desc: "(I)V", Impl: "A"}}}, {Class: "C"}},
	}
	// The pool: "()V" 0, "(I)V" 1, "A" 2, "B" 3, "C" 4, "I" 5, "f" 6, "g" 7, "m" 8.
	want := container(
		put("()V", "(I)V", "A", "B", "C", "I", "f", "g", "m"),
		[]byte{
			3,
			2, 0, 3, 0, 0, 1, 8, 1, 2, 0, 0,
			3, 5, 2, 2, 2, 4, 2, 6, 5, 1, 7, 5, 0, 1, 8, 1, 1, 4, 7,
			2, 1, 3,
			5, 1, 2, 3, 9,
			7, 2, 5,
			16, 1, 2, 3, 6,
			20, 0, 2, 8, 1, 2, 3, 1,
			24, 3, 2, 2,
			23,
			4, 0, 0, 0, 0, 0,
		},
		[]byte{3, 8, 3, 8},
		[]byte{1, 3, 6, 0},
		[]byte{1, 2, 3, 2, 6, 0, 0, 8, 1, 3, 4, 0},
	)
	if b, e := Encode(u); e != api.OK || !bytes.Equal(b, want) {
		t.Errorf("%d, %d", b, e)
	}
	if v, f := Decode(want); f != (api.Fault{}) || !Same(u, v) {
		t.Errorf("%v, %v", v, f)
	}
	nothing := container([]byte{0}, []byte{0}, []byte{0}, []byte{0}, []byte{0})
	if b, e := Encode(api.Unit{}); e != api.OK || !bytes.Equal(b, nothing) {
		t.Errorf("nothing: %d, %d", b, e)
	}
	if u, f := Decode(nothing); f != (api.Fault{}) || !Same(u, api.Unit{}) {
		t.Errorf("nothing: %v, %v", u, f)
	}
}

// asTold is a container as the chapter tells it, another way than the one that is tested.
func asTold(u api.Unit) []byte {
	l, _ := Strings(u)
	place := func(s string) []byte { return leb.Put(uint64(pool.Find(l, s))) }
	perhaps := func(s string) []byte {
		if s == "" {
			return []byte{0}
		}
		return leb.Put(uint64(pool.Find(l, s) + 1))
	}
	number := func(n int) []byte { return leb.Put(uint64(n)) }
	bit := func(on bool, n byte) byte {
		if on {
			return n
		}
		return 0
	}
	var classes bytes.Buffer
	add := func(l ...[]byte) { classes.Write(bytes.Join(l, nil)) }
	add(number(len(u.Program.Classes)))
	for _, c := range u.Program.Classes {
		add(place(c.Name), perhaps(c.Super), []byte{bit(c.Iface, 1) + bit(c.Abstract, 2)}, number(len(c.Ifaces)))
		for _, s := range c.Ifaces {
			add(place(s))
		}
		add(number(len(c.Fields)))
		for _, f := range c.Fields {
			add(place(f.Name), place(kind.Text(f.Type)), []byte{bit(f.Static, 1)})
		}
		add(number(len(c.Methods)))
		for _, m := range c.Methods {
			add(place(m.Name), place(m.Desc), []byte{bit(m.Static, 1) + bit(m.Abstract, 2)}, number(m.Regs), number(len(m.Code)))
			for _, i := range m.Code {
				add([]byte{byte(i.Op)})
				shape := op.Shape(i.Op)
				for _, letter := range shape {
					switch letter {
					case 'a':
						add(number(i.A))
					case 'b':
						add(number(i.B))
					case 'c':
						add(number(i.C))
					case 't', 'r':
						add(number(int(i.K)))
					case 'k':
						add(leb.Put(leb.Zig(i.K)))
					case 'C':
						add(place(i.Class))
					case 'F':
						add(place(i.Class), place(i.Name))
					case 'M':
						add(place(i.Class), place(i.Name), place(i.Desc))
					case 'v':
						add(number(len(i.Args)))
						for _, a := range i.Args {
							add(number(a))
						}
					}
				}
			}
		}
	}
	names := number(len(u.Program.Names))
	for _, s := range u.Program.Names {
		names = append(names, place(s)...)
	}
	entry := []byte{0}
	if m := u.Program.Entry; m.Class != "" {
		entry = bytes.Join([][]byte{{1}, place(m.Class), place(m.Name), place(m.Desc)}, nil)
	}
	tables := []byte{0}
	if u.Linked {
		tables = append([]byte{1}, number(len(u.Tables))...)
		for _, t := range u.Tables {
			tables = append(append(tables, place(t.Class)...), number(len(t.Slots))...)
			for _, s := range t.Slots {
				tables = append(append(append(tables, place(s.Name)...), place(s.Desc)...), perhaps(s.Impl)...)
			}
		}
	}
	return container(put(l...), classes.Bytes(), names, entry, tables)
}

// chance makes units that are right.
type chance struct{ *rand.Rand }

// rising is up to n of some names, rising, each once.
func (c chance) rising(n int, names ...string) []string {
	var l []string
	for range c.Intn(n + 1) {
		l = append(l, names[c.Intn(len(names))])
	}
	slices.Sort(l)
	return slices.Compact(l)
}

func (c chance) one(l ...string) string {
	return l[c.Intn(len(l))]
}

func (c chance) class() string {
	return c.one("A", "B", "C", "a/B", "$", "Long/Long/Long/Long/Long/Long/Lo")
}

func (c chance) name() string {
	return c.one("f", "g", "m", "main", "_")
}

// instr is an instruction that fits so many registers, and so much code.
func (c chance) instr(regs, code int) api.Instr {
	for {
		i := api.Instr{Op: api.Op(1 + c.Intn(int(api.LastOp)))}
		shape := op.Shape(i.Op)
		if regs == 0 && strings.ContainsAny(shape, "abcv") {
			continue
		}
		for _, letter := range shape {
			switch letter {
			case 'a':
				i.A = c.Intn(regs)
			case 'b':
				i.B = c.Intn(regs)
			case 'c':
				i.C = c.Intn(regs)
			case 'k':
				i.K = []int64{0, -1, 1, 63, -64, 64, math.MinInt64, math.MaxInt64, int64(c.Uint64())}[c.Intn(9)]
			case 't':
				i.K = int64(c.Intn(code))
			case 'r':
				i.K = int64(c.Intn(api.LastSum + 1))
			case 'C':
				i.Class = c.class()
			case 'F':
				i.Class, i.Name = c.class(), c.name()
			case 'M':
				i.Class, i.Name, i.Desc = c.class(), c.name(), c.one("()V", "(I)I", "([LA;[I)V", "(IIIIIIII)LB;")
			}
		}
		if op.IsCall(i.Op) {
			params, ret, _ := kind.Split(i.Desc)
			if i.Op != api.CallStatic {
				params = append(params, api.Type{})
			}
			if ret.Kind == api.Void {
				i.A = 0
			}
			i.Args = many(len(params), func(int) int { return c.Intn(regs) })
		}
		return i
	}
}

func (c chance) method(name, desc string) api.Method {
	params, _, _ := kind.Split(desc)
	m := api.Method{Name: name, Desc: desc, Static: c.Intn(2) == 0, Regs: len(params) + 1 + c.Intn(api.MaxRegs-len(params))}
	code := 1 + c.Intn(5)
	if c.Intn(20) == 0 {
		code = 100 + c.Intn(api.MaxCode-99)
	}
	m.Code = many(code, func(int) api.Instr { return c.instr(m.Regs, code) })
	return m
}

func (c chance) classNamed(name string) api.Class {
	k := api.Class{Name: name, Ifaces: c.rising(3, "I", "J", "K"), Abstract: c.Intn(2) == 0}
	if s := c.class(); s != name && c.Intn(2) == 0 {
		k.Super = s
	}
	for _, n := range c.rising(3, "f", "g", "h", "i") {
		types := []api.Type{{Kind: api.Int}, {Kind: api.Ints}, {Kind: api.Ref, Class: c.class()}, {Kind: api.Refs, Class: c.class()}}
		k.Fields = append(k.Fields, api.Field{Name: n, Type: types[c.Intn(4)], Static: c.Intn(2) == 0})
	}
	for _, n := range c.rising(3, "m", "n", "o") {
		for _, desc := range c.rising(2, "()V", "(I)I", "(LA;)[I") {
			k.Methods = append(k.Methods, c.method(n, desc))
		}
	}
	return k
}

func (c chance) unit() api.Unit {
	var u api.Unit
	for _, n := range c.rising(6, "A", "B", "C", "D", "a/B", "z") {
		u.Program.Classes = append(u.Program.Classes, c.classNamed(n))
	}
	for range c.Intn(4) {
		u.Program.Names = append(u.Program.Names, c.one("", "A", "m", "\x00\xff", "a text", strings.Repeat("z", 64)))
	}
	if c.Intn(2) == 0 {
		u.Program.Entry = api.MethodRef{Class: c.class(), Name: c.name(), Desc: c.one("()V", "()I")}
	}
	if u.Linked = c.Intn(2) == 0; u.Linked {
		for _, n := range c.rising(4, "A", "B", "T", "U") {
			t := api.Table{Class: n}
			for _, s := range c.rising(4, "<clinit>", "m", "n") {
				t.Slots = append(t.Slots, api.Slot{Name: s, Desc: "(I)V", Impl: c.one("", "A", "Q")})
			}
			u.Tables = append(u.Tables, t)
		}
	}
	return u
}

// TestThereAndBack: P9.2, P9.4, of units as chance has it.
func TestThereAndBack(t *testing.T) {
	c := chance{rand.New(rand.NewSource(1))}
	units := []api.Unit{{}, whole(), withPool(1024)}
	for range 400 {
		units = append(units, c.unit())
	}
	for _, u := range units {
		b, e := Encode(u)
		if e != api.OK || !bytes.Equal(b, asTold(u)) {
			t.Fatalf("%+v: %d, %d", u, b, e)
		}
		if v, f := Decode(b); f != (api.Fault{}) || !Same(u, v) {
			t.Fatalf("%+v: came back as %+v, %v", u, v, f)
		}
	}
}

// filledWith is a unit with so many instructions, besides what it must have.
func filledWith(n int) api.Unit {
	var u api.Unit
	for i := range api.MaxClasses {
		c := api.Class{Name: numbered(i)}
		for k := range 4 {
			code := many(1+min(n, api.MaxCode-1), func(int) api.Instr { return api.Instr{Op: api.Nop} })
			n -= len(code) - 1
			c.Methods = append(c.Methods, api.Method{Name: numbered(k), Desc: "()V", Static: true, Code: code})
		}
		u.Program.Classes = append(u.Program.Classes, c)
	}
	return u
}

// TestMaxBytes: P9.2, P9.3: as many bytes as may be, and one more.
func TestMaxBytes(t *testing.T) {
	const n = 62870
	u := filledWith(n)
	l := api.MaxBytes - len(asTold(u))
	if l < 0 || l > 100 {
		t.Fatalf("%d bytes are left", l)
	}
	// One instruction more is one byte more, as long as the method that is not full yet has more than 127 of them.
	u = filledWith(n + l)
	b, e := Encode(u)
	if e != api.OK || len(b) != api.MaxBytes {
		t.Fatalf("%d bytes, %d", len(b), e)
	}
	if v, f := Decode(b); f != (api.Fault{}) || !Same(u, v) {
		t.Errorf("as many as may be: %v", f)
	}
	u = filledWith(n + l + 1)
	if b, e := Encode(u); len(asTold(u)) != api.MaxBytes+1 || e != api.ErrLong || b != nil {
		t.Errorf("one more: %d bytes, %d", len(b), e)
	}
	if v, f := Decode(asTold(u)); f != (api.Fault{Errno: api.ErrLong}) || !Same(v, api.Unit{}) {
		t.Errorf("one more: %v", f)
	}
	// What else is wrong is not looked at.
	if _, f := Decode(make([]byte, api.MaxBytes+1)); f != (api.Fault{Errno: api.ErrLong}) {
		t.Errorf("one more, of another kind: %v", f)
	}
	if _, f := Decode(make([]byte, api.MaxBytes)); f != (api.Fault{Errno: api.ErrForm, At: 1}) {
		t.Errorf("as many as may be, of another kind: %v", f)
	}
}

// TestMark: P9.3, the four bytes.
func TestMark(t *testing.T) {
	for s, want := range map[string]api.Fault{
		"":     {Errno: api.ErrShort},
		"S":    {Errno: api.ErrShort, At: 1},
		"SEC":  {Errno: api.ErrShort, At: 3},
		"SEC1": {Errno: api.ErrShort, At: 4},
		"SEC2": {Errno: api.ErrForm, At: 4},
		"SE":   {Errno: api.ErrShort, At: 2},
		"s":    {Errno: api.ErrForm, At: 1},
		"sEC2": {Errno: api.ErrForm, At: 1},
		"SeC":  {Errno: api.ErrForm, At: 2},
		"SEXY": {Errno: api.ErrForm, At: 3},
	} {
		if u, f := Decode([]byte(s)); f != want || !Same(u, api.Unit{}) {
			t.Errorf("%q: %v, not %v", s, f, want)
		}
	}
	if _, f := Decode(nil); f != (api.Fault{Errno: api.ErrShort}) {
		t.Errorf("nil: %v", f)
	}
}

// strs is the pool of the containers that are wrong; "()V" and "m" are those that all of them have.
var strs = []string{"", "()I", "()V", "(I)V", "A", "B", "I", "LA;", "V", "f", "m", "x y"}

// The places of some of these.
const (
	sEmpty = iota
	sInt
	sVoid
	sOne
	sA
	sB
	sI
	sLA
	sV
	sf
	sm
	sxy
)

// around is the sections of a container in which one is another one.
func around(id int, b []byte) [][]byte {
	l := [][]byte{put(strs...), {0}, {0}, {0}, {0}}
	l[id-1] = b
	return l
}

// flaw is what a section has, and how reading it fails: at a place of it, or (At below 0) at 0.
type flaw struct {
	what string
	id   int
	b    []byte
	want api.Fault
}

// ofMethod is a class's bytes, with a method up to its code; code is how many instructions are told, and what stands behind.
func ofMethod(code ...byte) []byte {
	return append([]byte{1, sA, 0, 0, 0, 0, 1, sm, sVoid, 1, 32}, code...)
}

const behindMethod = 11 // how many bytes ofMethod has ahead of its code

// big is a number above 127 as bytes.
func big(n uint64) []byte {
	return leb.Put(n)
}

func cat(l ...[]byte) []byte {
	return bytes.Join(l, nil)
}

// flaws is what sections may not have.
func flaws() []flaw {
	form := func(at int) api.Fault { return api.Fault{Errno: api.ErrForm, At: at} }
	long := func(at int) api.Fault { return api.Fault{Errno: api.ErrLong, At: at} }
	short := func(at int) api.Fault { return api.Fault{Errno: api.ErrShort, At: at} }
	order := func(at int) api.Fault { return api.Fault{Errno: api.ErrOrder, At: at} }
	return []flaw{
		{"too many strings", 1, big(1025), long(0)},
		{"a string too few", 1, []byte{2, 1, 'A'}, short(3)},
		{"a string too long", 1, cat([]byte{1, 65}, make([]byte, 65)), long(1)},
		{"strings in disorder", 1, put("B", "A"), order(5)},
		{"a string twice", 1, put("A", "A", "B"), order(5)},
		{"something behind the pool", 1, append(put("A"), 0), form(3)},
		{"a number in another way", 1, []byte{0x80, 0}, form(0)},

		{"no classes", 2, nil, short(0)},
		{"too many classes", 2, []byte{65}, long(0)},
		{"as many classes as may be", 2, []byte{64}, short(1)},
		{"something behind the classes", 2, []byte{0, 0}, form(1)},
		{"a class's name", 2, []byte{1, 12}, long(1)},
		{"a super", 2, []byte{1, sA, 13}, long(2)},
		{"the last one as super", 2, []byte{1, sA, 12}, short(3)},
		{"a class's byte", 2, []byte{1, sA, 0, 4}, form(4)},
		{"a class's byte, both", 2, []byte{1, sA, 0, 3}, short(4)},
		{"too many ifaces", 2, []byte{1, sA, 0, 0, 9}, long(4)},
		{"as many ifaces as may be", 2, []byte{1, sA, 0, 0, 8}, short(5)},
		{"an iface", 2, []byte{1, sA, 0, 0, 1, 12}, long(5)},
		{"too many fields", 2, []byte{1, sA, 0, 0, 0, 33}, long(5)},
		{"as many fields as may be", 2, []byte{1, sA, 0, 0, 0, 32}, short(6)},
		{"a field's name", 2, []byte{1, sA, 0, 0, 0, 1, 12}, long(6)},
		{"a field's type", 2, []byte{1, sA, 0, 0, 0, 1, sf, 12}, long(7)},
		{"a field's type that is none", 2, []byte{1, sA, 0, 0, 0, 1, sf, sVoid}, form(8)},
		{"a field's type that is empty", 2, []byte{1, sA, 0, 0, 0, 1, sf, sEmpty, 2}, form(8)},
		{"a field's byte", 2, []byte{1, sA, 0, 0, 0, 1, sf, sI, 2}, form(9)},
		{"a field's byte, static", 2, []byte{1, sA, 0, 0, 0, 1, sf, sLA, 1}, short(9)},
		{"too many methods", 2, []byte{1, sA, 0, 0, 0, 0, 33}, long(6)},
		{"as many methods as may be", 2, []byte{1, sA, 0, 0, 0, 0, 32}, short(7)},
		{"a method's name", 2, []byte{1, sA, 0, 0, 0, 0, 1, 12}, long(7)},
		{"a method's descriptor", 2, []byte{1, sA, 0, 0, 0, 0, 1, sm, 12}, long(8)},
		{"a method's byte", 2, []byte{1, sA, 0, 0, 0, 0, 1, sm, sVoid, 4}, form(10)},
		{"a method's byte, both", 2, []byte{1, sA, 0, 0, 0, 0, 1, sm, sVoid, 3}, short(10)},
		{"too many registers", 2, []byte{1, sA, 0, 0, 0, 0, 1, sm, sVoid, 1, 33}, long(10)},
		{"as many registers as may be", 2, ofMethod(), short(behindMethod)},
		{"too many instructions", 2, ofMethod(big(257)...), long(behindMethod)},
		{"as many instructions as may be", 2, ofMethod(big(256)...), short(behindMethod + 2)},
		{"no instruction", 2, ofMethod(1, 0), form(behindMethod + 2)},
		{"no instruction, either", 2, ofMethod(1, 33), form(behindMethod + 2)},
		{"the last instruction's class", 2, ofMethod(1, 32, 12), long(behindMethod + 2)},
		{"a", 2, ofMethod(1, byte(api.Arith), 33), long(behindMethod + 2)},
		{"a, as great as may be", 2, ofMethod(1, byte(api.Arith), 32), short(behindMethod + 3)},
		{"b", 2, ofMethod(1, byte(api.Arith), 32, 33), long(behindMethod + 3)},
		{"b, as great as may be", 2, ofMethod(1, byte(api.Arith), 32, 32), short(behindMethod + 4)},
		{"c", 2, ofMethod(1, byte(api.Arith), 32, 32, 33), long(behindMethod + 4)},
		{"c, as great as may be", 2, ofMethod(1, byte(api.Arith), 32, 32, 32), short(behindMethod + 5)},
		{"what is reckoned", 2, ofMethod(1, byte(api.Arith), 32, 32, 32, 10), long(behindMethod + 5)},
		{"what is reckoned, as great as may be", 2, ofMethod(2, byte(api.Arith), 32, 32, 32, 9), short(behindMethod + 6)},
		{"a place of the code", 2, ofMethod(append([]byte{1, byte(api.Jump)}, big(257)...)...), long(behindMethod + 2)},
		{"a place of the code, as great as may be", 2, ofMethod(append([]byte{2, byte(api.Jump)}, big(256)...)...), short(behindMethod + 4)},
		{"a number with a sign", 2, ofMethod(1, byte(api.Const), 0, 0x80, 0), form(behindMethod + 3)},
		{"a field's class", 2, ofMethod(1, byte(api.GetStatic), 0, 12), long(behindMethod + 3)},
		{"a field of a class", 2, ofMethod(1, byte(api.GetStatic), 0, 0, 12), long(behindMethod + 4)},
		{"a call's class", 2, ofMethod(1, byte(api.Call), 0, 12), long(behindMethod + 3)},
		{"a call's name", 2, ofMethod(1, byte(api.Call), 0, 0, 12), long(behindMethod + 4)},
		{"a call's descriptor", 2, ofMethod(1, byte(api.Call), 0, 0, 0, 12), long(behindMethod + 5)},
		{"too many args", 2, ofMethod(1, byte(api.Call), 0, 0, 0, 0, 10), long(behindMethod + 6)},
		{"as many args as may be", 2, ofMethod(1, byte(api.Call), 0, 0, 0, 0, 9), short(behindMethod + 7)},
		{"an arg", 2, ofMethod(1, byte(api.Call), 0, 0, 0, 0, 2, 32, 33), long(behindMethod + 8)},
		{"the second class", 2, []byte{2, sA, 0, 0, 0, 0, 0, sB, 0, 4}, form(10)},

		{"no names", 3, nil, short(0)},
		{"too many names", 3, []byte{65}, long(0)},
		{"as many names as may be", 3, []byte{64}, short(1)},
		{"a name", 3, []byte{2, sxy, 12}, long(2)},
		{"something behind the names", 3, []byte{1, sm, sm}, form(2)},

		{"no entry, and no byte", 4, nil, short(0)},
		{"an entry's byte", 4, []byte{2}, form(1)},
		{"an entry of nothing", 4, []byte{1}, short(1)},
		{"an entry's class", 4, []byte{1, 12}, long(1)},
		{"an entry's name", 4, []byte{1, sA, 12}, long(2)},
		{"an entry's descriptor", 4, []byte{1, sA, sm, 12}, long(3)},
		{"something behind no entry", 4, []byte{0, 0}, form(1)},
		{"something behind an entry", 4, []byte{1, sA, sm, sVoid, 0}, form(4)},

		{"no byte of tables", 5, nil, short(0)},
		{"a byte of tables", 5, []byte{2}, form(1)},
		{"something behind no tables", 5, []byte{0, 0}, form(1)},
		{"linked with nothing", 5, []byte{1}, short(1)},
		{"too many tables", 5, []byte{1, 65}, long(1)},
		{"as many tables as may be", 5, []byte{1, 64}, short(2)},
		{"a table's class", 5, []byte{1, 1, 12}, long(2)},
		{"too many slots", 5, cat([]byte{1, 1, sA}, big(257)), long(3)},
		{"as many slots as may be", 5, cat([]byte{1, 1, sA}, big(256)), short(5)},
		{"a slot's name", 5, []byte{1, 1, sA, 1, 12}, long(4)},
		{"a slot's descriptor", 5, []byte{1, 1, sA, 1, sm, 12}, long(5)},
		{"a slot's impl", 5, []byte{1, 1, sA, 1, sm, sVoid, 13}, long(6)},
		{"the last one as impl", 5, []byte{1, 1, sA, 1, sm, sVoid, 12, 0}, form(7)},
	}
}

// TestFlaws: P9.3, what reading fails with, and where; whatever stands behind.
func TestFlaws(t *testing.T) {
	for _, w := range flaws() {
		l := around(w.id, w.b)
		want := w.want
		want.At += begins(l, w.id)
		broken := container(l[:w.id]...)
		for _, b := range [][]byte{container(l...), append(broken, "what is not looked at"...)} {
			if u, f := Decode(b); f != want || !Same(u, api.Unit{}) {
				t.Errorf("%s: %v, not %v", w.what, f, want)
			}
		}
	}
}

// TestNoStrings: P9.3: where there are no strings none can be told, but one that is missing can be.
func TestNoStrings(t *testing.T) {
	for i, b := range [][]byte{{1, 0}, {1, 0}, {1, 0, 0, 0}, {1, 1, 0}} {
		l := around(i+2, b)
		l[0] = []byte{0}
		want := api.Fault{Errno: api.ErrLong, At: begins(l, i+2) + 1}
		if i == 3 {
			want.At++
		}
		if _, f := Decode(container(l...)); f != want {
			t.Errorf("section %d: %v, not %v", i+2, f, want)
		}
	}
}

// TestSections: P9.3, what a section itself fails with, and what stands behind the last one.
func TestSections(t *testing.T) {
	l := around(2, []byte{0})
	whole := container(l...)
	for id := 1; id <= 5; id++ {
		from := len(container(l[:id-1]...))
		other := func(do func(b []byte)) api.Fault {
			b := slices.Clone(whole)
			do(b)
			u, f := Decode(b)
			if !Same(u, api.Unit{}) {
				t.Errorf("section %d: with %v there is something", id, f)
			}
			return f
		}
		if f := other(func(b []byte) { b[from]++ }); f != (api.Fault{Errno: api.ErrForm, At: from}) {
			t.Errorf("section %d, another id: %v", id, f)
		}
		last := len(container(l[:id]...)) - 1
		if f := other(func(b []byte) { b[last]++ }); f != (api.Fault{Errno: api.ErrSum, At: from + 2}) {
			t.Errorf("section %d, another sum: %v", id, f)
		}
		if _, f := Decode(whole[:last]); f != (api.Fault{Errno: api.ErrShort, At: from + 2}) {
			t.Errorf("section %d, a byte too few: %v", id, f)
		}
		if _, f := Decode(whole[:from]); f != (api.Fault{Errno: api.ErrShort, At: from}) {
			t.Errorf("section %d, missing: %v", id, f)
		}
	}
	if _, f := Decode(append(slices.Clip(whole), 0)); f != (api.Fault{Errno: api.ErrForm, At: len(whole)}) {
		t.Errorf("a byte behind: %v", f)
	}
}

// TestFirstFault: P9.3: a section is read to its end ahead of the next one.
func TestFirstFault(t *testing.T) {
	l := around(2, []byte{65})
	l[2], l[3] = []byte{65}, []byte{2}
	b := container(l...)
	b[len(b)-1]++
	want := api.Fault{Errno: api.ErrLong, At: begins(l, 2)}
	if _, f := Decode(b); f != want {
		t.Errorf("the classes are wrong first: %v, not %v", f, want)
	}
	l[1] = []byte{0, 9}
	want = api.Fault{Errno: api.ErrForm, At: begins(l, 2) + 1}
	if _, f := Decode(container(l...)); f != want {
		t.Errorf("the classes' end is wrong first: %v, not %v", f, want)
	}
	// A unit that can't be is seen when all was read alone.
	l = around(2, []byte{1, sxy, 0, 0, 0, 0, 0})
	l[4] = []byte{0, 7}
	want = api.Fault{Errno: api.ErrForm, At: begins(l, 5) + 1}
	if _, f := Decode(container(l...)); f != want {
		t.Errorf("the tables' end is wrong first: %v, not %v", f, want)
	}
	b = append(container(around(2, []byte{1, sxy, 0, 0, 0, 0, 0})...), 9)
	if _, f := Decode(b); f != (api.Fault{Errno: api.ErrForm, At: len(b) - 1}) {
		t.Errorf("the end is wrong first: %v", f)
	}
}

// TestReadButWrong: P9.3: what was read, but is no unit, or not told so.
func TestReadButWrong(t *testing.T) {
	method := func(code ...byte) []byte { return ofMethod(code...) }
	end := byte(api.End)
	for _, w := range []flaw{
		{"a class's name that is none", 2, []byte{1, sxy, 0, 0, 0, 0, 0}, api.Fault{Errno: api.ErrForm}},
		{"a field of Void", 2, []byte{1, sA, 0, 0, 0, 1, sf, sV, 0, 0}, api.Fault{Errno: api.ErrForm}},
		{"classes in disorder", 2, []byte{2, sB, 0, 0, 0, 0, 0, sA, 0, 0, 0, 0, 0}, api.Fault{Errno: api.ErrOrder}},
		{"a class twice", 2, []byte{2, sA, 0, 0, 0, 0, 0, sA, 0, 0, 0, 0, 0}, api.Fault{Errno: api.ErrOrder}},
		{"a register too great", 2, method(2, byte(api.Nil), 32, end), api.Fault{Errno: api.ErrForm}},
		{"a place behind the code", 2, method(append([]byte{2, byte(api.Jump), 2}, end)...), api.Fault{Errno: api.ErrForm}},
		{"the wrong args", 2, method(2, byte(api.CallStatic), 0, sA, sm, sVoid, 1, 0, end), api.Fault{Errno: api.ErrForm}},
		{"a method without code", 2, method(0), api.Fault{Errno: api.ErrForm}},
		{"an entry with parameters", 4, []byte{1, sA, sm, sOne}, api.Fault{Errno: api.ErrForm}},
		{"an entry without a name", 4, []byte{1, sA, sEmpty, sVoid}, api.Fault{Errno: api.ErrForm}},
		{"a table's class that is none", 5, []byte{1, 1, sxy, 0}, api.Fault{Errno: api.ErrForm}},
		{"a slot's descriptor that is none", 5, []byte{1, 1, sA, 1, sm, sm, 0}, api.Fault{Errno: api.ErrForm}},
		{"tables in disorder", 5, []byte{1, 2, sB, 0, sA, 0}, api.Fault{Errno: api.ErrOrder}},
		{"slots in disorder", 5, []byte{1, 1, sA, 2, sm, sVoid, 0, sf, sVoid, 0}, api.Fault{Errno: api.ErrOrder}},
		{"a pool with more", 2, []byte{1, sA, 0, 0, 0, 0, 0}, api.Fault{Errno: api.ErrOrder}},
	} {
		if u, f := Decode(container(around(w.id, w.b)...)); f != w.want || !Same(u, api.Unit{}) {
			t.Errorf("%s: %v, not %v", w.what, f, w.want)
		}
	}
	// The same, but with the pool that it has.
	l := around(2, []byte{1, 0, 0, 0, 0, 0, 0})
	l[0] = put("A")
	if u, f := Decode(container(l...)); f != (api.Fault{}) || !Same(u, api.Unit{Program: api.Program{Classes: []api.Class{{Name: "A"}}}}) {
		t.Errorf("a class alone: %v, %v", u, f)
	}
}

// TestEmptyByPlace: P9.5: what is empty is told as missing, not by the place of an empty string.
func TestEmptyByPlace(t *testing.T) {
	// "" 0, "()V" 1, "A" 2, "m" 3.
	sections := func(super, impl byte, entry ...byte) []byte {
		return container(put("", "()V", "A", "m"), []byte{1, 2, super, 0, 0, 0, 0}, []byte{1, 0}, entry, []byte{1, 1, 2, 1, 3, 1, impl})
	}
	b := sections(0, 0, 0)
	u, f := Decode(b)
	if f != (api.Fault{}) || u.Program.Classes[0].Super != "" || u.Program.Entry != (api.MethodRef{}) || u.Tables[0].Slots[0].Impl != "" {
		t.Fatalf("as missing: %v, %v", u, f)
	}
	want := api.Fault{Errno: api.ErrOrder}
	for what, b := range map[string][]byte{
		"a super":  sections(1, 0, 0),
		"an impl":  sections(0, 1, 0),
		"an entry": sections(0, 0, 1, 0, 0, 0),
	} {
		if u, f := Decode(b); f != want || !Same(u, api.Unit{}) {
			t.Errorf("%s by the place of what is empty: %v, not %v", what, f, want)
		}
	}
}

// TestOneContainer: P9.5, of containers whose sections have some byte more, less, or another one, under the right sums.
func TestOneContainer(t *testing.T) {
	c := chance{rand.New(rand.NewSource(2))}
	taken := 0
	for range 20000 {
		u := c.unit()
		if len(u.Program.Classes) > 2 {
			u.Program.Classes = u.Program.Classes[:2]
		}
		l := sectionsOf(t, asTold(u))
		for range 1 + c.Intn(2) {
			s := &l[c.Intn(len(l))]
			at := c.Intn(len(*s) + 1)
			switch c.Intn(4) {
			case 0:
				*s = slices.Insert(*s, at, byte(c.Intn(256)))
			case 1:
				*s = slices.Delete(*s, max(at-1, 0), at)
			default:
				if at < len(*s) {
					(*s)[at] = byte(c.Intn(40))
				}
			}
		}
		b := container(l...)
		v, f := Decode(b)
		if f != (api.Fault{}) {
			if f.Errno == api.OK || f.At < 0 || f.At > len(b) || !Same(v, api.Unit{}) {
				t.Fatalf("%d: %v, with %v", b, f, v)
			}
			continue
		}
		taken++
		if own, e := Encode(v); e != api.OK || !bytes.Equal(own, b) {
			t.Fatalf("%d is taken, but its own is %d", b, own)
		}
	}
	if taken < 1000 {
		t.Errorf("but %d are taken", taken)
	}
}

// sectionsOf is what the sections of a container have.
func sectionsOf(t *testing.T, b []byte) [][]byte {
	t.Helper()
	r := wire.Open(b[4:])
	var l [][]byte
	for id := byte(1); id <= 5; id++ {
		s := r.Section(id)
		var in []byte
		for s.Left() > 0 {
			in = append(in, s.Byte())
		}
		l = append(l, in)
	}
	if !r.End() {
		t.Fatal("no sections")
	}
	return l
}

// TestAnotherByte: P9.6, and of the first four.
func TestAnotherByte(t *testing.T) {
	b, _ := Encode(whole())
	for at := range b {
		for turn := 1; turn < 256; turn++ {
			other := slices.Clone(b)
			other[at] ^= byte(turn)
			u, f := Decode(other)
			if f == (api.Fault{}) && (at < 4 || Same(u, whole())) {
				t.Fatalf("byte %d turned by %d: the same unit", at, turn)
			}
		}
	}
}

// TestBeginnings: P9.7.
func TestBeginnings(t *testing.T) {
	for _, u := range []api.Unit{{}, whole(), withPool(300)} {
		b, _ := Encode(u)
		for size := range b {
			if v, f := Decode(b[:size]); f.Errno == api.OK || !Same(v, api.Unit{}) {
				t.Errorf("%d bytes of %d are a container", size, len(b))
			}
		}
	}
}

// TestStrange: P1, of what is no unit, and no container.
func TestStrange(t *testing.T) {
	strange := []api.Unit{
		{Tables: make([]api.Table, 3)},
		{Linked: true, Tables: []api.Table{{Class: strings.Repeat("x", 5000)}}},
		{Linked: true, Tables: []api.Table{{Class: "A", Slots: []api.Slot{{Name: "\xff", Desc: "(L"}}}}},
		{Program: api.Program{Classes: []api.Class{{Name: "A", Methods: []api.Method{{Regs: -1, Code: []api.Instr{{Op: -1}, {Op: math.MaxInt}}}}}}}},
		{Program: api.Program{Names: []string{strings.Repeat("x", 65)}}},
	}
	for _, u := range strange {
		if e := Right(u); e == api.OK {
			t.Errorf("%v can be", u)
		}
		Same(u, whole())
		if l, e := Strings(u); l != nil || e == api.OK {
			t.Errorf("%v: %q, %d", u, l, e)
		}
		if b, e := Encode(u); b != nil || e == api.OK {
			t.Errorf("%v: %d, %d", u, b, e)
		}
	}
	c := chance{rand.New(rand.NewSource(3))}
	for range 2000 {
		l := make([][]byte, 5)
		for i := range l {
			l[i] = many(c.Intn(12), func(int) byte { return byte(c.Intn(5)) })
		}
		l[0] = put(c.rising(8, "", "A", "B", "()V", "m")...)
		if u, f := Decode(container(l...)); f.Errno != api.OK && !Same(u, api.Unit{}) {
			t.Errorf("with %v there is %v", f, u)
		}
	}
}

// TestHandedIn: P3: what is handed in stays, its spare room too, and what is answered is the caller's.
func TestHandedIn(t *testing.T) {
	u := whole()
	u.Program.Names = append(u.Program.Names, "spare")[:4]
	u.Tables = append(u.Tables, api.Table{Class: "spare"})[:2]
	u.Tables[0].Slots = append(u.Tables[0].Slots, api.Slot{Name: "spare"})[:3]
	b, _ := Encode(u)
	Strings(u)
	Right(u)
	if !reflect.DeepEqual(u, whole()) || u.Program.Names[:5][4] != "spare" || u.Tables[:3][2].Class != "spare" || u.Tables[0].Slots[:4][3].Name != "spare" {
		t.Error("a unit is changed")
	}
	own := append(slices.Clone(b), "spare"...)
	v, _ := Decode(own[:len(b)])
	if !bytes.Equal(own, append(slices.Clone(b), "spare"...)) {
		t.Error("bytes are changed")
	}
	clear(own)
	if !Same(v, whole()) {
		t.Error("what was read hangs on the bytes")
	}
	w, _ := Decode(b)
	v.Program.Classes[0].Methods[2].Code[1].Args[0] = 9
	v.Program.Classes[0].Ifaces[0], v.Program.Names[0], v.Tables[0].Slots[0].Impl = "", "", ""
	if !Same(w, whole()) {
		t.Error("what was read is shared")
	}
	l, _ := Strings(u)
	clear(l)
	if m, _ := Strings(u); m[1] != "()I" || !reflect.DeepEqual(u, whole()) {
		t.Error("a pool is shared")
	}
}

// TestReadInPlaces: P3: no two lists of what was read share memory: one that grows does not run into another.
func TestReadInPlaces(t *testing.T) {
	b, _ := Encode(whole())
	u, _ := Decode(b)
	code := u.Program.Classes[0].Methods[2].Code
	_ = append(code[1].Args, 7)
	_ = append(u.Program.Classes[0].Ifaces, "Z")
	_ = append(u.Program.Classes[0].Fields, api.Field{Name: "z"})
	_ = append(u.Program.Names, "Z")
	_ = append(u.Tables[0].Slots, api.Slot{Name: "z"})
	if !Same(u, whole()) || norm.Right(u.Program) != api.OK {
		t.Error("lists run into another")
	}
}
