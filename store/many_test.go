package store

import (
	"math/rand"
	"slices"
	"testing"

	"secateur/api"
)

// model is an object told otherwise: lists of places, and of values that stand there.
type model struct {
	class  string
	fields []api.FieldRef
	values []api.Value
	items  []api.Value
}

// told is all that a store tells of its objects.
func told(t *testing.T, s *Store) []model {
	t.Helper()
	var l []model
	for n := range int64(s.Len()) {
		m := model{class: s.Class(n + 1), fields: s.Fields(n + 1), items: s.Items(n + 1)}
		for _, f := range m.fields {
			v, trap := s.Get(n+1, f)
			if trap != api.NoTrap {
				t.Fatalf("%d of %v: %d", n+1, f, trap)
			}
			m.values = append(m.values, v)
		}
		for i, v := range m.items {
			if got, trap := s.Load(n+1, int64(i)); got != v || trap != api.NoTrap {
				t.Fatalf("%d of %d: %v, %d, not %v", i, n+1, got, trap, v)
			}
		}
		l = append(l, m)
	}
	return l
}

func same(a, b []model) bool {
	return slices.EqualFunc(a, b, func(a, b model) bool {
		return a.class == b.class && slices.Equal(a.fields, b.fields) && slices.Equal(a.values, b.values) && slices.Equal(a.items, b.items)
	})
}

// deed is one call; it tells which trap there is, and does to the models what the call must do, if there is none.
func deed(t *testing.T, chance *rand.Rand, s *Store, l []model) (api.Trap, []model) {
	t.Helper()
	at, v := int64(chance.Intn(len(l)+3)-1), api.Value{Kind: api.ValueKind(chance.Intn(3)), N: int64(chance.Intn(9) - 2)}
	switch chance.Intn(8) {
	case 0:
		class := []string{"A", "B", "C", "D", "E", "Z"}[chance.Intn(6)]
		n, trap := s.Make(world(), class)
		if trap == api.NoTrap {
			fields, values := fieldsOf(class)
			l = append(l, model{class: class, fields: fields, values: slices.Clone(values)})
			checkNew(t, class, n, trap, int64(len(l)))
		}
		return trap, l
	case 1:
		of, size := []api.Type{typeInt, typeInts, typeAs}[chance.Intn(3)], int64(chance.Intn(7)-1)
		n, trap := s.Array(of, size)
		if trap == api.NoTrap {
			class, first := "[I", number(0)
			if of == typeAs {
				class, first = "[LA;", pointer(0)
			}
			l = append(l, model{class: class, items: slices.Repeat([]api.Value{first}, int(size))})
			checkNew(t, class, n, trap, int64(len(l)))
		}
		return trap, l
	case 2, 3, 4:
		f := ref([]string{"A", "B", "C"}[chance.Intn(3)], []string{"a", "c", "f", "g", "s"}[chance.Intn(5)])
		trap := s.Put(at, f, v)
		if trap == api.NoTrap {
			l[at-1].values[slices.Index(l[at-1].fields, f)] = v
		}
		return trap, l
	}
	i := int64(chance.Intn(7) - 1)
	trap := s.Save(at, i, v)
	if trap == api.NoTrap {
		l[at-1].items[i] = v
	}
	return trap, l
}

// TestMany: P18.4, P18.5, P18.6: behind each of many calls what was put is there, and nothing else is another one; with a trap nothing is; numbers rise, and classes stay.
func TestMany(t *testing.T) {
	met := map[api.Trap]int{}
	for seed := range int64(40) {
		chance, s := rand.New(rand.NewSource(seed)), New()
		var l []model
		for range 250 {
			trap, more := deed(t, chance, s, l)
			l = more
			if !same(told(t, s), l) {
				t.Fatalf("%d: %v, not %v", trap, told(t, s), l)
			}
			met[trap]++
		}
	}
	for _, trap := range []api.Trap{api.NoTrap, api.TrapNil, api.TrapBound, api.TrapSize, api.TrapWrong} {
		if met[trap] < 20 {
			t.Errorf("of %d there are %d", trap, met[trap])
		}
	}
}

// TestToTheFull: P18.5, P18.6, likewise where there is no more room.
func TestToTheFull(t *testing.T) {
	chance, s := rand.New(rand.NewSource(18)), New()
	var l []model
	for range 2000 {
		trap, more := deed(t, chance, s, l)
		l = more
		if trap == api.TrapHeap && len(l) != api.MaxHeap || s.Len() != len(l) {
			t.Fatalf("%d: %d, %d", trap, s.Len(), len(l))
		}
	}
	if !same(told(t, s), l) || len(l) != api.MaxHeap {
		t.Errorf("%d are there", len(l))
	}
}
