package step

import (
	"slices"

	"secateur/api"
)

// set is what was met, each with the number that it got then.
type set[T comparable] struct {
	met map[T]int
}

func (s *set[T]) has(x T) bool {
	_, is := s.met[x]
	return is
}

// number is a member's number; it is met from then on.
func (s *set[T]) number(x T) int {
	if s.met == nil {
		s.met = map[T]int{}
	}
	if !s.has(x) {
		s.met[x] = len(s.met)
	}
	return s.met[x]
}

// row is what was met, in the order in which it came first; a member's place is its number.
type row[T comparable] struct {
	set[T]
	members []T
}

// add is the number of what is met.
func (r *row[T]) add(x T) int {
	n := r.number(x)
	if n == len(r.members) {
		r.members = append(r.members, x)
	}
	return n
}

// trace is what a run came to.
type trace struct {
	entered row[api.MethodRef]
	edges   row[api.Edge]
	made    row[api.Site]
	began   row[string]
	read    row[api.FieldRef]
	found   row[string]
}

// told is the trace so far, in memory of its own.
func (t *trace) told() api.Trace {
	return api.Trace{
		Entered: slices.Clone(t.entered.members),
		Edges:   slices.Clone(t.edges.members),
		Made:    slices.Clone(t.made.members),
		Began:   slices.Clone(t.began.members),
		Read:    slices.Clone(t.read.members),
		Found:   slices.Clone(t.found.members),
	}
}
