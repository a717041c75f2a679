package verify

import (
	"container/heap"
	"slices"

	"secateur/api"
	"secateur/flow"
	"secateur/join"
)

// agenda is the places that are to be gone through again; the first one of the code comes first.
type agenda []int

func (a agenda) Len() int           { return len(a) }
func (a agenda) Less(i, j int) bool { return a[i] < a[j] }
func (a agenda) Swap(i, j int)      { a[i], a[j] = a[j], a[i] }
func (a *agenda) Push(x any)        { *a = append(*a, x.(int)) }

func (a *agenda) Pop() any {
	last := len(*a) - 1
	at := (*a)[last]
	*a = (*a)[:last]
	return at
}

// search is what has been found of each place so far.
type search struct {
	p       api.Program
	facts   [][]api.Fact
	reached []bool
	open    agenda
}

// explore is what is known at each place of code, and whether it is reached.
func explore(p api.Program, code []api.Instr, start []api.Fact) ([][]api.Fact, []bool) {
	s := search{p: p, facts: make([][]api.Fact, len(code)), reached: make([]bool, len(code))}
	s.reach(0, start)
	for s.open.Len() > 0 {
		at := heap.Pop(&s.open).(int)
		behind, on := After(p, code[at], s.facts[at])
		if !on {
			continue
		}
		for _, next := range flow.Next(code, at) {
			s.reach(next, behind)
		}
	}
	return s.facts, s.reached
}

// reach notes that a place is reached with some facts; if that is news, the place is to be gone through again.
func (s *search) reach(at int, facts []api.Fact) {
	known := slices.Clone(facts)
	if s.reached[at] {
		known = join.Merge(s.p, s.facts[at], facts)
		if slices.Equal(known, s.facts[at]) {
			return
		}
	}
	s.facts[at], s.reached[at] = known, true
	heap.Push(&s.open, at)
}
