package pack

import (
	"cmp"

	"secateur/api"
	"secateur/kind"
	"secateur/leb"
	"secateur/pool"
	"secateur/wire"
)

// port is where what a section has goes in or out: it is read, or written. In which order it stands is said once, for both.
// What is written is not changed: it is someone else's.
type port interface {
	num(n *int, most int)
	short(k *int64, most int)
	signed(k *int64)
	text(s *string)
	perhaps(s *string) // a string that may be missing
	kind(t *api.Type)
	op(o *api.Op)
	flags(l ...*bool) // a byte: 1, 2 for what is true
}

// reader is a port by which is read. Where something has failed it reads nothing, and what it says is dropped.
type reader struct {
	*wire.Reader
	pool []string
}

// begin reads what a container begins with.
func (r *reader) begin() {
	for i := range len(mark) {
		if r.Byte() != mark[i] {
			r.Fail(api.ErrForm)
		}
	}
}

// section reads a section to its end.
func (r *reader) section(id byte, u *api.Unit) api.Fault {
	in := reader{r.Section(id), r.pool}
	if id == poolID {
		r.pool = pool.Take(in.Reader)
	} else {
		part(&in, id, u)
	}
	in.End()
	return cmp.Or(r.Fault(), in.Fault())
}

func (r *reader) num(n *int, most int) {
	*n = r.Num(most)
}

func (r *reader) short(k *int64, most int) {
	*k = int64(r.Num(most))
}

func (r *reader) signed(k *int64) {
	*k = r.Signed()
}

func (r *reader) text(s *string) {
	// What fails is told as 0, but there may be no string at all.
	if at := r.Num(len(r.pool) - 1); at < len(r.pool) {
		*s = r.pool[at]
	}
}

func (r *reader) perhaps(s *string) {
	if behind := r.Num(len(r.pool)); behind > 0 {
		*s = r.pool[behind-1]
	}
}

func (r *reader) kind(t *api.Type) {
	var s string
	r.text(&s)
	read, e := kind.Parse(s)
	r.Fail(e)
	*t = read
}

func (r *reader) op(o *api.Op) {
	*o = api.Op(r.within(int(api.Nop), int(api.LastOp)))
}

func (r *reader) flags(l ...*bool) {
	b := r.within(0, 1<<len(l)-1)
	for i, on := range l {
		*on = b&(1<<i) != 0
	}
}

// within is a byte that may be from least to most.
func (r *reader) within(least, most int) int {
	b := int(r.Byte())
	if b < least || b > most {
		r.Fail(api.ErrForm)
	}
	return b
}

// writer is a port by which is written.
type writer struct {
	b      []byte
	places map[string]int
}

// placesOf is where each string of a pool stands.
func placesOf(l []string) map[string]int {
	places := map[string]int{}
	for at, s := range l {
		places[s] = at
	}
	return places
}

func (w *writer) put(n uint64) {
	w.b = append(w.b, leb.Put(n)...)
}

func (w *writer) num(n *int, _ int) {
	w.put(uint64(*n))
}

func (w *writer) short(k *int64, _ int) {
	w.put(uint64(*k))
}

func (w *writer) signed(k *int64) {
	w.put(leb.Zig(*k))
}

func (w *writer) text(s *string) {
	w.put(uint64(w.places[*s]))
}

func (w *writer) perhaps(s *string) {
	if *s == "" {
		w.put(0)
		return
	}
	w.put(uint64(w.places[*s] + 1))
}

func (w *writer) kind(t *api.Type) {
	s := kind.Text(*t)
	w.text(&s)
}

func (w *writer) op(o *api.Op) {
	w.b = append(w.b, byte(*o))
}

func (w *writer) flags(l ...*bool) {
	b := byte(0)
	for i, on := range l {
		if *on {
			b |= 1 << i
		}
	}
	w.b = append(w.b, b)
}
