package verify

import (
	"slices"

	"secateur/api"
	"secateur/join"
	"secateur/kind"
)

// point is an instruction, and what is known of the registers ahead of it; it names what is there, and each register that it has is there.
type point struct {
	p api.Program
	i api.Instr
	s []api.Fact
}

func (x point) isInt(r int) bool {
	return x.s[r].Kind == api.IsInt
}

func (x point) isSet(r int) bool {
	return x.s[r].Kind != api.Unset
}

func (x point) isArray(r int) bool {
	switch x.s[r].Kind {
	case api.IsInts, api.IsRefs, api.IsNil:
		return true
	}
	return false
}

func (x point) fits(r int, t api.Type) bool {
	return join.Fits(x.p, x.s[r], t)
}

// fieldType is the type of the field that is named.
func (x point) fieldType() api.Type {
	f, _ := field(x.p, x.i)
	return f.Type
}

// holds tells whether what it asks holds, in a method with such an answer.
func (x point) holds(answer api.Type) bool {
	i := x.i
	switch i.Op {
	case api.Move:
		return x.isSet(i.B)
	case api.Arith:
		if !x.isInt(i.C) {
			return false
		}
		fallthrough
	case api.Branch, api.Out, api.NewInts, api.NewRefs, api.Make, api.Ask:
		return x.isInt(i.B)
	case api.BranchNil, api.Check, api.Is, api.Cast:
		return join.IsRef(x.s[i.B])
	case api.Load:
		if !x.isInt(i.C) {
			return false
		}
		fallthrough
	case api.Len:
		return x.isArray(i.B)
	case api.Store:
		return x.isInt(i.B) && x.holdsElement()
	case api.Put:
		if !x.fits(i.C, x.fieldType()) {
			return false
		}
		fallthrough
	case api.Get:
		return x.fits(i.B, ref(i.Class))
	case api.PutStatic:
		return x.fits(i.C, x.fieldType())
	case api.CallStatic, api.Call, api.CallIface:
		return x.holdsArgs()
	case api.Return:
		return x.fits(i.B, answer)
	case api.End:
		return answer.Kind == api.Void
	}
	return true
}

// holdsElement tells whether what is laid into an array can be one of its elements.
func (x point) holdsElement() bool {
	switch array := x.s[x.i.A]; array.Kind {
	case api.IsInts:
		return x.isInt(x.i.C)
	case api.IsRefs:
		return x.fits(x.i.C, ref(array.Class))
	case api.IsNil:
		return x.isSet(x.i.C)
	}
	return false
}

// holdsArgs tells whether a call hands over what it must.
func (x point) holdsArgs() bool {
	types, _, e := kind.Split(x.i.Desc)
	if x.i.Op != api.CallStatic {
		types = slices.Concat([]api.Type{ref(x.i.Class)}, types)
	}
	return e == api.OK && slices.EqualFunc(x.i.Args, types, x.fits)
}

// set is what is known of the register that it sets.
func (x point) set() api.Fact {
	switch i := x.i; i.Op {
	case api.Const, api.In, api.Arith, api.Len, api.Is, api.Ask:
		return api.Fact{Kind: api.IsInt}
	case api.Nil:
		return api.Fact{Kind: api.IsNil}
	case api.Move:
		return x.s[i.B]
	case api.New, api.Cast:
		return join.Of(ref(i.Class))
	case api.NewInts:
		return api.Fact{Kind: api.IsInts}
	case api.NewRefs:
		return api.Fact{Kind: api.IsRefs, Class: i.Class}
	case api.Load:
		return element(x.s[i.B])
	case api.Get, api.GetStatic:
		return join.Of(x.fieldType())
	case api.CallStatic, api.Call, api.CallIface:
		_, answer, _ := kind.Split(i.Desc)
		return join.Of(answer)
	case api.Make:
		return api.Fact{Kind: api.AnyRef}
	}
	return api.Fact{}
}

// element is what is known of what stands in an array.
func element(array api.Fact) api.Fact {
	switch array.Kind {
	case api.IsInts:
		return api.Fact{Kind: api.IsInt}
	case api.IsRefs:
		return join.Of(ref(array.Class))
	}
	return api.Fact{}
}
