package infer

import (
	"math"

	"camlet/api"
	"camlet/scheme"
	"camlet/ty"
	"camlet/unify"
)

// inference is what is known of types at a place in a program.
//
// A declaration must not quantify variables that are free in the types of visible names. To go through all of these for each declaration would take too long, so each variable has a depth: the number of declarations around the place where it was made, or where one was made of whose type it has become a part, if that is less. Inside a declaration only visible names lead to variables that were made before it. Hence those that it can quantify are those that are deeper than its surroundings.
type inference struct {
	sub     *unify.Sub
	depths  []int // of all variables of sub
	depth   int   // how many declarations are around the place
	cons    map[string]api.Scheme
	visible map[string][]api.Ty // of each name, the innermost last
}

// quantified is the depth of variables that stand for any types, and that are in nothing but the types of names.
const quantified = math.MaxInt

// name is a variable or a function of a program, where it is bound, and its type.
type name struct {
	text string
	at   int
	t    api.Ty
}

func newInference(t api.Table) *inference {
	in := &inference{sub: unify.New(), cons: map[string]api.Scheme{}, visible: map[string][]api.Ty{}}
	for i := range t {
		in.cons[t[i].Name] = t[i].Scheme
	}
	return in
}

func variable(v int) api.Ty { return api.Ty{Kind: api.TyVar, N: v} }

// fresh: a new type.
func (in *inference) fresh() api.Ty {
	in.depths = append(in.depths, in.depth)
	return in.sub.Fresh()
}

// sized: the resolved form of a type, which must not be too long, at a node.
func (in *inference) sized(t api.Ty, at int) api.Ty {
	form, e := in.sub.Put(t)
	if e != api.OK {
		fail(api.ErrLong, at)
	}
	return form
}

// vars: the variables of the resolved form of a type. That form can be too long for sub, but the forms of variables never are.
func (in *inference) vars(t api.Ty) []int {
	var l []int
	for _, v := range ty.Vars(t) {
		form, _ := in.sub.Put(variable(v))
		l = append(l, ty.Vars(form)...)
	}
	return l
}

// equal: a type must equal another one, at a node.
func (in *inference) equal(t, u api.Ty, at int) {
	met := append(in.vars(t), in.vars(u)...)
	switch e := in.sub.Unify(t, u); e {
	case api.OK:
	case api.ErrClash:
		fail(api.ErrType, at)
	default:
		fail(e, at)
	}
	for _, v := range met {
		for _, part := range in.vars(variable(v)) {
			in.depths[part] = min(in.depths[part], in.depths[v])
		}
	}
}

// settle decides what becomes of the variables of names as their declaration ends: it quantifies those that are its own if they may stand for any types, and otherwise leaves them to its surroundings.
func (in *inference) settle(l []name, isValue bool) {
	for _, n := range l {
		for _, v := range in.vars(n.t) {
			switch {
			case in.depths[v] <= in.depth:
			case isValue:
				in.depths[v] = quantified
			default:
				in.depths[v] = in.depth
			}
		}
	}
}

// put: a type at a node, with other types in place of its variables.
func (in *inference) put(t api.Ty, at int, instead func(v int) api.Ty) api.Ty {
	form, old := ty.Canon(in.sized(t, at))
	var l []api.Ty
	for _, v := range old {
		l = append(l, instead(v))
	}
	return ty.Put(form, l)
}

// instance: the type of a visible name where it is used.
func (in *inference) instance(text string, at int) api.Ty {
	l := in.visible[text]
	return in.put(l[len(l)-1], at, func(v int) api.Ty {
		if in.depths[v] == quantified {
			return in.fresh()
		}
		return variable(v)
	})
}

// scheme: that of a name at the end of the program.
func (in *inference) scheme(n name) api.Scheme {
	return scheme.Of(in.put(n.t, n.at, func(v int) api.Ty {
		if in.depths[v] == quantified {
			return variable(v)
		}
		return ty.Of("unit")
	}), nil)
}

// con: a new instance of the scheme of a constructor, at a node.
func (in *inference) con(text string, at int) api.Ty {
	s := in.cons[text]
	var l []api.Ty
	for range s.Vars {
		l = append(l, in.fresh())
	}
	t, e := scheme.Inst(s, l)
	if e != api.OK {
		fail(api.ErrLong, at)
	}
	return t
}

// show makes names visible.
func (in *inference) show(l []name) {
	for _, n := range l {
		in.visible[n.text] = append(in.visible[n.text], n.t)
	}
}

// hide ends the visibility of the names that were made visible last.
func (in *inference) hide(l []name) {
	for _, n := range l {
		types := in.visible[n.text]
		in.visible[n.text] = types[:len(types)-1]
	}
}
