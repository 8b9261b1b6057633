package unify_test

import (
	"cmp"
	"reflect"
	"slices"
	"strconv"

	"camlet/api"
	"camlet/ty"
	"camlet/unify"
)

func tv(n int) api.Ty { return api.Ty{Kind: api.TyVar, N: n} }

func tc(s string, args ...api.Ty) api.Ty { return api.Ty{Kind: api.TyCon, Name: s, Args: args} }

// tower: a type of so many nodes, at least 1, with another one at its end.
func tower(size int, end api.Ty) api.Ty {
	for range size - 1 {
		end = tc("ref", end)
	}
	return end
}

// row of types, nested to the right, since only few stand beside each other in a type.
func rowOf(l ...api.Ty) api.Ty {
	t := tc("unit")
	for _, x := range slices.Backward(l) {
		t = tc("*", x, t)
	}
	return t
}

// tell: a type as a text in which each node begins with a blank.
func tell(t api.Ty) string {
	if t.Kind == api.TyVar && t.Name == "" && len(t.Args) == 0 {
		return " '" + strconv.Itoa(t.N)
	}
	s := " " + t.Name
	if t.Kind != api.TyCon || t.N != 0 {
		s += "/" + strconv.Itoa(int(t.Kind)) + "/" + strconv.Itoa(t.N)
	}
	if len(t.Args) > 0 {
		s += " ("
		for _, arg := range t.Args {
			s += tell(arg)
		}
		s += " )"
	}
	return s
}

// row is a row of numbers that look mixed, the same at each run of the tests.
type row struct{ last uint32 }

func (r *row) below(n int) int {
	r.last = r.last*1664525 + 1013904223
	return int(r.last>>8) % n
}

// mixed: a valid type, so deep at most, with variables less than vars.
func (r *row) mixed(deep, vars int) api.Ty {
	several := func(n int) []api.Ty {
		var l []api.Ty
		for range n {
			l = append(l, r.mixed(deep-1, vars))
		}
		return l
	}
	form := r.below(7)
	if deep < 2 {
		form = 4 + r.below(3)
	}
	switch form {
	case 0, 1:
		return tc("->", several(2)...)
	case 2:
		return tc("*", several(2+r.below(2))...)
	case 3:
		return tc([]string{"list", "ref", "t"}[r.below(3)], several(1)...)
	case 4:
		return tc([]string{"int", "bool", "t"}[r.below(3)])
	}
	return tv(r.below(vars))
}

// newSub: a substitution with so many variables.
func newSub(vars int) *unify.Sub {
	s := unify.New()
	for range vars {
		s.Fresh()
	}
	return s
}

// told: the resolved forms of all variables.
func told(s *unify.Sub) string {
	all := ""
	for v := range s.Count() {
		t, e := s.Put(tv(v))
		all += strconv.Itoa(int(e)) + tell(t) + "\n"
	}
	return all
}

// model is a substitution that keeps the resolved forms of all variables.
type model struct{ forms []api.Ty }

func newModel(vars int) *model {
	m := &model{}
	for v := range vars {
		m.forms = append(m.forms, tv(v))
	}
	return m
}

func (m *model) unify(a, b api.Ty) api.Errno {
	before := slices.Clone(m.forms)
	e := m.pair(a, b)
	for _, t := range m.forms {
		if e == api.OK && ty.Size(t) > api.MaxTySize {
			e = api.ErrLong
		}
	}
	if e != api.OK {
		m.forms = before
	}
	return e
}

func (m *model) pair(a, b api.Ty) api.Errno {
	a, b = ty.Put(a, m.forms), ty.Put(b, m.forms)
	switch {
	case ty.Same(a, b):
		return api.OK
	case a.Kind == api.TyVar && b.Kind == api.TyVar:
		m.put(max(a.N, b.N), tv(min(a.N, b.N)))
		return api.OK
	case b.Kind == api.TyVar:
		return m.pair(b, a)
	case a.Kind == api.TyVar && slices.Contains(ty.Vars(b), a.N):
		return api.ErrLoop
	case a.Kind == api.TyVar:
		m.put(a.N, b)
		return api.OK
	case a.Name != b.Name || len(a.Args) != len(b.Args):
		return api.ErrClash
	}
	for i := range a.Args {
		if e := m.pair(a.Args[i], b.Args[i]); e != api.OK {
			return e
		}
	}
	return api.OK
}

func (m *model) put(v int, t api.Ty) {
	l := newModel(len(m.forms)).forms
	l[v] = t
	for i := range m.forms {
		m.forms[i] = ty.Put(m.forms[i], l)
	}
}

// told: what told says of a substitution of these forms.
func (m *model) told() string {
	all := ""
	for _, t := range m.forms {
		all += "0" + tell(t) + "\n"
	}
	return all
}

// roomy: the same type in new memory, with room behind all Args that is not empty.
func roomy(t api.Ty) api.Ty {
	args := make([]api.Ty, 0, len(t.Args)+2)
	for _, arg := range t.Args {
		args = append(args, roomy(arg))
	}
	t.Args = append(append(args, tc("behind")), tv(77))[:len(args)]
	return t
}

// rooms: all memory of the Args of types, also behind their ends.
func rooms(l ...api.Ty) [][]api.Ty {
	all := [][]api.Ty{l[:cap(l)]}
	for _, t := range l[:cap(l)] {
		all = append(all, rooms(t.Args...)...)
	}
	return slices.DeleteFunc(all, func(room []api.Ty) bool { return len(room) == 0 })
}

// areDisjoint: does no room share memory with another one?
func areDisjoint(all [][]api.Ty) bool {
	type span struct{ from, to uintptr }
	var l []span
	for _, room := range all {
		v := reflect.ValueOf(room)
		l = append(l, span{v.Pointer(), v.Pointer() + uintptr(v.Len())*v.Type().Elem().Size()})
	}
	slices.SortFunc(l, func(a, b span) int { return cmp.Compare(a.from, b.from) })
	for i := 1; i < len(l); i++ {
		if l[i].from < l[i-1].to {
			return false
		}
	}
	return true
}

// spoil overwrites all memory of the Args of types.
func spoil(l ...api.Ty) {
	for _, t := range l {
		for _, room := range rooms(t.Args...) {
			clear(room)
		}
	}
}
