package scheme_test

import (
	"strconv"
	"strings"

	"camlet/api"
	"camlet/ty"
)

func tv(n int) api.Ty { return api.Ty{Kind: api.TyVar, N: n} }

func tc(s string, args ...api.Ty) api.Ty { return api.Ty{Kind: api.TyCon, Name: s, Args: args} }

func of(vars int, t api.Ty) api.Scheme { return api.Scheme{Vars: vars, Ty: t} }

// tower: a type of so many nodes, at least 1, with another one at its end.
func tower(size int, end api.Ty) api.Ty {
	for range size - 1 {
		end = tc("ref", end)
	}
	return end
}

// wrong: types that are not valid.
func wrong() []api.Ty {
	l := []api.Ty{{}, tv(-1), tv(-1 << 63), {Kind: api.TyVar, Name: "a"}, {Kind: api.TyVar, Args: []api.Ty{tv(1)}}, {Kind: 3}, {Kind: -1, N: -1}, {Kind: api.TyCon, Name: "int", N: 1}, tc("int", tv(0)), tc("ref"), tc("->", tv(0)), tc("*", tv(0)), tc("Int"), tc("val"), tc("_"), tc(""), tc("t", make([]api.Ty, 9)...), tower(api.MaxTySize+1, tv(0))}
	for _, t := range l {
		l = append(l, tc("list", t), ty.Fn(tv(0), t), tc("*", t, tv(1), tc("int")))
	}
	return l
}

// tell: a type as a text in which each node begins with a blank.
func tell(t api.Ty) string {
	if t.Kind == api.TyVar && t.Name == "" && len(t.Args) == 0 {
		return " '" + strconv.Itoa(t.N)
	}
	s := " " + t.Name
	if t.Kind != api.TyCon || t.N != 0 {
		s += "/" + strconv.Itoa(int(t.Kind)) + "/" + strconv.Itoa(t.N)
	}
	if len(t.Args) > 0 {
		s += " ("
		for _, arg := range t.Args {
			s += tell(arg)
		}
		s += " )"
	}
	return s
}

func tellScheme(s api.Scheme) string { return strconv.Itoa(s.Vars) + tell(s.Ty) }

// replaced: what tell says of a type, with other texts in the place of its variables.
func replaced(told string, instead func(n int) string) string {
	s := ""
	for _, word := range strings.Fields(told) {
		if digits, isVar := strings.CutPrefix(word, "'"); isVar {
			n, _ := strconv.Atoi(digits)
			s += instead(n)
		} else {
			s += " " + word
		}
	}
	return s
}

// row is a row of numbers that look mixed, the same at each run of the tests.
type row struct{ last uint32 }

func (r *row) below(n int) int {
	r.last = r.last*1664525 + 1013904223
	return int(r.last>>8) % n
}

// mixed: a valid type, so deep at most, with variables less than vars.
func (r *row) mixed(deep, vars int) api.Ty {
	several := func(n int) []api.Ty {
		var l []api.Ty
		for range n {
			l = append(l, r.mixed(deep-1, vars))
		}
		return l
	}
	form := r.below(7)
	if deep < 2 {
		form = 4 + r.below(3)
	}
	switch form {
	case 0, 1:
		return tc("->", several(2)...)
	case 2:
		return tc("*", several(2+r.below(2))...)
	case 3:
		return tc([]string{"list", "ref", "t'", "_a"}[r.below(4)], several(1)...)
	case 4:
		return tc([]string{"int", "bool", "_a"}[r.below(3)])
	}
	return tv(r.below(vars))
}

// several mixed types.
func (r *row) several(n, deep, vars int) []api.Ty {
	l := make([]api.Ty, n)
	for i := range l {
		l[i] = r.mixed(deep, vars)
	}
	return l
}

// order: the numbers less than n, mixed.
func (r *row) order(n int) []int {
	l := make([]int, n)
	for i := range l {
		j := r.below(i + 1)
		l[i], l[j] = l[j], i
	}
	return l
}

// renamed: a scheme with other numbers for its quantified variables.
func renamed(s api.Scheme, numbers []int) api.Scheme {
	var l []api.Ty
	for _, n := range numbers {
		l = append(l, tv(n))
	}
	return of(s.Vars, ty.Put(s.Ty, l))
}

// small: all schemes of some forms, with up to 3 quantified variables and up to 3 variables in all.
func small() []api.Scheme {
	types := []api.Ty{tv(0), tv(1), tv(2), tc("int")}
	for _, a := range types[:4] {
		types = append(types, tc("list", a))
		for _, b := range types[:4] {
			types = append(types, ty.Fn(a, b))
		}
	}
	types = append(types, tc("bool"), tc("list", tc("int")), tc("t", tv(0)), tc("t", tv(0), tv(1)), tc("*", tv(0), tv(1)), tc("*", tv(0), tv(0), tv(1)))
	for v := range 3 {
		types = append(types, ty.Fn(ty.Fn(tv(0), tv(v)), tv(1)), ty.Fn(tv(v), tc("list", tv(1))), ty.Fn(tc("list", tv(v)), tc("list", tc("int"))))
	}
	var l []api.Scheme
	for _, t := range types {
		for vars := range 4 {
			l = append(l, of(vars, t))
		}
	}
	return l
}

// told: what tell says of the type of a scheme, with marks on its quantified variables, and free variables counted from 0 on.
func told(s api.Scheme, mark string) string {
	return replaced(tell(s.Ty), func(n int) string {
		if n < s.Vars {
			return " " + mark + strconv.Itoa(n)
		}
		return " free" + strconv.Itoa(n-s.Vars)
	})
}

// isMore: what More says of valid schemes. It tries all choices of parts of b for the variables that occur in a.
func isMore(a, b api.Scheme) bool {
	var parts []string
	var collect func(t api.Ty)
	collect = func(t api.Ty) {
		parts = append(parts, told(of(b.Vars, t), "same"))
		for _, arg := range t.Args {
			collect(arg)
		}
	}
	collect(b.Ty)
	var isChosen func(s string, v int) bool
	isChosen = func(s string, v int) bool {
		if v == a.Vars {
			return s == parts[0]
		}
		word := " '" + strconv.Itoa(v)
		if !strings.Contains(s, word) {
			return isChosen(s, v+1)
		}
		for _, part := range parts {
			if isChosen(strings.ReplaceAll(s, word, part), v+1) {
				return true
			}
		}
		return false
	}
	return isChosen(told(a, "'"), 0)
}

// roomy: the same type in new memory, with room behind all Args that is not empty.
func roomy(t api.Ty) api.Ty {
	args := make([]api.Ty, 0, len(t.Args)+2)
	for _, arg := range t.Args {
		args = append(args, roomy(arg))
	}
	t.Args = append(append(args, tc("behind")), tv(77))[:len(args)]
	return t
}

// rooms: all memory of types, also behind the ends of slices.
func rooms(l []api.Ty) [][]api.Ty {
	all := [][]api.Ty{l[:cap(l)]}
	for _, t := range l[:cap(l)] {
		all = append(all, rooms(t.Args)...)
	}
	return all
}

// areApart: does no room share memory with another one? Each place gets a number of its own, and must still have it in the end.
func areApart(all [][]api.Ty) bool {
	count := 0
	for _, room := range all {
		for i := range room {
			room[i] = tv(count)
			count++
		}
	}
	count = 0
	for _, room := range all {
		for i := range room {
			if room[i].N != count {
				return false
			}
			count++
		}
	}
	return true
}
