package unify_test

import (
	"slices"
	"strings"
	"testing"

	"camlet/api"
	"camlet/ty"
	"camlet/unify"
)

// ask: Unify has this result, and changes nothing if it is an error.
func ask(t *testing.T, s *unify.Sub, a, b api.Ty, want api.Errno) {
	t.Helper()
	before := told(s)
	if got := s.Unify(a, b); got != want {
		t.Errorf("Unify of%.300s and%.300s is %d and not %d", tell(a), tell(b), got, want)
	} else if after := told(s); want != api.OK && after != before {
		t.Errorf("Unify of%.300s and%.300s changed%.300sto%.300s", tell(a), tell(b), before, after)
	}
}

func isPut(t *testing.T, s *unify.Sub, x api.Ty, want string, e api.Errno) {
	t.Helper()
	if got, bad := s.Put(x); bad != e || tell(got) != want {
		t.Errorf("Put of%.300s is%.300s, %d and not%.300s, %d", tell(x), tell(got), bad, want, e)
	}
}

const zero = " /0/0"

func TestP901NilSub(t *testing.T) {
	var s *unify.Sub
	for _, x := range []api.Ty{{}, tc("int"), tv(0), tv(-1), tower(1000, tc("int"))} {
		if s.Unify(x, x) != api.ErrState || s.Unify(tc("int"), x) != api.ErrState || s.Unify(x, tc("bool")) != api.ErrState {
			t.Error("Unify of a nil Sub")
		}
		isPut(t, s, x, zero, api.ErrState)
		if tell(s.Fresh()) != zero || s.Count() != 0 {
			t.Error("Fresh or Count of a nil Sub")
		}
	}
}

func TestP902FreshAndCount(t *testing.T) {
	s, other := unify.New(), unify.New()
	for n := range 1000 {
		if s.Count() != n || other.Count() != 0 {
			t.Fatal("the counts are", s.Count(), other.Count())
		}
		isPut(t, s, tv(n), zero, api.ErrArg)
		if x := s.Fresh(); tell(x) != tell(tv(n)) {
			t.Fatal("variable", n, "is", tell(x))
		}
		isPut(t, s, tv(n), tell(tv(n)), api.OK)
		// what is done with the variables is nothing to the next one
		switch n % 4 {
		case 1:
			s.Unify(tv(n), tc("list", tv(n-1)))
		case 2:
			s.Unify(tv(n), tv(n-2))
		case 3:
			s.Unify(tc("*", tv(n), tc("int")), tc("*", tc("int"), tc("bool")))
		}
	}
	isPut(t, other, tv(0), zero, api.ErrArg)
}

func TestP903Examples(t *testing.T) {
	s := newSub(2)
	ask(t, s, ty.Fn(tv(0), tc("int")), tv(1), api.OK)
	isPut(t, s, tv(1), " -> ( '0 int )", api.OK)
	ask(t, s, tv(0), tv(1), api.ErrLoop)
	ask(t, s, tv(1), tc("bool"), api.ErrClash)
	isPut(t, s, tv(1), " -> ( '0 int )", api.OK)
	isPut(t, s, tv(0), " '0", api.OK)
}

func TestP903NotOfTheSubstitution(t *testing.T) {
	s := newSub(3)
	wrong := []api.Ty{{}, tv(3), tv(-1), tv(1 << 62), {Kind: api.TyVar, N: 0, Name: "a"}, {Kind: api.TyVar, N: 0, Args: []api.Ty{tv(1)}}, {Kind: 3}, {Kind: api.TyCon, Name: "int", N: 1}, tc("int", tv(0)), tc("ref"), tc("->", tv(0)), tc("*", tv(0)), tc("Int"), tc("val"), tc(""), tower(api.MaxTySize+1, tv(0))}
	for _, x := range wrong {
		for _, y := range []api.Ty{x, tc("list", x), ty.Fn(tv(1), x), tc("*", x, tc("int"), tc("bool"))} {
			for _, right := range []api.Ty{tv(0), tv(2), tc("int"), tc("list", tc("int")), ty.Fn(tv(0), tv(0))} {
				ask(t, s, y, right, api.ErrArg)
				ask(t, s, right, y, api.ErrArg)
			}
			// no other error comes first
			ask(t, s, tc("*", tc("int"), y), tc("bool"), api.ErrArg)
			ask(t, s, y, y, api.ErrArg)
			isPut(t, s, y, zero, api.ErrArg)
		}
	}
	ask(t, s, tower(api.MaxTySize, tv(0)), tower(api.MaxTySize, tv(2)), api.OK)
	isPut(t, s, tv(2), " '0", api.OK)
	s.Fresh()
	ask(t, s, tv(3), tc("int"), api.OK)
}

func TestP903IdentifiedVariables(t *testing.T) {
	s := newSub(6)
	for i, pair := range [][2]int{{3, 3}, {5, 4}, {2, 3}, {3, 2}, {3, 5}, {4, 2}, {1, 4}, {0, 0}} {
		ask(t, s, tv(pair[0]), tv(pair[1]), api.OK)
		want := []string{"012345", "012344", "012244", "012244", "012222", "012222", "011111", "011111"}[i]
		for v := range 6 {
			isPut(t, s, tc("list", tv(v)), " list ( '"+want[v:v+1]+" )", api.OK)
		}
	}
	ask(t, s, tc("list", tv(5)), tv(3), api.ErrLoop)
	ask(t, s, tv(4), ty.Fn(tv(0), tv(2)), api.ErrLoop)
	ask(t, s, tv(4), ty.Fn(tv(0), tv(0)), api.OK)
	for v := 1; v < 6; v++ {
		isPut(t, s, tv(v), " -> ( '0 '0 )", api.OK)
	}
	ask(t, s, tv(2), tc("int"), api.ErrClash)
	ask(t, s, tv(2), tv(0), api.ErrLoop)
	ask(t, s, ty.Fn(tc("int"), tv(0)), tv(5), api.OK)
	isPut(t, s, tv(1), " -> ( int int )", api.OK)
}

func TestP903OrderOfErrors(t *testing.T) {
	i, b, loop := tc("int"), tc("bool"), tc("list", tv(0))
	for _, x := range []struct {
		a, b api.Ty
		want api.Errno
	}{
		{tc("t"), tc("u"), api.ErrClash},
		{tc("t", loop), tc("t"), api.ErrClash},
		{tc("t", i), tc("t", i, i), api.ErrClash},
		{tc("t", tv(0), i), tc("u", loop, i), api.ErrClash},
		{tc("*", tv(0), i, i), tc("*", loop, i), api.ErrClash},
		{tc("*", tv(0), i), tc("*", loop, b), api.ErrLoop},
		{tc("*", i, tv(0)), tc("*", b, loop), api.ErrClash},
		// each pair is done completely before the next one
		{tc("*", tc("*", i, tv(0)), i), tc("*", tc("*", i, loop), b), api.ErrLoop},
		{tc("*", tc("*", i, i), tv(0)), tc("*", tc("*", i, b), loop), api.ErrClash},
		// what the pairs before have found counts
		{tc("*", tv(0), tv(0)), tc("*", tv(1), loop), api.ErrLoop},
		{tc("*", tv(0), tv(1)), tc("*", tv(1), loop), api.ErrLoop},
		{tc("*", tv(0), tv(1)), tc("*", tc("list", tv(1)), loop), api.ErrLoop},
		{tc("*", tv(1), tv(1), tv(0)), tc("*", i, b, loop), api.ErrClash},
		{tc("*", tv(2), tv(1), tv(2)), tc("*", tv(1), i, b), api.ErrClash},
	} {
		s := newSub(3)
		ask(t, s, x.a, x.b, x.want)
		ask(t, s, x.b, x.a, x.want)
	}
	// types that are too long are met last
	for _, x := range []struct {
		a, b api.Ty
		want api.Errno
	}{{i, i, api.ErrLong}, {i, b, api.ErrClash}, {tv(2), tc("list", tv(2)), api.ErrLoop}, {tv(2), tc("list", tv(0)), api.ErrLoop}, {tv(2), tv(3), api.ErrLong}} {
		s := newSub(4)
		ask(t, s, tv(0), tower(200, tv(1)), api.OK)
		ask(t, s, tc("*", tv(1), x.a), tc("*", tower(100, tv(2)), x.b), x.want)
		ask(t, s, tc("*", x.a, tv(1)), tc("*", x.b, tower(100, tv(2))), x.want)
	}
}

func TestP903LongForms(t *testing.T) {
	const most = api.MaxTySize
	i := tc("int")
	for over := range 3 {
		want := []api.Errno{api.OK, api.ErrLong, api.ErrLong}[over]
		// of the variable that is bound: 199 nodes, and a variable of 57 nodes or more
		s := newSub(4)
		ask(t, s, tv(2), tower(most-199+over, i), api.OK)
		ask(t, s, tv(0), tower(200, tv(2)), want)
		// of one in whose type that variable stands
		s = newSub(4)
		ask(t, s, tv(0), tower(200, tv(2)), api.OK)
		ask(t, s, tv(2), tower(most-199+over, i), want)
		// and if it is identified with others
		s = newSub(4)
		ask(t, s, tv(0), tower(200, tv(2)), api.OK)
		ask(t, s, tv(3), tv(1), api.OK)
		ask(t, s, tv(2), tv(3), api.OK)
		ask(t, s, tv(3), tower(most-199+over, tv(0)), api.ErrLoop)
		ask(t, s, tv(3), tower(most-199+over, i), want)
		// two steps from there, and all of it found in one call
		s = newSub(4)
		ask(t, s, tv(3), tower(100, tv(2)), api.OK)
		ask(t, s, tv(2), tower(100, tv(1)), api.OK)
		ask(t, s, tc("*", tv(1), tv(0)), tc("*", tower(50, tv(0)), tower(most-247+over, i)), want)
		// each occurrence counts: 1 node, and 5 of 51 nodes
		s = newSub(4)
		ask(t, s, tv(1), tc("t", tv(0), tv(0), tv(0), tv(3), tv(2)), api.OK)
		ask(t, s, tc("*", tv(3), tv(0)), tc("*", tv(2), tv(3)), api.OK)
		ask(t, s, tv(2), tower(51+over, tv(3)), api.ErrLoop)
		ask(t, s, tv(2), tower(51+over, i), want)
	}
}

func TestP903FormsOfTypesCanBeLong(t *testing.T) {
	s := newSub(3)
	ask(t, s, tv(0), tower(200, tv(1)), api.OK)
	long := tower(100, tv(0))
	ask(t, s, long, long, api.OK)
	ask(t, s, long, tower(100, tv(2)), api.OK)
	isPut(t, s, long, zero, api.ErrLong)
	isPut(t, s, tv(2), tell(tower(200, tv(1))), api.OK)
	ask(t, s, tower(101, tv(1)), long, api.ErrLoop)
	ask(t, s, tower(101, tc("int")), long, api.ErrClash)
}

// ladder: for variables from a first one on, and the given number of steps, the variables, and types that make each one twice as large as the next one.
func ladder(first, steps int) (vars, twice []api.Ty) {
	for v := first; v < first+steps; v++ {
		vars = append(vars, tv(v))
		twice = append(twice, ty.Fn(tv(v+1), tv(v+1)))
	}
	return vars, twice
}

func TestP903FormsOfHugeSizesInOneCall(t *testing.T) {
	const steps = 29
	up, twice := ladder(0, steps)
	right, again := ladder(100, steps)
	for _, x := range []struct {
		a, b api.Ty
		want api.Errno
	}{
		{tv(0), tv(100), api.ErrLong},
		{ty.Fn(tv(0), tc("int")), ty.Fn(tv(100), tc("bool")), api.ErrClash},
		{ty.Fn(tv(0), tv(50)), ty.Fn(tv(100), tc("list", tv(50))), api.ErrLoop},
		{tv(steps), tv(0), api.ErrLoop},
		{ty.Fn(tv(1), tv(1)), tv(100), api.ErrLong},
		{tv(1), tv(100), api.ErrLong},
		{ty.Fn(tv(1), tv(100+steps)), ty.Fn(tv(100), tv(100+steps)), api.ErrLong},
		{ty.Fn(tv(1), tv(steps)), ty.Fn(tv(100), tc("int")), api.ErrClash},
		{ty.Fn(tv(1), tv(0)), ty.Fn(tv(100), tv(100)), api.ErrLoop},
	} {
		left, types := slices.Concat(up, right), slices.Concat(twice, again)
		for range 2 {
			ask(t, newSub(200), rowOf(append(left, x.a)...), rowOf(append(types, x.b)...), x.want)
			slices.Reverse(left)
			slices.Reverse(types)
		}
	}
}

func TestP903FormsOfHugeSizesBesideTypes(t *testing.T) {
	// no two variables meet each other, since one side is always a step behind
	four := func(v int) api.Ty { return ty.Fn(ty.Fn(tv(v), tv(v)), ty.Fn(tv(v), tv(v))) }
	var left, right []api.Ty
	for v := range 15 {
		left = append(left, tv(v), tv(100+v))
		right = append(right, four(v+1), four(101+v))
	}
	behind := ty.Fn(tv(100), tv(100))
	for _, x := range []struct {
		a, b api.Ty
		want api.Errno
	}{
		{tv(99), tv(98), api.ErrLong},
		{tc("int"), tc("bool"), api.ErrClash},
		{tv(99), tc("list", tv(99)), api.ErrLoop},
		{tv(15), tv(115), api.ErrLoop},
		{tv(15), tv(99), api.ErrLong},
	} {
		s := newSub(200)
		ask(t, s, rowOf(append(left, ty.Fn(tv(0), x.a))...), rowOf(append(right, ty.Fn(behind, x.b))...), x.want)
	}
}

func TestP903AllPairsOfSmallTypes(t *testing.T) {
	var l []api.Ty
	for _, a := range []api.Ty{tv(0), tv(1), tv(2), tc("int")} {
		l = append(l, a, tc("list", a))
		for _, b := range []api.Ty{tv(0), tv(1), tv(2), tc("list", tv(0)), tc("int")} {
			l = append(l, ty.Fn(a, b))
		}
	}
	count := map[api.Errno]int{}
	for _, first := range [][2]api.Ty{{tc("int"), tc("int")}, {tv(2), tv(1)}, {tv(1), tc("list", tv(2))}, {tv(0), ty.Fn(tv(1), tv(1))}} {
		for _, a := range l {
			for _, b := range l {
				s, m := newSub(3), newModel(3)
				s.Unify(first[0], first[1])
				m.unify(first[0], first[1])
				got, want := s.Unify(a, b), m.unify(a, b)
				if got != want || told(s) != m.told() {
					t.Fatal("Unify of", tell(a), "and", tell(b), "is", got, "and makes\n", told(s), "and not", want, m.told())
				}
				count[got]++
			}
		}
	}
	if len(count) != 3 || count[api.OK] == 0 {
		t.Error(count)
	}
}

func TestP903MixedTypes(t *testing.T) {
	r := &row{9}
	count := map[api.Errno]int{}
	for range 400 {
		vars := 1 + r.below(12)
		s, m := newSub(vars), newModel(vars)
		for range 3 + r.below(20) {
			if r.below(4) == 0 {
				m.forms = append(m.forms, s.Fresh())
				vars++
			}
			a, b := r.mixed(1+r.below(5), vars), r.mixed(1+r.below(3), vars)
			if r.below(4) == 0 {
				a, b = tower(1+r.below(150), tv(r.below(vars))), tv(r.below(vars))
			}
			got, want := s.Unify(a, b), m.unify(a, b)
			if got != want || told(s) != m.told() || s.Count() != vars {
				t.Fatal("Unify of", tell(a), "and", tell(b), "is", got, "and makes\n", told(s), "and not", want, m.told())
			}
			count[got]++
		}
	}
	for _, e := range []api.Errno{api.OK, api.ErrClash, api.ErrLoop, api.ErrLong} {
		if count[e] < 30 {
			t.Error(count)
		}
	}
}

func TestP904Put(t *testing.T) {
	s := newSub(5)
	ask(t, s, tv(1), tc("*", tv(4), tv(2), tc("int")), api.OK)
	ask(t, s, tv(3), tc("list", tv(1)), api.OK)
	ask(t, s, tv(4), tv(2), api.OK)
	isPut(t, s, tv(0), " '0", api.OK)
	isPut(t, s, tc("bool"), " bool", api.OK)
	isPut(t, s, tv(4), " '2", api.OK)
	isPut(t, s, ty.Fn(tv(3), tv(4)), " -> ( list ( * ( '2 '2 int ) ) '2 )", api.OK)
	for _, x := range []api.Ty{tv(5), tc("list", tv(5)), tv(-1), {}, tc("list", api.Ty{}), tc("int", tv(0)), tower(api.MaxTySize+1, tc("int"))} {
		isPut(t, s, x, zero, api.ErrArg)
	}
	s = newSub(2)
	ask(t, s, tv(1), tower(200, tv(0)), api.OK)
	isPut(t, s, tower(57, tv(1)), tell(tower(256, tv(0))), api.OK)
	isPut(t, s, tower(58, tv(1)), zero, api.ErrLong)
	isPut(t, s, tc("*", tv(1), tv(1)), zero, api.ErrLong)
	isPut(t, s, tc("*", tv(1), tower(55, tv(0))), tell(tc("*", tower(200, tv(0)), tower(55, tv(0)))), api.OK)
	isPut(t, s, tc("*", tv(1), tower(56, tv(0))), zero, api.ErrLong)
	ask(t, s, tv(0), tc("ref", tc("int")), api.OK)
	isPut(t, s, tower(57, tv(1)), zero, api.ErrLong)
	isPut(t, s, tower(256, tc("int")), tell(tower(256, tc("int"))), api.OK)
	// the error that a type does not belong to the substitution comes first
	isPut(t, s, tc("*", tv(1), tv(1), tv(2)), zero, api.ErrArg)
}

func TestP904MixedTypes(t *testing.T) {
	r := &row{10}
	long := 0
	for range 300 {
		s, m := newSub(6), newModel(6)
		for range 6 {
			a, b := tv(r.below(6)), tower(1+r.below(40), r.mixed(4, 6))
			s.Unify(a, b)
			m.unify(a, b)
			x := r.mixed(5, 6)
			if want := ty.Put(x, m.forms); ty.Size(want) <= api.MaxTySize {
				isPut(t, s, x, tell(want), api.OK)
			} else {
				isPut(t, s, x, zero, api.ErrLong)
				long++
			}
		}
	}
	if long < 10 {
		t.Error("only", long, "types are too long")
	}
}

func TestP905EqualTypesRemainEqual(t *testing.T) {
	r := &row{11}
	for range 200 {
		s := newSub(10)
		var equal [][2]api.Ty
		for range 15 {
			a, b := r.mixed(3, 10), r.mixed(3, 10)
			if s.Unify(a, b) == api.OK {
				equal = append(equal, [2]api.Ty{a, b})
			}
			s.Fresh()
			before := told(s)
			for _, pair := range equal {
				x, e := s.Put(pair[0])
				y, bad := s.Put(pair[1])
				if e != bad || tell(x) != tell(y) {
					t.Fatal("Put of", tell(pair[0]), "is", tell(x), e, "and of", tell(pair[1]), tell(y), bad)
				}
				if s.Unify(pair[0], pair[1]) != api.OK || s.Unify(pair[1], pair[0]) != api.OK || e == api.OK && s.Unify(x, pair[1]) != api.OK {
					t.Fatal(tell(pair[0]), "and", tell(pair[1]), "are no longer equal")
				}
			}
			if told(s) != before {
				t.Fatal("Unify of equal types makes", told(s), "of", before)
			}
		}
	}
}

// parts: a type and the types in it.
func parts(t api.Ty) []api.Ty {
	l := []api.Ty{t}
	for _, arg := range t.Args {
		l = append(l, parts(arg)...)
	}
	return l
}

// hidden: a type with variables in the place of some of its parts, which the variables stand for.
func (r *row) hidden(t api.Ty, stand []api.Ty) api.Ty {
	first := r.below(len(stand))
	for i := range stand {
		if v := (first + i) % len(stand); r.below(3) == 0 && ty.Same(stand[v], t) {
			return tv(v)
		}
	}
	form := tc(t.Name)
	for _, arg := range t.Args {
		form.Args = append(form.Args, r.hidden(arg, stand))
	}
	return form
}

func TestP906MostGeneral(t *testing.T) {
	r := &row{12}
	for range 400 {
		// an assignment in which many types have equal parts
		var stand []api.Ty
		for range 1 + r.below(3) {
			stand = append(stand, parts(ty.Put(r.mixed(4, 1), []api.Ty{tc("int")}))...)
		}
		for range r.below(4) {
			stand = append(stand, stand[r.below(len(stand))])
		}
		for i := range stand {
			j := r.below(len(stand))
			stand[i], stand[j] = stand[j], stand[i]
		}
		s := newSub(len(stand))
		for range 12 {
			whole := stand[r.below(len(stand))]
			a, b := r.hidden(whole, stand), r.hidden(whole, stand)
			if e := s.Unify(a, b); e != api.OK {
				t.Fatal("Unify of", tell(a), "and", tell(b), "is", e)
			}
			if s.Unify(tc("*", r.mixed(3, len(stand)), tc("int")), tc("*", r.mixed(3, len(stand)), tc("bool"))) == api.OK {
				t.Fatal("int is bool")
			}
			for v := range stand {
				x, e := s.Put(tv(v))
				if e != api.OK || tell(ty.Put(x, stand)) != tell(stand[v]) {
					t.Fatal("variable", v, "stands for", tell(stand[v]), "but is", tell(x), e)
				}
			}
		}
	}
}

func TestP901ArgumentsAndResultsShareNothing(t *testing.T) {
	r := &row{13}
	for range 150 {
		s, m := newSub(8), newModel(8)
		for range 8 {
			a, b := roomy(r.mixed(4, 8)), roomy(r.mixed(3, 8))
			all := []api.Ty{a, b}
			before := ""
			for _, room := range rooms(a, b) {
				before += tell(tc("t", room...))
			}
			want := m.unify(a, b)
			got := s.Unify(a, b)
			var results []api.Ty
			for _, x := range []api.Ty{a, b, a, tv(0), tv(7), tv(7)} {
				form, _ := s.Put(x)
				results = append(results, form)
			}
			after := ""
			for _, room := range rooms(a, b) {
				after += tell(tc("t", room...))
			}
			if before != after || got != want {
				t.Fatal("Unify or Put changed", before, "to", after)
			}
			if !areDisjoint(rooms(append(all, results...)...)) {
				t.Fatal("the types", tell(a), tell(b), "and their forms share memory")
			}
			spoil(a, b)
			spoil(results...)
			if told(s) != m.told() {
				t.Fatal("what was done to arguments and results changed", m.told(), "to", told(s))
			}
		}
	}
}

func TestP901SubstitutionsAreIndependent(t *testing.T) {
	r := &row{14}
	one, two, m := newSub(6), newSub(6), newModel(6)
	for range 200 {
		a, b := r.mixed(2, 6), r.mixed(2, 6)
		before := told(two)
		e := one.Unify(a, b)
		if told(two) != before {
			t.Fatal("a call for one substitution changes another one")
		}
		if two.Unify(a, b) != e || m.unify(a, b) != e || told(one) != told(two) {
			t.Fatal("two substitutions of the same history differ")
		}
		if r.below(10) == 0 {
			one, two, m = newSub(6), newSub(6), newModel(6)
		}
	}
}

func TestP901NoCallPanics(t *testing.T) {
	deep, wide := tv(0), api.Ty{Kind: api.TyCon, Name: "t"}
	for range 60000 {
		deep = tc("ref", deep)
		wide.Args = append(wide.Args, tv(0))
	}
	odd := []api.Ty{{}, tv(-1 << 63), tv(1<<63 - 1), {Kind: -1, N: -1}, {Kind: 1 << 40, Args: make([]api.Ty, 3)}, tc("*"), tc(strings.Repeat("x", 1<<20)), deep, wide, ty.Fn(deep, wide), {Kind: api.TyVar, Args: []api.Ty{deep}}}
	for _, s := range []*unify.Sub{nil, unify.New(), newSub(2)} {
		want := api.ErrArg
		if s == nil {
			want = api.ErrState
		}
		for _, a := range odd {
			for _, b := range append(odd, tc("int")) {
				if s.Unify(a, b) != want || s.Unify(b, a) != want {
					t.Errorf("Unify of%.40s and%.40s", tell(a), tell(b))
				}
			}
			if x, e := s.Put(a); e != want || tell(x) != zero {
				t.Errorf("Put of%.40s is%.40s, %d", tell(a), tell(x), e)
			}
		}
	}
}

func TestP902ManyVariables(t *testing.T) {
	const many = 60000
	s := newSub(many)
	for v := many - 1; v > 0; v-- {
		if s.Unify(tv(v), tv(v-1)) != api.OK {
			t.Fatal("variable", v)
		}
	}
	for v := range many {
		if x, e := s.Put(tv(v)); e != api.OK || tell(x) != " '0" {
			t.Fatal("variable", v, "is", tell(x), e)
		}
	}
	ask := func(a, b api.Ty, want api.Errno) {
		if e := s.Unify(a, b); e != want {
			t.Error("Unify of", tell(a), "is", e)
		}
	}
	end := s.Fresh()
	ask(tv(many/2), tower(200, end), api.OK)
	ask(end, tower(200, s.Fresh()), api.ErrLong)
	ask(end, tower(2, s.Fresh()), api.OK)
	if x, e := s.Put(tv(many - 1)); e != api.OK || ty.Size(x) != 201 || s.Count() != many+3 {
		t.Error("variable", many-1, "is", tell(x), e)
	}
}

func TestP902LongHistories(t *testing.T) {
	// each call has to do with few of the variables
	s := unify.New()
	result := tc("int")
	for i := range 20000 {
		f, next := s.Fresh(), s.Fresh()
		if s.Unify(f, ty.Fn(result, next)) != api.OK || s.Unify(f, ty.Fn(tc("int"), tc("int"))) != api.OK || s.Unify(next, tc("bool")) != api.ErrClash {
			t.Fatal("step", i)
		}
		result = next
	}
	isPut(t, s, tv(39998), " -> ( int int )", api.OK)
}
