package ty_test

import (
	"cmp"
	"reflect"
	"slices"
	"strconv"
	"strings"
	"testing"

	"camlet/api"
	"camlet/ty"
)

func tv(n int) api.Ty { return api.Ty{Kind: api.TyVar, N: n} }

func tc(s string, args ...api.Ty) api.Ty { return api.Ty{Kind: api.TyCon, Name: s, Args: args} }

// tell: a type as a text in which each node begins with a blank.
func tell(t api.Ty) string {
	if t.Kind == api.TyVar && t.Name == "" && len(t.Args) == 0 {
		return " '" + strconv.Itoa(t.N)
	}
	s := " " + t.Name
	if t.Kind != api.TyCon || t.N != 0 {
		s += "/" + strconv.Itoa(int(t.Kind)) + "/" + strconv.Itoa(t.N)
	}
	if len(t.Args) > 0 {
		s += " ("
		for _, arg := range t.Args {
			s += tell(arg)
		}
		s += " )"
	}
	return s
}

func isTold(t *testing.T, got api.Ty, want string) {
	t.Helper()
	if tell(got) != want {
		t.Errorf("got %s and not %s", tell(got), want)
	}
}

// small: all types of some forms, so deep, with variables less than vars.
func small(deep, vars int) []api.Ty {
	l := []api.Ty{tc("int")}
	for n := range vars {
		l = append(l, tv(n))
	}
	if deep == 1 {
		return l
	}
	parts := small(deep-1, vars)
	for _, a := range parts {
		l = append(l, tc("t", a), tc("ref", a))
		for _, b := range parts {
			l = append(l, tc("->", a, b))
		}
	}
	return l
}

// row is a row of numbers that look mixed, the same at each run of the tests.
type row struct{ last uint32 }

func (r *row) below(n int) int {
	r.last = r.last*1664525 + 1013904223
	return int(r.last>>8) % n
}

// mixed: a valid type, so deep at most, with variables less than vars.
func (r *row) mixed(deep, vars int) api.Ty {
	several := func(n int) []api.Ty {
		var l []api.Ty
		for range n {
			l = append(l, r.mixed(deep-1, vars))
		}
		return l
	}
	form := r.below(8)
	if deep < 2 {
		form = 5 + r.below(3)
	}
	switch form {
	case 0, 1:
		return tc("->", several(2)...)
	case 2:
		return tc("*", several(2+r.below(3))...)
	case 3:
		return tc([]string{"list", "ref"}[r.below(2)], several(1)...)
	case 4:
		return tc([]string{"t", "t'"}[r.below(2)], several(r.below(4))...)
	case 5:
		return tc([]string{"int", "bool", "unit", "exn", "t"}[r.below(5)])
	}
	return tv(r.below(vars))
}

func TestP802Right(t *testing.T) {
	most := map[string]int{"int": 0, "bool": 0, "unit": 0, "exn": 0, "ref": 1, "->": 2, "*": api.MaxWidth}
	least := map[string]int{"ref": 1, "->": 2, "*": 2}
	for _, lower := range []string{"t", "_t", "t'", "a1_'Z", "ints", strings.Repeat("t", api.MaxName)} {
		most[lower] = api.MaxParams
	}
	for _, name := range []string{"", "int", "bool", "unit", "exn", "ref", "->", "*", "t", "_t", "t'", "a1_'Z", "ints", "_", "T", "Int", "true", "false", "()", "val", "read", "fn", "mod", "print", " t", "t ", "t t", "'a", "1", "+", "é", "t\xff", "t\x00", strings.Repeat("t", api.MaxName), strings.Repeat("t", api.MaxName+1), strings.Repeat("t", 70000)} {
		for _, kind := range []api.TyKind{-1, 0, api.TyVar, api.TyCon, 3, 1 << 40} {
			for _, n := range []int{-1 << 63, -1, 0, 1, 1001, 1<<63 - 1} {
				for args := range 12 {
					x := api.Ty{Kind: kind, N: n, Name: name, Args: make([]api.Ty, args)}
					for i := range x.Args {
						x.Args[i] = tv(i)
					}
					greatest, known := most[name]
					want := kind == api.TyVar && n >= 0 && name == "" && args == 0 || kind == api.TyCon && n == 0 && known && least[name] <= args && args <= greatest
					if ty.Right(x) != want || ty.Right(tc("ref", tc("->", tv(0), x))) != want || ty.Right(tc("*", x, tc("int"), tv(1))) != want {
						t.Errorf("%d %d %.40q of %d is not %v", kind, n, name, args, want)
					}
				}
			}
		}
	}
}

func TestP802RightSizes(t *testing.T) {
	x := tv(0)
	for size := 1; size < 2*api.MaxTySize; size++ {
		if ty.Right(x) != (size <= api.MaxTySize) || ty.Size(x) != size {
			t.Fatal("a type of", size, "nodes has", ty.Size(x), ty.Right(x))
		}
		x = tc("ref", x)
	}
	full := tc("int")
	for range 7 {
		full = tc("->", full, full)
	}
	for i, wide := range []api.Ty{full, tc("ref", full), tc("ref", tc("ref", full)), tc("->", full, tv(0)), tc("*", full, full)} {
		size := []int{255, 256, 257, 257, 511}[i]
		if ty.Size(wide) != size || ty.Right(wide) != (size <= api.MaxTySize) {
			t.Error("a type of", size, "nodes has", ty.Size(wide), ty.Right(wide))
		}
	}
	if ty.Size(tc("->", tc("int"), tc("int"))) != 3 || ty.Size(api.Ty{}) != 1 || ty.Size(api.Ty{Args: make([]api.Ty, 1000)}) != 1001 {
		t.Error("sizes")
	}
}

func TestP802Same(t *testing.T) {
	l := append(small(2, 2), small(2, 1)...)
	for _, x := range []api.Ty{tc("->", tc("t", tv(0)), tc("*", tv(0), tv(1), tc("int"))), {Kind: api.TyCon, Name: "t", Args: []api.Ty{}}, {}, {Kind: 7}, {N: 1}, {Kind: api.TyVar, Name: "t"}, {Kind: api.TyVar, Args: []api.Ty{tv(0)}}, {Kind: api.TyCon, N: 1, Name: "t"}} {
		l = append(l, x, tc("ref", x), tc("->", tv(0), x), tc("->", x, tv(0)))
		for _, n := range []int{0, 1, 3} {
			l = append(l, tc("t", slices.Repeat([]api.Ty{x}, n)...))
		}
	}
	for _, a := range l {
		for _, b := range l {
			if ty.Same(a, b) != (tell(a) == tell(b)) {
				t.Error("Same of", tell(a), "and", tell(b), "is", ty.Same(a, b))
			}
		}
	}
}

func TestP803FnAndOf(t *testing.T) {
	isTold(t, ty.Fn(tv(1), tc("int")), " -> ( '1 int )")
	isTold(t, ty.Fn(api.Ty{}, api.Ty{Kind: 5, N: -3, Name: "x", Args: []api.Ty{tv(0)}}), " -> ( /0/0 x/5/-3 ( '0 ) )")
	isTold(t, ty.Of("int"), " int")
	isTold(t, ty.Of("int", tv(0)), " int ( '0 )")
	isTold(t, ty.Of("list", tc("list", tv(4))), " list ( list ( '4 ) )")
	isTold(t, ty.Of("*", tv(2), tc("unit"), tv(2)), " * ( '2 unit '2 )")
	isTold(t, ty.Of("No name!", api.Ty{Kind: api.TyVar, N: 1, Name: "x", Args: []api.Ty{tv(-1)}}), " No name! ( x/1/1 ( '-1 ) )")
	isTold(t, ty.Of("", make([]api.Ty, 20)...), "  ("+strings.Repeat(" /0/0", 20)+" )")
	l := []api.Ty{tv(0), tv(1), tv(2)}
	isTold(t, ty.Of("t", l[:2]...), " t ( '0 '1 )")
}

// varsTold: the variables in the text of a type, each once.
func varsTold(s string) []int {
	var l []int
	for _, word := range strings.Fields(s) {
		if digits, is := strings.CutPrefix(word, "'"); is {
			if n, err := strconv.Atoi(digits); err == nil && !slices.Contains(l, n) {
				l = append(l, n)
			}
		}
	}
	return l
}

// putTold: the text of a type with other texts in the place of its variables.
func putTold(s string, instead func(n int) string) string {
	out := ""
	for _, word := range strings.Fields(s) {
		if digits, is := strings.CutPrefix(word, "'"); is {
			n, _ := strconv.Atoi(digits)
			out += instead(n)
			continue
		}
		out += " " + word
	}
	return out
}

func TestP804Table(t *testing.T) {
	x := ty.Fn(tv(2), ty.Fn(tv(0), tv(2)))
	c, old := ty.Canon(x)
	isTold(t, c, " -> ( '0 -> ( '1 '0 ) )")
	if !slices.Equal(old, []int{2, 0}) || !slices.Equal(ty.Vars(x), []int{2, 0}) || len(ty.Vars(tc("int"))) != 0 || !slices.Equal(ty.Vars(tv(1<<62)), []int{1 << 62}) {
		t.Error(old, ty.Vars(x), ty.Vars(tv(1<<62)))
	}
	isTold(t, ty.Put(x, []api.Ty{tc("int"), tc("bool"), tc("list", tv(0))}), " -> ( list ( '0 ) -> ( int list ( '0 ) ) )")
	isTold(t, ty.Put(x, []api.Ty{tc("int")}), " -> ( '2 -> ( int '2 ) )")
	isTold(t, ty.Put(x, []api.Ty{tv(2), tv(9)}), " -> ( '2 -> ( '2 '2 ) )")
	isTold(t, ty.Put(x, []api.Ty{tv(2), tv(9), tv(0)}), " -> ( '0 -> ( '2 '0 ) )")
	isTold(t, ty.Put(tv(0), []api.Ty{x}), tell(x))
	isTold(t, ty.Put(tv(1), []api.Ty{x}), " '1")
	c, old = ty.Canon(tc("t"))
	isTold(t, c, " t")
	if len(old) != 0 {
		t.Error(old)
	}
}

func TestP804MixedTypes(t *testing.T) {
	r := &row{3}
	for i := range 4000 {
		x := r.mixed(2+i%5, 1+i%7)
		if i%50 == 0 {
			x = tc("->", tv(1<<62), tc("*", x, tv(1<<63-1), r.mixed(6, 40)))
		}
		s := tell(x)
		vars := ty.Vars(x)
		if !slices.Equal(vars, varsTold(s)) {
			t.Fatal("Vars of", s, "are", vars)
		}
		l := make([]api.Ty, r.below(9))
		for j := range l {
			l[j] = r.mixed(2, 9)
		}
		isTold(t, ty.Put(x, l), putTold(s, func(n int) string {
			if n < len(l) {
				return tell(l[n])
			}
			return tell(tv(n))
		}))
		c, old := ty.Canon(x)
		isTold(t, c, putTold(s, func(n int) string { return tell(tv(slices.Index(vars, n))) }))
		if !slices.Equal(old, vars) {
			t.Fatal("Canon of", s, "has the old numbers", old)
		}
	}
}

func TestP805Substitution(t *testing.T) {
	r := &row{4}
	for range 3000 {
		x := r.mixed(4, 6)
		l, k, both, itself := make([]api.Ty, 6), make([]api.Ty, r.below(8)), make([]api.Ty, 6), make([]api.Ty, r.below(9))
		for i := range k {
			k[i] = r.mixed(3, 8)
		}
		for i := range l {
			l[i] = r.mixed(3, 8)
			both[i] = ty.Put(l[i], k)
		}
		for i := range itself {
			itself[i] = tv(i)
		}
		isTold(t, ty.Put(ty.Put(x, l), k), tell(ty.Put(x, both)))
		for _, nothing := range [][]api.Ty{nil, {}, itself} {
			isTold(t, ty.Put(x, nothing), tell(x))
		}
	}
}

func TestP806Canon(t *testing.T) {
	r := &row{5}
	for range 2000 {
		x := r.mixed(4, 6)
		c, old := ty.Canon(x)
		again, same := ty.Canon(c)
		isTold(t, again, tell(c))
		back := make([]api.Ty, len(old))
		for i, n := range old {
			back[i] = tv(n)
			if same[i] != i {
				t.Fatal("Canon of", tell(c), "has the old numbers", same)
			}
		}
		isTold(t, ty.Put(c, back), tell(x))
	}
}

func TestP806Renamings(t *testing.T) {
	l, equal := small(3, 2), 0
	l = append(l, tc("*", tv(0), tv(1), tv(2)), tc("*", tv(2), tv(1), tv(0)), tc("*", tv(9), tv(8), tv(9)), tc("*", tv(1), tv(1), tv(0)))
	forms := make([]string, len(l))
	for i, x := range l {
		c, _ := ty.Canon(x)
		forms[i] = tell(c)
	}
	for i, a := range l {
		for j, b := range l {
			to, from := map[int]int{}, map[int]int{}
			renamed := areRenamed(a, b, to, from)
			if renamed != (forms[i] == forms[j]) {
				t.Fatal("the canonical forms of", tell(a), "and", tell(b), "are", forms[i], "and", forms[j])
			}
			if renamed && i != j {
				equal++
			}
		}
	}
	if equal == 0 {
		t.Error("no types are renamed")
	}
}

// areRenamed: does b result from a by a renaming of variables that maps no two to the same one?
func areRenamed(a, b api.Ty, to, from map[int]int) bool {
	if a.Kind != b.Kind || a.Name != b.Name || len(a.Args) != len(b.Args) {
		return false
	}
	if a.Kind == api.TyVar {
		n, known := to[a.N]
		m, taken := from[b.N]
		to[a.N], from[b.N] = b.N, a.N
		return (!known || n == b.N) && (!taken || m == a.N)
	}
	for i := range a.Args {
		if !areRenamed(a.Args[i], b.Args[i], to, from) {
			return false
		}
	}
	return true
}

// roomy: the same type in new memory, with room behind all Args that is not empty.
func roomy(t api.Ty) api.Ty {
	args := make([]api.Ty, 0, len(t.Args)+2)
	for _, arg := range t.Args {
		args = append(args, roomy(arg))
	}
	t.Args = append(append(args, tc("behind")), tv(77))[:len(args)]
	return t
}

// rooms: all memory of the Args of types, also behind their ends.
func rooms(l ...api.Ty) [][]api.Ty {
	all := [][]api.Ty{l[:cap(l)]}
	for _, t := range l {
		all = append(all, rooms(t.Args...)...)
	}
	return slices.DeleteFunc(all, func(room []api.Ty) bool { return len(room) == 0 })
}

// areDisjoint: does no room share memory with another one?
func areDisjoint(all [][]api.Ty) bool {
	type span struct{ from, to uintptr }
	var l []span
	for _, room := range all {
		v := reflect.ValueOf(room)
		l = append(l, span{v.Pointer(), v.Pointer() + uintptr(v.Len())*v.Type().Elem().Size()})
	}
	slices.SortFunc(l, func(a, b span) int { return cmp.Compare(a.from, b.from) })
	for i := 1; i < len(l); i++ {
		if l[i].from < l[i-1].to {
			return false
		}
	}
	return true
}

func TestP801CallsArePureAndResultsNew(t *testing.T) {
	r := &row{6}
	for i := range 1500 {
		x, y := roomy(r.mixed(4, 4)), roomy(r.mixed(3, 4))
		if i%5 == 0 {
			y = roomy(api.Ty{Kind: api.TyKind(i % 4), N: i % 3, Name: "x", Args: []api.Ty{x, {}, x}})
		}
		l := []api.Ty{y, x, tv(1), tc("behind"), tc("behind")}[:3]
		told := func() string {
			s := tell(x) + tell(y)
			for _, room := range rooms(l...) {
				for _, t := range room {
					s += tell(t)
				}
			}
			return s
		}
		before, first := told(), ""
		for range 2 {
			c, old := ty.Canon(x)
			odd, _ := ty.Canon(y)
			vars := ty.Vars(x)
			results := []api.Ty{c, odd, ty.Put(x, l), ty.Put(x, nil), ty.Put(y, l), ty.Fn(x, y), ty.Of("t", l...), ty.Of("t", l[:0]...)}
			all := rooms(l...)
			for _, t := range results {
				all = append(all, rooms(t.Args...)...)
			}
			if !areDisjoint(all) {
				t.Fatal("the results for", tell(x), tell(y), "share memory")
			}
			s := ""
			for _, t := range results {
				s += tell(t)
				for _, room := range rooms(t.Args...) {
					clear(room)
				}
			}
			for _, n := range append(old, vars...) {
				s += strconv.Itoa(n) + " "
			}
			clear(old[:cap(old)])
			if !slices.Equal(vars, ty.Vars(x)) || ty.Size(x) == 0 || ty.Right(x) != ty.Right(x) || !ty.Same(x, x) || told() != before || first != "" && s != first {
				t.Fatal("a call changed its arguments or the results of others")
			}
			first = s
		}
	}
}

func TestP801NoCallPanics(t *testing.T) {
	deep, wide := tv(5), api.Ty{Kind: api.TyCon, Name: "t"}
	for range 60000 {
		deep = tc("ref", deep)
		wide.Args = append(wide.Args, tv(len(wide.Args)*7))
	}
	odd := []api.Ty{{}, {Kind: -1, N: -1}, {Kind: api.TyVar, N: -1}, {Kind: api.TyVar, N: -1 << 63, Name: "x", Args: []api.Ty{{}, tv(0)}}, {Kind: 1 << 40, Args: make([]api.Ty, 9)}, tc("*"), tc("->"), tc("ref"), tc(strings.Repeat("x", 1<<20)), deep, wide}
	for _, x := range odd {
		ty.Canon(x)
		ty.Put(x, nil)
		ty.Put(x, odd)
		if ty.Right(x) || !ty.Same(x, x) || ty.Size(ty.Fn(x, x)) != 2*ty.Size(x)+1 {
			t.Errorf("%.40s", tell(x))
		}
		if n := len(ty.Vars(x)); n > ty.Size(x) {
			t.Errorf("%.40s has %d variables", tell(x), n)
		}
	}
	if c, old := ty.Canon(wide); len(old) != 60000 || old[59999] != 59999*7 || c.Args[59999].N != 59999 || len(ty.Vars(deep)) != 1 {
		t.Error("a wide type has", len(old), "variables")
	}
}
