package scheme_test

import (
	"slices"
	"strconv"
	"strings"
	"testing"

	"camlet/api"
	"camlet/lex"
	"camlet/scheme"
	"camlet/show"
	"camlet/ty"
)

const most = api.MaxTySize

func isScheme(t *testing.T, got api.Scheme, want string) {
	t.Helper()
	if tellScheme(got) != want {
		t.Errorf("the scheme is %.300s and not %.300s", tellScheme(got), want)
	}
}

func TestP1002OfTable(t *testing.T) {
	x := ty.Fn(tv(3), ty.Fn(tv(5), tv(3)))
	for _, r := range []struct {
		t    api.Ty
		keep []int
		want string
	}{
		{x, []int{5}, "1 -> ( '0 -> ( '1 '0 ) )"},
		{x, []int{3}, "1 -> ( '1 -> ( '0 '1 ) )"},
		{x, nil, "2 -> ( '0 -> ( '1 '0 ) )"},
		{x, []int{}, "2 -> ( '0 -> ( '1 '0 ) )"},
		{x, []int{0, 1, 2, 4, -3, 6}, "2 -> ( '0 -> ( '1 '0 ) )"},
		// the order of keep is nothing to the numbers
		{x, []int{3, 5}, "0 -> ( '0 -> ( '1 '0 ) )"},
		{x, []int{5, 9, 3, 5, 5}, "0 -> ( '0 -> ( '1 '0 ) )"},
		{tc("*", tv(9), tv(4), tv(7), tv(2), tv(9), tv(4)), []int{2, 9}, "2 * ( '2 '0 '1 '3 '2 '0 )"},
		{tc("*", tv(1), tv(0)), []int{0, 1}, "0 * ( '0 '1 )"},
		{tc("*", tv(1), tv(0)), []int{1}, "1 * ( '1 '0 )"},
		{tc("*", tv(1<<63-1), tv(0), tv(1<<62)), []int{1 << 62}, "2 * ( '0 '1 '2 )"},
		{tc("int"), []int{0}, "0 int"},
		{tc("t"), nil, "0 t"},
		{tv(0), nil, "1 '0"},
		{tv(0), []int{0}, "0 '0"},
		{tv(77), nil, "1 '0"},
		{tower(most, tv(2)), nil, "1" + tell(tower(most, tv(0)))},
	} {
		isScheme(t, scheme.Of(r.t, r.keep), r.want)
	}
	for _, x := range wrong() {
		isScheme(t, scheme.Of(x, nil), "0 /0/0")
		isScheme(t, scheme.Of(x, []int{0, 1, -1}), "0 /0/0")
	}
}

func TestP1002OfMixedTypes(t *testing.T) {
	r := &row{3}
	for range 3000 {
		x, keep := r.mixed(1+r.below(5), 1+r.below(12)), r.order(12)[:r.below(12)]
		var quantified, free []int
		replaced(tell(x), func(n int) string {
			l := &quantified
			if slices.Contains(keep, n) {
				l = &free
			}
			if !slices.Contains(*l, n) {
				*l = append(*l, n)
			}
			return ""
		})
		all := slices.Concat(quantified, free)
		want := strconv.Itoa(len(quantified)) + replaced(tell(x), func(n int) string { return tell(tv(slices.Index(all, n))) })
		got := scheme.Of(x, keep)
		isScheme(t, got, want)
		if !scheme.Right(got) {
			t.Fatal(tellScheme(got), "is not valid")
		}
	}
}

func TestP1002Right(t *testing.T) {
	right := []api.Ty{tc("int"), tv(0), tv(1 << 62), ty.Fn(tv(1), tv(500)), tower(most, tv(3))}
	for _, vars := range []int{-1 << 63, -1 << 32, -1, 0, 1, 2, most - 1, most, most + 1, 1000, 1 << 32, 1<<63 - 1} {
		for _, x := range right {
			if scheme.Right(of(vars, x)) != (0 <= vars && vars <= most) {
				t.Error(vars, "variables of", tell(x))
			}
		}
		for _, x := range wrong() {
			if scheme.Right(of(vars, x)) {
				t.Errorf("%d variables of%.100s", vars, tell(x))
			}
		}
	}
}

func isInst(t *testing.T, s api.Scheme, l []api.Ty, want string, e api.Errno) {
	t.Helper()
	if got, bad := scheme.Inst(s, l); tell(got) != want || bad != e {
		t.Errorf("Inst of %.300s is%.300s, %d and not%.300s, %d", tellScheme(s), tell(got), bad, want, e)
	}
}

const zero = " /0/0"

func TestP1003Inst(t *testing.T) {
	i, b := tc("int"), tc("bool")
	l := func(l ...api.Ty) []api.Ty { return l }
	x := ty.Fn(tv(0), ty.Fn(tv(2), tv(1)))
	isInst(t, of(1, ty.Fn(tv(0), tv(0))), l(i), " -> ( int int )", api.OK)
	isInst(t, of(3, x), l(i, b, tc("list", i)), " -> ( int -> ( list ( int ) bool ) )", api.OK)
	// free variables remain
	isInst(t, of(2, x), l(i, b), " -> ( int -> ( '2 bool ) )", api.OK)
	isInst(t, of(1, x), l(i), " -> ( int -> ( '2 '1 ) )", api.OK)
	isInst(t, of(0, x), nil, tell(x), api.OK)
	isInst(t, of(0, x), l(), tell(x), api.OK)
	isInst(t, of(1, tv(1<<63-1)), l(i), tell(tv(1<<63-1)), api.OK)
	// what stands in the place of a variable is not replaced again
	isInst(t, of(3, x), l(tv(1), tv(2), tv(0)), " -> ( '1 -> ( '0 '2 ) )", api.OK)
	isInst(t, of(2, x), l(ty.Fn(tv(1), tv(0)), tv(2)), " -> ( -> ( '1 '0 ) -> ( '2 '2 ) )", api.OK)
	isInst(t, of(1, x), l(tv(1<<62)), " -> ( '4611686018427387904 -> ( '2 '1 ) )", api.OK)
	// a constructor has no number that counts
	isInst(t, of(1, tc("t", i, tv(0))), l(b), " t ( int bool )", api.OK)
	// not every quantified variable has to occur
	isInst(t, of(3, tv(1)), l(i, b, tv(0)), " bool", api.OK)
	isInst(t, of(2, i), l(b, tower(most, i)), " int", api.OK)
	isInst(t, of(most, tv(most-1)), slices.Repeat(l(b), most), " bool", api.OK)
}

func TestP1003Errors(t *testing.T) {
	i := tc("int")
	for vars := range 5 {
		s := of(vars, ty.Fn(tv(0), tv(9)))
		for n := range 7 {
			l := slices.Repeat([]api.Ty{i}, n)
			if _, e := scheme.Inst(s, l); (e == api.ErrArg) != (n != vars) {
				t.Error(n, "types for", vars, "variables:", e)
			}
			for j := range n {
				for _, x := range wrong() {
					l[j] = x
					isInst(t, s, l, zero, api.ErrArg)
				}
				l[j] = i
			}
		}
	}
	for _, x := range wrong() {
		isInst(t, of(0, x), nil, zero, api.ErrArg)
		isInst(t, of(1, x), []api.Ty{i}, zero, api.ErrArg)
	}
	for _, vars := range []int{-1 << 63, -1, most + 1, 1 << 40} {
		isInst(t, of(vars, i), nil, zero, api.ErrArg)
		isInst(t, of(vars, i), slices.Repeat([]api.Ty{i}, most+1), zero, api.ErrArg)
	}
}

func TestP1003Long(t *testing.T) {
	i := tc("int")
	for over := range 3 {
		want := []api.Errno{api.OK, api.ErrLong, api.ErrLong}[over]
		isLong := func(s api.Scheme, l ...api.Ty) {
			t.Helper()
			if got, e := scheme.Inst(s, l); e != want || e == api.OK && ty.Size(got) != most || e != api.OK && tell(got) != zero {
				t.Error("Inst of", tellScheme(s), "has", ty.Size(got), "nodes:", e)
			}
		}
		isLong(of(1, tower(200, tv(0))), tower(57+over, i))
		isLong(of(1, tower(most, tv(0))), tower(1+over, i))
		isLong(of(2, tc("*", tv(0), tv(1))), tower(155+over, tv(4)), tower(100, i))
		// each occurrence counts
		isLong(of(2, tc("t", tv(0), tv(0), tv(0), tv(0), tv(0), tv(1))), tower(50, i), tower(5+over, i))
	}
	isInst(t, of(1, ty.Fn(tv(0), tv(0))), []api.Ty{tower(128, i)}, zero, api.ErrLong)
	isInst(t, of(1, tc("t", tv(0), tv(0), i)), []api.Ty{tower(127, i)}, tell(tc("t", tower(127, i), tower(127, i), i)), api.OK)
	wide := tc("t", slices.Repeat([]api.Ty{tc("t", slices.Repeat([]api.Ty{tv(0)}, 8)...)}, 8)...)
	isInst(t, of(1, wide), []api.Ty{tower(most, i)}, zero, api.ErrLong)
	// that an argument is not valid comes first
	isInst(t, of(2, tower(most, tv(0))), []api.Ty{tower(2, i), {}}, zero, api.ErrArg)
	isInst(t, of(1, tower(most, tv(0))), []api.Ty{tower(2, i), i}, zero, api.ErrArg)
	isInst(t, of(1, tower(most, tv(0))), []api.Ty{tower(most+1, i)}, zero, api.ErrArg)
}

func TestP1003MixedTypes(t *testing.T) {
	r := &row{4}
	count := map[api.Errno]int{}
	for range 3000 {
		vars := r.below(6)
		x, l := r.mixed(1+r.below(5), 8), r.several(vars, 1+r.below(5), 9)
		if vars > 0 && r.below(3) == 0 {
			x, l[0] = tc("*", tv(0), x, tv(0)), tower(1+r.below(150), l[0])
		}
		put := replaced(tell(x), func(n int) string {
			if n < vars {
				return tell(l[n])
			}
			return tell(tv(n))
		})
		want, e := put, api.OK
		if n := len(strings.Fields(put)) - 2*strings.Count(put, "("); n > most {
			want, e = zero, api.ErrLong
		}
		isInst(t, of(vars, x), l, want, e)
		count[e]++
	}
	if count[api.OK] < 1000 || count[api.ErrLong] < 20 {
		t.Error(count)
	}
}

func TestP1004Table(t *testing.T) {
	i, b := tc("int"), tc("bool")
	wide := func(last api.Ty) api.Ty { return tc("*", i, i, i, i, i, i, i, last) }
	for _, x := range []struct {
		a, b       api.Scheme
		more, less bool
	}{
		{of(2, ty.Fn(tv(0), tv(1))), of(1, ty.Fn(tv(0), tv(0))), true, false},
		{of(1, tv(0)), of(0, i), true, false},
		{of(1, tv(0)), of(1, tc("list", tv(0))), true, false},
		{of(1, ty.Fn(tv(0), tv(0))), of(0, ty.Fn(i, b)), false, false},
		{of(1, ty.Fn(tv(0), tv(0))), of(0, ty.Fn(tc("list", i), tc("list", i))), true, false},
		{of(1, ty.Fn(tv(0), tv(0))), of(2, ty.Fn(tc("list", tv(0)), tc("list", tv(1)))), false, false},
		{of(2, ty.Fn(tv(0), tv(1))), of(2, ty.Fn(tv(1), tv(0))), true, true},
		{of(0, i), of(0, b), false, false},
		{of(0, i), of(0, i), true, true},
		{of(0, tc("t")), of(0, tc("t", i)), false, false},
		{of(0, tc("*", i, i)), of(0, tc("*", i, i, i)), false, false},
		{of(0, wide(i)), of(0, wide(b)), false, false},
		{of(1, wide(tv(0))), of(0, wide(b)), true, false},
		{of(1, tc("list", tv(0))), of(1, tc("ref", tv(0))), false, false},
		// the variables that do not occur are nothing to it
		{of(1, i), of(0, i), true, true},
		{of(9, tv(7)), of(3, tv(1)), true, true},
		{of(most, ty.Fn(tv(0), tv(most-1))), of(2, ty.Fn(tv(1), tv(0))), true, true},
		// a variable that stands for a type with itself, or with variables of the other scheme
		{of(2, ty.Fn(tv(0), tv(1))), of(2, ty.Fn(tv(1), tc("list", tv(0)))), true, false},
		{of(2, ty.Fn(tv(0), tv(1))), of(2, ty.Fn(tc("list", tv(0)), tv(0))), true, false},
		// free variables are the same by what is left of their numbers
		{of(0, tv(0)), of(0, tv(0)), true, true},
		{of(0, tv(0)), of(0, tv(1)), false, false},
		{of(0, tv(0)), of(5, tv(5)), true, true},
		{of(0, tv(0)), of(5, tv(6)), false, false},
		{of(1, tv(1)), of(1, tv(0)), false, true},
		{of(1, tv(1)), of(0, tv(1)), false, false},
		{of(1, tv(1)), of(2, tv(1)), false, true},
		{of(1, ty.Fn(tv(0), tv(1))), of(0, ty.Fn(tv(0), tv(0))), true, false},
		{of(1, ty.Fn(tv(0), tv(1))), of(0, ty.Fn(tv(1), tv(0))), true, false},
		{of(1, ty.Fn(tv(0), tv(1))), of(0, ty.Fn(tv(0), tv(1))), false, false},
		{of(1, ty.Fn(tv(0), tv(1))), of(2, ty.Fn(tv(0), tv(2))), true, true},
		{of(1, ty.Fn(tv(0), tv(2))), of(2, ty.Fn(tv(0), tv(2))), false, false},
		{of(0, tv(1<<63-1)), of(0, tv(1<<63-1)), true, true},
		{of(1, tv(1<<63-1)), of(0, tv(1<<63-2)), true, true},
		{of(0, tv(0)), of(0, i), false, false},
		{of(0, tv(0)), of(0, tc("list", tv(0))), false, false},
		{of(1, tower(most-1, tv(0))), of(1, tower(most, tv(0))), true, false},
		{of(1, tower(most, tv(0))), of(1, tower(most, i)), true, false},
	} {
		if scheme.More(x.a, x.b) != x.more || scheme.More(x.b, x.a) != x.less || scheme.Same(x.a, x.b) != (x.more && x.less) || scheme.Same(x.b, x.a) != (x.more && x.less) {
			t.Errorf("More of %.100s and %.100s", tellScheme(x.a), tellScheme(x.b))
		}
	}
}

func TestP1004NotValid(t *testing.T) {
	right := []api.Scheme{of(0, tc("int")), of(1, tv(0)), of(0, tv(0)), of(2, ty.Fn(tv(0), tv(1))), of(most, tv(0))}
	bad := []api.Scheme{{}, of(-1, tc("int")), of(-1, tv(0)), of(most+1, tc("int")), of(most+1, tv(0)), of(1<<63-1, tv(0)), of(-1<<63, tv(0))}
	for _, x := range wrong() {
		bad = append(bad, of(0, x), of(1, x), of(3, x))
	}
	for _, x := range bad {
		for _, y := range slices.Concat(right, []api.Scheme{x}) {
			if scheme.More(x, y) || scheme.More(y, x) || scheme.Same(x, y) || scheme.Same(y, x) {
				t.Errorf("More of %.100s and %.100s", tellScheme(x), tellScheme(y))
			}
		}
	}
}

func TestP1004AllPairsOfSmallSchemes(t *testing.T) {
	l := small()
	count := map[int]int{}
	for _, a := range l {
		for _, b := range l {
			more, less := isMore(a, b), isMore(b, a)
			if scheme.More(a, b) != more || scheme.Same(a, b) != (more && less) {
				t.Fatal("More of", tellScheme(a), "and", tellScheme(b), "is not", more, less)
			}
			if more {
				count[0]++
				if !less {
					count[1]++
				}
			} else {
				count[2]++
			}
		}
	}
	if count[0] < 1000 || count[1] < 500 || count[2] < 5000 {
		t.Error(count)
	}
}

func TestP1004MixedSchemes(t *testing.T) {
	r := &row{5}
	count := map[int]int{}
	for range 4000 {
		x, y := r.mixed(3, 4), r.mixed(3, 4)
		l := append(r.several(2, 2, 5), tv(3), tv(4)) // free variables remain
		a, b := of(2, ty.Fn(x, y)), of(3, ty.Fn(ty.Put(x, l), ty.Put(y, l)))
		if r.below(2) == 0 {
			l[r.below(4)] = r.mixed(2, 5)
			b.Ty.Args[1] = ty.Put(y, l)
		}
		want := isMore(a, b)
		if scheme.More(a, b) != want {
			t.Fatal("More of", tellScheme(a), "and", tellScheme(b), "is not", want)
		}
		if want {
			count[1]++
		} else {
			count[0]++
		}
	}
	if count[0] < 200 || count[1] < 200 {
		t.Error(count)
	}
}

func TestP1005Table(t *testing.T) {
	x := ty.Fn(tv(0), ty.Fn(tv(1), tv(0)))
	for _, r := range []struct {
		s    api.Scheme
		want string
	}{
		{of(1, x), "'a -> _a -> 'a"},
		{of(2, x), "'a -> 'b -> 'a"},
		{of(0, x), "_a -> _b -> _a"},
		{of(5, x), "'a -> 'b -> 'a"},
		{of(0, tc("int")), "int"},
		{of(most, tc("t")), "t"},
		{of(1, tv(0)), "'a"}, {of(0, tv(0)), "_a"}, {of(1, tv(1)), "_a"}, {of(1, tv(26)), "_z"}, {of(1, tv(27)), "_a1"},
		{of(0, tv(25)), "_z"}, {of(0, tv(26)), "_a1"}, {of(0, tv(51)), "_z1"}, {of(0, tv(52)), "_a2"}, {of(0, tv(285)), "_z10"},
		{of(30, tv(25)), "'z"}, {of(30, tv(26)), "'a1"}, {of(30, tv(29)), "'d1"}, {of(30, tv(30)), "_a"},
		{of(most, tv(most-1)), "'v9"}, {of(most, tv(most)), "_a"}, {of(most, tv(1<<63-1)), "_l354745078340568290"},
		{of(0, tv(1000)), "_m38"}, {of(0, tv(1001)), "_n38"}, {of(9, tv(1001)), "_e38"}, {of(9, tv(1010)), "_n38"}, {of(0, tv(1<<62)), "_e177372539170284150"}, {of(0, tv(1<<63-1)), "_h354745078340568300"},
		{of(1, tc("list", ty.Fn(tv(0), tv(1)))), "('a -> _a) list"},
		{of(1, tc("t", ty.Fn(tv(0), tv(1)), tc("*", tv(2), tc("*", tv(0), tv(1))))), "('a -> _a, _b * ('a * _a)) t"},
		{of(1, ty.Fn(ty.Fn(tv(1), tv(0)), tc("ref", tc("ref", tv(1))))), "(_a -> 'a) -> _a ref ref"},
		{of(0, tc("*", tc("_a"), tv(0), tc("_a", tv(0)), tc("a'", tv(1)))), "_a * _a * _a _a * _b a'"},
		{of(0, tower(most, tv(3))), "_d" + strings.Repeat(" ref", most-1)},
	} {
		if got := scheme.Show(r.s); got != r.want {
			t.Errorf("Show of %.300s is %.300q and not %.300q", tellScheme(r.s), got, r.want)
		}
	}
	for _, x := range wrong() {
		for vars := range 3 {
			if got := scheme.Show(of(vars, x)); got != "" {
				t.Errorf("Show of%.300s is %.300q", tell(x), got)
			}
		}
	}
	for _, vars := range []int{-1 << 63, -1, most + 1, 1<<63 - 1} {
		if got := scheme.Show(of(vars, x)); got != "" {
			t.Errorf("Show of %d variables is %.300q", vars, got)
		}
	}
}

func TestP1005MixedSchemes(t *testing.T) {
	numbers := map[string]int{}
	for n := range 1001 {
		numbers[show.Type(tv(n))] = n
	}
	r := &row{6}
	for range 3000 {
		s := of(r.below(200), r.mixed(1+r.below(5), 1+r.below(1001)))
		text, from, want := show.Type(s.Ty), 0, ""
		tokens, _ := lex.Scan(text)
		for _, token := range tokens {
			if n := numbers[token.Text]; token.Kind == api.TkTyvar && n >= s.Vars {
				want += text[from:token.At] + "_" + show.Type(tv(n - s.Vars))[1:]
				from = token.At + len(token.Text)
			}
		}
		want += text[from:]
		if got := scheme.Show(s); got != want {
			t.Fatalf("Show of %.300s is %.300q and not %.300q", tellScheme(s), got, want)
		}
	}
}

func TestP1006InstancesAreLess(t *testing.T) {
	r := &row{7}
	done := 0
	for range 3000 {
		s := scheme.Of(r.mixed(4, 5), nil)
		x, e := scheme.Inst(s, r.several(s.Vars, 3, 6))
		if e != api.OK {
			continue
		}
		done++
		if b := scheme.Of(x, nil); !scheme.More(s, b) {
			t.Fatal(tellScheme(b), "is no instance of", tellScheme(s))
		}
		// the numbers of the free variables of the types do not matter
		if b := scheme.Of(ty.Put(x, []api.Ty{tv(5), tv(1000), tv(3), tv(1 << 62), tv(0), tv(4)}), nil); !scheme.More(s, b) {
			t.Fatal(tellScheme(b), "is no instance of", tellScheme(s))
		}
	}
	if done < 2000 {
		t.Error("only", done, "instances")
	}
}

func TestP1006ReflexiveAndTransitive(t *testing.T) {
	l := small()
	more := make([][]int, len(l)) // the schemes that are less
	for i, a := range l {
		if !scheme.More(a, a) || !scheme.Same(a, a) {
			t.Error(tellScheme(a), "is not more than itself")
		}
		for j, b := range l {
			if scheme.More(a, b) {
				more[i] = append(more[i], j)
			}
		}
	}
	for i := range l {
		for _, j := range more[i] {
			for _, k := range more[j] {
				if !slices.Contains(more[i], k) {
					t.Fatal(tellScheme(l[i]), "is more than", tellScheme(l[j]), "but not than", tellScheme(l[k]))
				}
			}
		}
	}
}

func TestP1006Permutations(t *testing.T) {
	r := &row{8}
	for range 2000 {
		a := of(r.below(8), r.mixed(1+r.below(5), 8))
		b := renamed(a, r.order(a.Vars))
		if !scheme.Same(a, b) || !scheme.Same(b, a) || !scheme.More(a, b) || !scheme.More(a, a) {
			t.Fatal(tellScheme(a), "is not the same as", tellScheme(b))
		}
	}
}

func TestP1001CallsArePureAndResultsNew(t *testing.T) {
	r := &row{9}
	for i := range 1500 {
		x := roomy(r.mixed(4, 4))
		s, keep := of(2, x), []int{3, 1, 0, 7}[:1+i%2]
		l := append(r.several(2, 3, 4), tc("behind"), tc("behind"))[:2]
		l[0], l[1] = roomy(l[0]), roomy(l[1])
		if i%9 == 0 {
			l[1] = roomy(api.Ty{Kind: api.TyKind(i % 4), N: i % 3, Name: "x", Args: []api.Ty{x}})
		}
		told := func() string {
			all := tellScheme(s)
			for _, room := range slices.Concat(rooms(l), rooms([]api.Ty{x})) {
				all += " ;"
				for _, t := range room {
					all += tell(t)
				}
			}
			for _, n := range keep[:4] {
				all += " " + strconv.Itoa(n)
			}
			return all
		}
		call := func() ([]api.Ty, string) {
			a, b := scheme.Of(x, keep), scheme.Of(l[0], nil)
			y, e := scheme.Inst(s, l)
			z, bad := scheme.Inst(of(0, x), nil)
			texts := []string{tellScheme(a), tellScheme(b), tell(y), tell(z), strconv.Itoa(int(e)), strconv.Itoa(int(bad)), scheme.Show(s), strconv.FormatBool(scheme.More(a, s)), strconv.FormatBool(scheme.Same(s, b)), strconv.FormatBool(scheme.Right(s))}
			return []api.Ty{a.Ty, b.Ty, y, z}, strings.Join(texts, " ")
		}
		before := told()
		first, want := call()
		if !areApart(rooms(first)) || told() != before {
			t.Fatal("the results for", before, "share memory")
		}
		second, got := call()
		if got != want || told() != before {
			t.Fatal("the second results for", before, "are", got, "and not", want)
		}
		if !areApart(slices.Concat(rooms(second), rooms(l), rooms([]api.Ty{x}))) {
			t.Fatal("the results for", before, "share memory with the arguments")
		}
	}
}

func TestP1001NoCallPanics(t *testing.T) {
	deep, wide := tv(5), api.Ty{Kind: api.TyCon, Name: "t"}
	var keep []int
	for n := range 60000 {
		deep = tc("ref", deep)
		wide.Args = append(wide.Args, tv(n*7))
		keep = append(keep, 1<<63-1-n, n-30000)
	}
	odd := append(wrong(), deep, wide, tc("t", deep, wide), tc(strings.Repeat("x", 1<<20)))
	for _, x := range odd {
		isScheme(t, scheme.Of(x, keep), "0 /0/0")
		for _, vars := range []int{-1 << 63, -1, 0, 1, most, 1<<63 - 1} {
			s := of(vars, x)
			if scheme.Right(s) || scheme.Show(s) != "" || scheme.More(s, s) || scheme.Same(s, s) {
				t.Errorf("%.40s", tellScheme(s))
			}
			isInst(t, s, odd, zero, api.ErrArg)
			isInst(t, s, nil, zero, api.ErrArg)
		}
		isInst(t, of(len(odd), tv(0)), odd, zero, api.ErrArg)
	}
	isInst(t, of(most, tv(0)), make([]api.Ty, 1<<20), zero, api.ErrArg)
	full := tv(0)
	for n := range 127 {
		full = ty.Fn(tv(n+1), full)
	}
	isScheme(t, scheme.Of(ty.Put(full, []api.Ty{tv(200)}), keep), "0"+replaced(tell(ty.Put(full, []api.Ty{tv(200)})), func(n int) string {
		if n == 200 {
			return " '127"
		}
		return tell(tv(127 - n))
	}))
}
