package decl_test

import (
	"slices"
	"strconv"
	"strings"
	"testing"

	"camlet/api"
	"camlet/decl"
	"camlet/read"
	"camlet/tree"
	"camlet/ty"
)

// tableOf: the table of a program in which nothing is wrong.
func tableOf(t *testing.T, p ...api.Dec) api.Table {
	t.Helper()
	tab, bad := decl.Of(p)
	if bad != (api.Bad{}) || !decl.Right(tab) {
		t.Fatalf("Of gives %v and %s", bad, tellAll(tab))
	}
	return tab
}

func isAdded(t *testing.T, tab api.Table, d api.Dec, want string) {
	t.Helper()
	got, bad := decl.Add(tab, d)
	if s := tellAll(got); bad != (api.Bad{}) || s != tellAll(tab)+want {
		t.Errorf("Add gives %v and %s and not %s", bad, s, tellAll(tab)+want)
	}
}

// isBad: Add and Of give an error, and nothing beside it.
func isBad(t *testing.T, p []api.Dec, d api.Dec, want api.Bad) {
	t.Helper()
	if b := tree.Right([]api.Dec{d}); b != (api.Bad{}) {
		t.Fatal("tree.Right gives", b)
	}
	if got, bad := decl.Add(tableOf(t, p...), d); bad != want || len(got) != 0 {
		t.Errorf("Add gives %v and not %v, with %d places", bad, want, len(got))
	}
	if got, bad := decl.Of(append(slices.Clone(p), d, data(0, "int", 0))); bad != want || len(got) != 0 {
		t.Errorf("Of gives %v and not %v, with %d places", bad, want, len(got))
	}
}

func TestP1102Start(t *testing.T) {
	if s := tellAll(decl.Start()); s != start {
		t.Error("Start is", s)
	}
	if !decl.Right(decl.Start()) {
		t.Error("Start is not valid")
	}
	first := decl.Start()
	for i := range first {
		first[i] = api.Place{}
	}
	if s := tellAll(decl.Start()); s != start {
		t.Error("Start is", s, "after a table was changed")
	}
}

func TestP1103Datatypes(t *testing.T) {
	b := decl.Start()
	isAdded(t, b, opt(), "None: opt 0/2 1 opt ( '0 )\nSome: opt 1/2 has 1 -> ( '0 opt ( '0 ) )\n")
	isAdded(t, b, data(0, "t", 0, con(0, "A")), "A: t 0/1 0 t\n")
	isAdded(t, b, data(0, "_t'", 3, con(0, "A'"), con(0, "B_1", tc("->", tv(2), tc("_t'", tv(1), tc("int"), tv(1)))), con(0, "C")),
		"A': _t' 0/3 3 _t' ( '0 '1 '2 )\nB_1: _t' 1/3 has 3 -> ( -> ( '2 _t' ( '1 int '1 ) ) _t' ( '0 '1 '2 ) )\nC: _t' 2/3 3 _t' ( '0 '1 '2 )\n")
	// all types that are built in are known, and those of the table
	built := tc("*", tc("int"), tc("bool"), tc("unit"), tc("exn"), tc("ref", tc("->", tc("int"), tc("*", tc("int"), tc("unit")))))
	isAdded(t, b, data(0, "t", 0, con(0, "A", built)), "A: t 0/1 has 0 -> ("+tell(built)+" t )\n")
	isAdded(t, tableOf(t, list(), val(), opt()), data(0, "t", 0, con(0, "A", tc("opt", tc("list", tc("t"))))), "A: t 0/1 has 0 -> ( opt ( list ( t ) ) t )\n")
	// types and constructors can be named like variables of the program
	isAdded(t, tableOf(t, fun()), data(0, "t", 0, con(0, "Val"), con(0, "Pat")), "Val: t 0/2 0 t\nPat: t 1/2 0 t\n")
	most := data(0, "t", api.MaxParams)
	for i := range api.MaxCons {
		most.Cons = append(most.Cons, con(0, "C"+strconv.Itoa(i), tv(i%api.MaxParams)))
	}
	tab := tableOf(t, most)
	if len(tab) != 6+64 || tellPlace(tab[69]) != "C63: t 63/64 has 8 -> ( '7 t ( '0 '1 '2 '3 '4 '5 '6 '7 ) )" {
		t.Error(tellAll(tab))
	}
}

func TestP1103Exceptions(t *testing.T) {
	b := decl.Start()
	isAdded(t, b, exception(0, "E"), "E: exn 3/0 0 exn\n")
	isAdded(t, b, exception(0, "E", tc("->", tc("exn"), tc("ref", tc("int")))), "E: exn 3/0 has 0 -> ( -> ( exn ref ( int ) ) exn )\n")
	isAdded(t, tableOf(t, exception(0, "E"), opt(), exception(0, "F")), exception(0, "G", tc("opt", tc("exn"))), "G: exn 5/0 has 0 -> ( opt ( exn ) exn )\n")
}

func TestP1103ValAndFun(t *testing.T) {
	for _, tab := range []api.Table{decl.Start(), tableOf(t, list(), exception(0, "E"))} {
		isAdded(t, tab, val(), "")
		isAdded(t, tab, fun(), "")
	}
}

func TestP1103Errors(t *testing.T) {
	p := []api.Dec{list(), opt(), exception(7, "E")}
	for _, name := range []string{"int", "bool", "unit", "exn", "list", "opt"} {
		isBad(t, p, data(8, name, 0, con(9, "A")), api.Bad{Kind: api.ErrTwice, At: 8, Name: name})
		isBad(t, p, data(8, name, 1, con(9, "Div", tc("no")), con(9, "Div")), api.Bad{Kind: api.ErrTwice, At: 8, Name: name})
	}
	for _, name := range []string{"Div", "Eof", "Match", "Nil", "Cons", "None", "Some", "E"} {
		isBad(t, p, data(8, "t", 0, con(9, name)), api.Bad{Kind: api.ErrTwice, At: 9, Name: name})
		isBad(t, p, data(8, "t", 0, con(9, "A"), con(12, name, tc("no"))), api.Bad{Kind: api.ErrTwice, At: 12, Name: name})
		isBad(t, p, exception(8, name, tv(0)), api.Bad{Kind: api.ErrTwice, At: 18, Name: name})
	}
	isBad(t, p, data(8, "t", 0, con(9, "A"), con(10, "B"), con(11, "A"), con(12, "B")), api.Bad{Kind: api.ErrTwice, At: 11, Name: "A"})
	for _, x := range []struct {
		arg api.Ty
		bad api.Bad
	}{
		{tv(1), api.Bad{Kind: api.ErrVar, At: 9}},
		{tv(1<<63 - 1), api.Bad{Kind: api.ErrVar, At: 9}},
		{tc("->", tv(0), tc("ref", tv(2))), api.Bad{Kind: api.ErrVar, At: 9}},
		{tc("no"), api.Bad{Kind: api.ErrName, At: 9, Name: "no"}},
		{tc("t'"), api.Bad{Kind: api.ErrName, At: 9, Name: "t'"}},
		{tc("no", tv(5)), api.Bad{Kind: api.ErrName, At: 9, Name: "no"}},
		{tc("*", tv(0), tc("list", tc("no", tv(0)))), api.Bad{Kind: api.ErrName, At: 9, Name: "no"}},
		{tc("list"), api.Bad{Kind: api.ErrCount, At: 9, Name: "list"}},
		{tc("list", tc("no"), tc("no")), api.Bad{Kind: api.ErrCount, At: 9, Name: "list"}},
		{tc("t"), api.Bad{Kind: api.ErrCount, At: 9, Name: "t"}},
		{tc("t", tv(0), tv(0)), api.Bad{Kind: api.ErrCount, At: 9, Name: "t"}},
		{tc("opt", tc("opt", tc("opt"))), api.Bad{Kind: api.ErrCount, At: 9, Name: "opt"}},
		// the first error from left to right
		{tc("->", tc("opt", tv(1)), tc("no")), api.Bad{Kind: api.ErrVar, At: 9}},
		{tc("->", tc("no"), tc("opt", tv(1))), api.Bad{Kind: api.ErrName, At: 9, Name: "no"}},
		{tc("->", tc("opt"), tv(1)), api.Bad{Kind: api.ErrCount, At: 9, Name: "opt"}},
	} {
		isBad(t, p, data(8, "t", 1, con(9, "A", x.arg)), x.bad)
		isBad(t, p, data(8, "t", 1, con(3, "B", tv(0)), con(9, "A", x.arg), con(4, "B"), con(5, "C", tc("no"))), x.bad)
		// an error of one constructor comes before that of the name of the next one
		isBad(t, p, data(8, "t", 1, con(9, "A", x.arg), con(9, "A"), con(9, "Div")), x.bad)
		isBad(t, p, data(8, "t", 1, con(3, "Div"), con(9, "A", x.arg)), api.Bad{Kind: api.ErrTwice, At: 3, Name: "Div"})
	}
	isBad(t, p, exception(0, "A", tv(0)), api.Bad{Kind: api.ErrVar, At: 10})
	isBad(t, p, exception(0, "A", tc("list", tv(0))), api.Bad{Kind: api.ErrVar, At: 10})
	isBad(t, p, exception(0, "A", tc("no")), api.Bad{Kind: api.ErrName, At: 10, Name: "no"})
	isBad(t, p, exception(0, "A", tc("opt")), api.Bad{Kind: api.ErrCount, At: 10, Name: "opt"})
	// a datatype is known from its own declaration on, and only if there is one
	isBad(t, nil, data(0, "t", 0, con(1, "A", tc("u"))), api.Bad{Kind: api.ErrName, At: 1, Name: "u"})
	isBad(t, nil, exception(0, "E", tc("list", tc("int"))), api.Bad{Kind: api.ErrName, At: 10, Name: "list"})
}

func TestP1103ManyExceptions(t *testing.T) {
	var p []api.Dec
	for i := range api.MaxTag - 2 {
		p = append(p, exception(i, "E"+strconv.Itoa(i)))
	}
	tab := tableOf(t, p...)
	if len(tab) != 6+1021 || tellPlace(tab[1026]) != "E1020: exn 1023/0 0 exn" {
		t.Fatal("there are", len(tab), "places")
	}
	isBad(t, p, exception(8, "F"), api.Bad{Kind: api.ErrCount, At: 18, Name: "F"})
	isBad(t, p, exception(8, "F", tc("no", tv(0))), api.Bad{Kind: api.ErrCount, At: 18, Name: "F"})
	isBad(t, p, exception(8, "E7", tc("no")), api.Bad{Kind: api.ErrTwice, At: 18, Name: "E7"})
	isBad(t, p[1:], exception(8, "F", tc("no")), api.Bad{Kind: api.ErrName, At: 18, Name: "no"})
	isAdded(t, tab, opt(), "None: opt 0/2 1 opt ( '0 )\nSome: opt 1/2 has 1 -> ( '0 opt ( '0 ) )\n")
	more := append(slices.Clone(tab), api.Place{Name: "F", Data: "exn", Tag: 1024, Scheme: api.Scheme{Ty: tc("exn")}})
	if decl.Right(more) || !decl.Right(tab[:1026]) {
		t.Error("the greatest number of an exception is not 1023")
	}
}

func TestP1103MixedDeclarations(t *testing.T) {
	r := &row{11}
	count := map[api.Errno]int{}
	for range 3000 {
		tab := decl.Start()
		for range 8 {
			d := r.dec(tab)
			if b := tree.Right([]api.Dec{d}); b != (api.Bad{}) {
				t.Fatal(tellDec(d), "gives", b)
			}
			got, bad := decl.Add(tab, d)
			want, s := api.Bad{}, ""
			if l := faults(tab, d); len(l) > 0 {
				want = l[0]
			} else {
				s = extended(tab, d)
			}
			if bad != want || tellAll(got) != s {
				t.Fatalf("Add of %s to %s is %s, %v and not %s, %v", tellDec(d), tellAll(tab), tellAll(got), bad, s, want)
			}
			count[bad.Kind]++
			if bad.Kind == api.OK {
				tab = got
			}
		}
	}
	for _, e := range []api.Errno{api.OK, api.ErrTwice, api.ErrVar, api.ErrName, api.ErrCount} {
		if count[e] < 100 {
			t.Error("only", count[e], "declarations give", e)
		}
	}
}

func TestP1104Of(t *testing.T) {
	for _, p := range [][]api.Dec{nil, {}, {val()}, {fun(), val(), val()}} {
		if s := tellAll(tableOf(t, p...)); s != start {
			t.Error(s)
		}
	}
	got := tellAll(tableOf(t, val(), exception(0, "E", tc("int")), opt(), fun(), exception(0, "F")))
	if got != start+"E: exn 3/0 has 0 -> ( int exn )\nNone: opt 0/2 1 opt ( '0 )\nSome: opt 1/2 has 1 -> ( '0 opt ( '0 ) )\nF: exn 4/0 0 exn\n" {
		t.Error(got)
	}
	r := &row{12}
	errors := 0
	for range 2000 {
		var p []api.Dec
		tab, want := decl.Start(), api.Bad{}
		for range 1 + r.below(9) {
			d := r.dec(tab)
			p = append(p, d)
			if want == (api.Bad{}) {
				tab, want = decl.Add(tab, d)
			}
		}
		if got, bad := decl.Of(p); bad != want || tellAll(got) != tellAll(tab) {
			t.Fatal("Of gives", bad, tellAll(got), "and not", want, tellAll(tab))
		}
		if want.Kind != api.OK {
			errors++
		}
	}
	if errors < 200 || errors > 1800 {
		t.Error(errors, "programs give an error")
	}
}

func TestP1104Texts(t *testing.T) {
	for _, x := range []struct {
		text string
		want string
		bad  api.Bad
	}{
		{"datatype 'a opt = None | Some of 'a", "None: opt 0/2 1 opt ( '0 )\nSome: opt 1/2 has 1 -> ( '0 opt ( '0 ) )\n", api.Bad{}},
		{"exception Bad of int exception Worse val x = 1", "Bad: exn 3/0 has 0 -> ( int exn )\nWorse: exn 4/0 0 exn\n", api.Bad{}},
		{"datatype t = A datatype u = B of t exception Div", "", api.Bad{Kind: api.ErrTwice, At: 45, Name: "Div"}},
		{"datatype u = B of t datatype t = A", "", api.Bad{Kind: api.ErrName, At: 13, Name: "t"}},
		{"val x = A datatype ('a, 'b) t = A of 'a t", "", api.Bad{Kind: api.ErrCount, At: 32, Name: "t"}},
		{"datatype t = A datatype t = B", "", api.Bad{Kind: api.ErrTwice, At: 15, Name: "t"}},
	} {
		p, bad := read.Program(x.text)
		if bad != (api.Bad{}) {
			t.Fatal(x.text, "gives", bad)
		}
		if x.bad.Kind == api.OK {
			x.want = start + x.want
		}
		if got, bad := decl.Of(p); bad != x.bad || tellAll(got) != x.want {
			t.Error(x.text, "gives", bad, tellAll(got), "and not", x.bad, x.want)
		}
	}
}

func TestP1104LongPrograms(t *testing.T) {
	var p []api.Dec
	for i := range api.MaxSize {
		p = append(p, data(i, "t"+strconv.Itoa(i), 0, con(i, "C"+strconv.Itoa(i))))
	}
	tab := tableOf(t, p...)
	if len(tab) != 6+api.MaxSize || tellPlace(tab[6+5000]) != "C5000: t5000 0/1 0 t5000" {
		t.Error("there are", len(tab), "places")
	}
	p[8000].Name = "t17"
	if got, bad := decl.Of(p); bad != (api.Bad{Kind: api.ErrTwice, At: 8000, Name: "t17"}) || len(got) != 0 {
		t.Error(bad)
	}
}

func TestP1105FindAndData(t *testing.T) {
	tab := tableOf(t, exception(0, "E"), opt(), list(), exception(0, "F", tc("int")))
	odd := api.Table{{Name: "A", Tag: 5}, {Name: "B", Data: "t", Of: -3}, {}, {Name: "A", Data: "t", Has: true, Scheme: api.Scheme{Vars: -1, Ty: api.Ty{Kind: 9, N: -7, Name: "x", Args: []api.Ty{{}, tv(-1)}}}}, {Name: "B", Data: "A"}}
	for _, l := range []api.Table{nil, {}, decl.Start(), tab, odd, append(slices.Clone(tab), tab...)} {
		for _, name := range []string{"", "()", "true", "unit", "exn", "bool", "Div", "Match", "E", "F", "None", "Some", "some", "Cons", "opt", "list", "A", "B", "t", "C", strings.Repeat("x", 1<<20)} {
			var first api.Place
			var all []api.Place
			for _, p := range slices.Backward(l) {
				if p.Name == name {
					first = p
				}
				if p.Data == name {
					all = append([]api.Place{p}, all...)
				}
			}
			if p, is := decl.Find(l, name); is != isNamed(l, name) || tellPlace(p) != tellPlace(first) {
				t.Errorf("Find of %.40q gives %s, %v and not %s", name, tellPlace(p), is, tellPlace(first))
			}
			if got := decl.Data(l, name); tellAll(got) != tellAll(all) {
				t.Errorf("Data of %.40q gives %s and not %s", name, tellAll(got), tellAll(all))
			}
		}
	}
	if s := tellAll(decl.Data(tab, "exn")); s != "Div: exn 0/0 0 exn\nEof: exn 1/0 0 exn\nMatch: exn 2/0 0 exn\nE: exn 3/0 0 exn\nF: exn 4/0 has 0 -> ( int exn )\n" {
		t.Error(s)
	}
}

// sample: a valid table of all kinds of places, in new memory.
func sample(t *testing.T) api.Table {
	return tableOf(t, exception(0, "E", tc("->", tc("int"), tc("unit"))), opt(), list(), exception(0, "F"),
		data(0, "pair", 2, con(0, "Pair", tc("*", tc("opt", tv(1)), tv(0), tc("pair", tv(1), tc("bool"))))), data(0, "t", 0, con(0, "A"), con(0, "B", tc("ref", tc("t"))), con(0, "C", tc("exn"))))
}

// isRight: Right says of a table what isTable says.
func isRight(t *testing.T, tab api.Table, count map[string]int) {
	t.Helper()
	want := isTable(tab)
	if decl.Right(tab) != want {
		t.Errorf("Right is not %v for %s", want, tellAll(tab))
	}
	count[strconv.FormatBool(want)]++
}

func TestP1105RightOfPieces(t *testing.T) {
	count := map[string]int{}
	tab := sample(t)
	isRight(t, nil, count)
	isRight(t, api.Table{}, count)
	for from := range len(tab) + 1 {
		for to := from; to <= len(tab); to++ {
			isRight(t, slices.Clone(tab[from:to]), count)
			isRight(t, slices.Concat(tab[:from], tab[to:]), count)
			isRight(t, slices.Concat(tab[:to], tab[from:]), count)
		}
	}
	for i := range tab {
		for j := range tab {
			l := slices.Clone(tab)
			l[i], l[j] = l[j], l[i]
			isRight(t, l, count)
			l = slices.Clone(tab)
			l[i] = tab[j]
			isRight(t, l, count)
			l[i].Name = "New"
			isRight(t, l, count)
		}
	}
	if count["true"] < 20 || count["false"] < 100 {
		t.Error(count)
	}
}

func TestP1105RightOfChangedFields(t *testing.T) {
	count := map[string]int{}
	numbers := []int{-1 << 63, -1, 0, 1, 2, 3, 4, 5, 8, 9, 64, 1024, 1 << 40, 1<<63 - 1}
	names := []string{"", "A", "B", "New", "()", "true", "Div", "Nil", "new", "New thing", "Ä", "N'_9", strings.Repeat("N", 32), strings.Repeat("N", 33), "exn", "bool", "int", "unit", "t", "opt", "list", "pair", "no", "_", "val", "ref", "->", "*"}
	for i := range sample(t) {
		change := func(f func(p *api.Place)) {
			tab := sample(t)
			f(&tab[i])
			isRight(t, tab, count)
		}
		for _, n := range numbers {
			change(func(p *api.Place) { p.Tag = n })
			change(func(p *api.Place) { p.Of = n })
			change(func(p *api.Place) { p.Scheme.Vars = n })
		}
		for _, s := range names {
			change(func(p *api.Place) { p.Name = s })
			change(func(p *api.Place) { p.Data = s })
		}
		change(func(p *api.Place) { p.Has = !p.Has })
		change(func(p *api.Place) { p.Scheme.Ty = api.Ty{} })
		for j := range nodes(&sample(t)[i].Scheme.Ty) {
			for _, n := range numbers {
				change(func(p *api.Place) { nodes(&p.Scheme.Ty)[j].N = n })
				change(func(p *api.Place) { nodes(&p.Scheme.Ty)[j].Kind = api.TyKind(n) })
			}
			for _, s := range names {
				change(func(p *api.Place) { nodes(&p.Scheme.Ty)[j].Name = s })
			}
			for _, x := range []api.Ty{{}, tv(0), tv(1), tv(2), tc("int"), tc("bool", tv(0)), tc("opt", tc("int")), tc("list"), tc("t"), tc("ref"), tc("->", tc("int")), tc("*", tc("int")), tc("*", slices.Repeat([]api.Ty{tc("unit")}, 8)...), tc("*", slices.Repeat([]api.Ty{tc("unit")}, 9)...)} {
				change(func(p *api.Place) { *nodes(&p.Scheme.Ty)[j] = x })
				change(func(p *api.Place) {
					node := nodes(&p.Scheme.Ty)[j]
					node.Args = append(node.Args, x)
				})
			}
			change(func(p *api.Place) { nodes(&p.Scheme.Ty)[j].Args = nil })
		}
	}
	if count["true"] < 100 || count["false"] < 1000 {
		t.Error(count)
	}
}

func TestP1105RightOfChangedDatatypes(t *testing.T) {
	count := map[string]int{}
	for _, name := range []string{"opt", "list", "pair", "t"} {
		for _, other := range []string{"new", "exn", "int", "bool", "unit", "ref", "opt", "list", "t", "New", "", "_", "_a", strings.Repeat("t", 32), strings.Repeat("t", 33)} {
			tab := sample(t)
			for i := range tab {
				if tab[i].Data == name {
					tab[i].Data = other
				}
				for _, node := range nodes(&tab[i].Scheme.Ty) {
					if node.Name == name {
						node.Name = other
					}
				}
			}
			isRight(t, tab, count)
		}
	}
	// as many parameters and constructors as a datatype can have
	for _, params := range []int{0, 1, 7, 8, 9, 20} {
		for _, cons := range []int{1, 2, 63, 64, 65, 200} {
			tab := decl.Start()
			var vars []api.Ty
			for n := range params {
				vars = append(vars, tv(n))
			}
			for i := range cons {
				tab = append(tab, api.Place{Name: "C" + strconv.Itoa(i), Data: "t", Tag: i, Of: cons, Scheme: api.Scheme{Vars: params, Ty: tc("t", vars...)}})
			}
			isRight(t, tab, count)
		}
	}
	if count["true"] < 20 || count["false"] < 30 {
		t.Error(count)
	}
}

func TestP1105RightOfLargeTypes(t *testing.T) {
	// tree.Right allows a declaration and 8191 nodes, on 100 levels
	for _, x := range []struct {
		arg  api.Ty
		want bool
	}{
		{large(255), true}, {large(257), true}, {large(api.MaxSize - 1), true}, {large(api.MaxSize + 1), false}, {tower(99, tc("int")), true}, {tower(100, tc("int")), false}, {tower(60000, tc("int")), false},
	} {
		for _, name := range []string{"t", "exn"} {
			p := api.Place{Name: "A", Data: name, Of: 1, Has: true, Scheme: api.Scheme{Ty: ty.Fn(x.arg, tc(name))}}
			if name == "exn" {
				p.Tag, p.Of = 3, 0
			}
			if decl.Right(append(decl.Start(), p)) != x.want {
				t.Error("Right of a type of", ty.Size(x.arg), "nodes is not", x.want)
			}
			// only each declaration alone must be small
			q := p
			q.Name, q.Data, q.Tag, q.Of, q.Scheme.Ty = "B", "u", 0, 1, ty.Fn(x.arg, tc("u"))
			if decl.Right(append(decl.Start(), p, q)) != x.want {
				t.Error("Right of two types of", ty.Size(x.arg), "nodes is not", x.want)
			}
		}
		tab, bad := decl.Of([]api.Dec{data(0, "t", 0, con(0, "A", x.arg))})
		if x.want && (bad != (api.Bad{}) || !ty.Same(tab[6].Scheme.Ty, ty.Fn(x.arg, tc("t")))) {
			t.Error("Of gives", bad)
		}
	}
}

// mixedTables: the tables of mixed programs.
func mixedTables(n int) []api.Table {
	r := &row{13}
	var l []api.Table
	for range n {
		tab := decl.Start()
		for range 1 + r.below(12) {
			if more, bad := decl.Add(tab, r.dec(tab)); bad.Kind == api.OK {
				tab = more
			}
		}
		l = append(l, tab)
	}
	return l
}

func TestP1106Uniqueness(t *testing.T) {
	l := append(mixedTables(1000), tableOf(t, data(0, "t", 0, con(0, "A", large(api.MaxSize-1)), con(0, "B"))), tableOf(t, exception(0, "E", large(253)), exception(0, "F", large(255))))
	for _, tab := range l {
		if !decl.Right(tab) {
			t.Fatal(tellAll(tab), "is not valid")
		}
		seen := map[string]int{}
		for i, p := range tab {
			if seen[p.Name]++; seen[p.Name] > 1 {
				t.Fatal(p.Name, "is twice in", tellAll(tab))
			}
			if !ty.Right(p.Scheme.Ty) && ty.Size(p.Scheme.Ty) <= api.MaxTySize {
				t.Fatal(tellPlace(p), "has no valid type")
			}
			if p.Data == "exn" {
				continue
			}
			all := decl.Data(tab, p.Data)
			if len(all) != p.Of || p.Tag < 0 || p.Tag >= p.Of || tellAll(all) != tellAll(tab[i-p.Tag:][:p.Of]) || tellPlace(all[p.Tag]) != tellPlace(p) {
				t.Fatal("the places of", p.Data, "are not adjacent in", tellAll(tab))
			}
		}
	}
}

func TestP1107Extension(t *testing.T) {
	r := &row{14}
	extensions := 0
	for _, tab := range mixedTables(1500) {
		d := r.dec(tab)
		more, bad := decl.Add(tab, d)
		if bad.Kind != api.OK {
			continue
		}
		if !decl.Right(more) || tellAll(more[:len(tab)]) != tellAll(tab) || len(more) != len(tab)+len(d.Cons) {
			t.Fatal(tellAll(more), "does not extend", tellAll(tab))
		}
		for _, name := range []string{"()", "true", "Div", "A", "C600", "C1201", ""} {
			p, is := decl.Find(tab, name)
			q, isAlso := decl.Find(more, name)
			if is && (!isAlso || tellPlace(p) != tellPlace(q)) {
				t.Fatal(name, "is not found any more")
			}
		}
		for i, p := range more {
			q, is := decl.Find(more, p.Name)
			if _, isOld := decl.Find(tab, p.Name); !is || tellPlace(q) != tellPlace(p) || isOld != (i < len(tab)) {
				t.Fatal(p.Name, "is not found at its place in", tellAll(more))
			}
		}
		for i, c := range d.Cons {
			if more[len(tab)+i].Name != c.Name {
				t.Fatal(c.Name, "is not at its place in", tellAll(more))
			}
			extensions++
		}
	}
	if extensions < 1000 {
		t.Error("only", extensions, "places are new")
	}
}

func TestP1101ArgumentsAreNotModifiedAndResultsNew(t *testing.T) {
	r := &row{15}
	for _, old := range mixedTables(1500) {
		tab, d := roomyTable(old), roomyDec(r.dec(old))
		p := []api.Dec{val(), d, data(0, "last", 0, con(0, "Last", tc("exn"))), val()}[:3]
		told := tellRoom(tab) + tellDec(d)
		name := tab[r.below(len(tab))].Name
		call := func() ([][]api.Place, string) {
			more, bad := decl.Add(tab, d)
			same, _ := decl.Add(tab, val())
			all, alsoBad := decl.Of(p)
			one, is := decl.Find(tab, name)
			lists := [][]api.Place{more, same, all, {one}, decl.Data(tab, "exn"), decl.Data(tab, "t1"), decl.Start()}
			s := strconv.Itoa(int(bad.Kind)) + bad.Name + strconv.Itoa(int(alsoBad.Kind)) + alsoBad.Name + strconv.FormatBool(is) + strconv.FormatBool(decl.Right(tab))
			for _, l := range lists {
				s += "\n" + tellAll(l)
			}
			return lists, s
		}
		first, want := call()
		if tellRoom(tab)+tellDec(d) != told || tellDec(p[:4][3]) != tellDec(val()) {
			t.Fatal("a call has changed", told)
		}
		if !areApart(first, nil) {
			t.Fatal("the results for", told, "share memory")
		}
		second, got := call()
		if got != want || tellRoom(tab)+tellDec(d) != told {
			t.Fatal("the second results for", told, "are", got, "and not", want)
		}
		types := []api.Ty{}
		for _, c := range d.Cons {
			types = append(types, c.Arg)
		}
		if !areApart(append(second, tab), types) {
			t.Fatal("the results for", told, "share memory with the arguments")
		}
	}
}

func TestP1101NoCallPanics(t *testing.T) {
	deep, wide := tv(0), tc("t")
	for n := range 60000 {
		deep = tc("ref", deep)
		wide.Args = append(wide.Args, tv(n-30000))
	}
	types := []api.Ty{{}, deep, wide, tv(-1), {Kind: 7, N: 1 << 40, Name: "x", Args: []api.Ty{{}, deep}}, tc("->"), tc("->", tc("int")), tc(strings.Repeat("x", 1<<20))}
	var decs []api.Dec
	for _, kind := range []api.DecKind{-1, 0, api.DcVal, api.DcFun, api.DcData, api.DcExn, 5, 1 << 40} {
		for _, params := range []int{-1 << 63, -1, 0, 1, 9, 1 << 40, 1<<63 - 1} {
			d := api.Dec{Kind: kind, Name: "t", Params: params}
			decs = append(decs, d)
			for i, x := range types {
				d.Cons = append(d.Cons, con(i, "C"+strconv.Itoa(i), x), api.Con{Name: "()", Arg: x}, con(-1, "A"))
				decs = append(decs, d)
			}
			d.Cons = slices.Repeat([]api.Con{con(0, "A", tc("int"))}, 10000)
			decs = append(decs, d)
		}
	}
	tables := []api.Table{nil, decl.Start(), decl.Start()[:3], sample(t)}
	for _, n := range []int{-1 << 63, -1, 0, 1, 5, 1<<63 - 1} {
		for _, x := range types {
			for _, name := range []string{"t", "exn", ""} {
				odd := api.Place{Name: "A", Data: name, Tag: n, Of: n, Has: true, Scheme: api.Scheme{Vars: n, Ty: x}}
				tables = append(tables, append(decl.Start(), odd), api.Table{odd, odd, odd})
			}
		}
	}
	for i, tab := range tables {
		if decl.Right(tab) != (i == 1 || i == 3) {
			t.Errorf("Right of table %d", i)
		}
		decl.Find(tab, "A")
		decl.Data(tab, "t")
		decl.Add(tab, decs[i%len(decs)])
	}
	for _, d := range decs {
		for _, tab := range tables[:4] {
			decl.Add(tab, d)
		}
		decl.Of([]api.Dec{val(), d, opt(), d})
	}
}
