package tree_test

import (
	"math"
	"reflect"
	"regexp"
	"slices"
	"strings"
	"testing"

	"camlet/api"
	"camlet/tree"
)

// told: what the calls tell of a program, and of the expressions and patterns inside it.
type told struct {
	Bads []api.Bad
	Size int
	Bare []api.Dec
	Same bool
	Vars [][]string
}

func tell(p []api.Dec) told {
	x := told{Bads: []api.Bad{tree.Right(p)}, Size: tree.Size(p), Bare: tree.Bare(p), Same: tree.Same(p, p)}
	for _, part := range gather(&p) {
		switch part := part.(type) {
		case *api.Exp:
			x.Bads = append(x.Bads, tree.RightExp(*part))
		case *api.Pat:
			x.Bads = append(x.Bads, tree.RightPat(*part))
			x.Vars = append(x.Vars, tree.Vars(*part))
		}
	}
	return x
}

func TestP501ArgumentsAreNotModified(t *testing.T) {
	for _, p := range append(programs(200, 40), programs(200, 0)...) {
		p, kept := copyOf(p), copyOf(p)
		first := tell(p)
		if tree.Same(p, sample()); !reflect.DeepEqual(p, kept) {
			t.Fatal("a call has changed", kept, "to", p)
		}
		if !isEmptyBehind(reflect.ValueOf(p)) {
			t.Fatal("a call has written behind a slice of", kept)
		}
		if again := tell(p); !reflect.DeepEqual(first, again) {
			t.Fatal("an earlier call changed the results for", p)
		}
	}
}

// isEmptyBehind: is the room behind all slices inside a value empty?
func isEmptyBehind(v reflect.Value) bool {
	switch v.Kind() {
	case reflect.Struct:
		for i := range v.NumField() {
			if !isEmptyBehind(v.Field(i)) {
				return false
			}
		}
	case reflect.Slice:
		for i := range v.Cap() {
			x := v.Slice(0, v.Cap()).Index(i)
			if i < v.Len() && !isEmptyBehind(x) || i >= v.Len() && !x.IsZero() {
				return false
			}
		}
	}
	return true
}

func TestP501ResultsAreNewMemory(t *testing.T) {
	for _, p := range programs(200, 40) {
		kept, bare := copyOf(p), tree.Bare(p)
		scribble(bare)
		if !reflect.DeepEqual(p, kept) {
			t.Fatal("a result shares memory with its argument", kept)
		}
		if again := tree.Bare(p); !tree.Same(again, kept) {
			t.Fatal("a result shares memory with the next one", kept)
		}
		p, bare = copyOf(p), tree.Bare(p)
		kept = copyOf(bare)
		scribble(p)
		if !reflect.DeepEqual(bare, kept) && len(bare)+len(kept) > 0 {
			t.Fatal("a result holds on to its argument", kept)
		}
	}
	kids := []api.Exp{number(1, 2), number(3, 4)}
	twice := valOf(exp(api.ExTuple, 0, exp(api.ExTuple, 0, kids...), exp(api.ExTuple, 0, kids...)))
	bare := tree.Bare(twice)
	bare[0].Case[0].Exp.Kids[0].Kids[0].N = 9
	if bare[0].Case[0].Exp.Kids[1].Kids[0].N != 2 {
		t.Error("two lists of one result share memory")
	}
	x := pat(api.PaTuple, 0, "", pat(api.PaVar, 0, "a"), pat(api.PaVar, 0, "b"))
	tree.Vars(x)[0] = "c"
	if l := tree.Vars(x); !slices.Equal(l, []string{"a", "b"}) {
		t.Error("the names of a pattern were changed to", l)
	}
}

// scribble: empties everything that a program holds, the innermost first.
func scribble(p []api.Dec) {
	for _, x := range slices.Backward(gather(&p)) {
		reflect.ValueOf(x).Elem().SetZero()
	}
}

func TestP501NoCallPanics(t *testing.T) {
	for _, p := range append(programs(2000, 5), [][]api.Dec{{{}}, {{}, {}}, {{Kind: math.MinInt, At: math.MinInt, Params: math.MaxInt}}}...) {
		tell(p)
	}
	const levels = 1 << 16
	e, x, arg := unit, wild, ty("int")
	for range levels {
		e, x, arg = exp(api.ExRef, 0, e), pat(api.PaAs, 0, "x", x), ty("ref", arg)
	}
	p := append(append(valOf(e), dec(0, x, unit)), data(0, arg)...)
	if b := tree.Right(p); b != (api.Bad{Kind: api.ErrLong}) {
		t.Error("a program with", levels, "levels gives", b)
	}
	if n := tree.Size(p); n != 3*levels+8 {
		t.Error("a program with", levels, "levels has", n, "nodes")
	}
	if bare := tree.Bare(p); !tree.Same(p, bare) || tree.Size(bare) != 3*levels+8 {
		t.Error("a program with", levels, "levels is not the same as its bare one")
	}
	if l := tree.Vars(x); len(l) != levels {
		t.Error("a pattern with", levels, "levels has", len(l), "names")
	}
}

func TestP501LargeTreesEndEarly(t *testing.T) {
	e, x, arg := unit, wild, ty("int")
	for range 80 { // 2^80 nodes each, in little memory
		e, x, arg = exp(api.ExTuple, 0, e, e), pat(api.PaTuple, 0, "", x, x), ty("*", arg, arg)
	}
	long := api.Bad{Kind: api.ErrLong}
	for _, b := range []api.Bad{tree.RightExp(e), tree.RightPat(x), tree.Right(valOf(e)), tree.Right([]api.Dec{dec(0, x, unit)}), tree.Right(data(3, arg)), tree.RightExp(exp(0, 3, e))} {
		if b != long {
			t.Error("a tree of 2^80 nodes gives", b)
		}
	}
}

// nodes: how many nodes are inside a program or a part of one.
func nodes(p any) int {
	n := 0
	for _, x := range gather(p) {
		switch x := x.(type) {
		case *api.Dec, *api.Exp, *api.Pat, *api.Ty:
			n++
		case *api.Con:
			if !x.Has {
				n -= nodes(&x.Arg)
			}
		}
	}
	return n
}

func TestP502Size(t *testing.T) {
	lone := api.Dec{Kind: api.DcData, Name: "t", Cons: many(3, api.Con{Name: "A"})}
	for i, x := range []struct {
		p    []api.Dec
		want int
	}{
		{nil, 0}, {[]api.Dec{}, 0}, {[]api.Dec{{}}, 1}, {many(5, val), 15}, {sample(), sampleSize}, {[]api.Dec{lone}, 1}, {data(0, ty("int")), 2},
		{data(0, ty("->", ty("int"), ty("*", ty("a"), ty("b")))), 6},
		{[]api.Dec{{Cons: []api.Con{{Arg: ty("ref", ty("int"))}, {Has: true}, {Has: true, Arg: ty("ref", ty("int"))}}}}, 4},
		{[]api.Dec{{Funs: many(2, api.Fun{Name: "f"}), Case: many(3, api.Case{})}}, 11},
		{valOf(api.Exp{Kids: many(2, unit), Cases: many(3, api.Case{Pat: pat(0, 0, "", wild)}), Decs: many(2, val)}), 3 + 2 + 9 + 6},
	} {
		if n := tree.Size(x.p); n != x.want {
			t.Error("program", i, "has", n, "nodes and not", x.want)
		}
	}
	for _, p := range append(programs(500, 10), programs(500, 0)...) {
		if n := tree.Size(p); n != nodes(&p) {
			t.Fatal(p, "has", n, "nodes and not", nodes(&p))
		}
	}
}

func TestP503Expressions(t *testing.T) {
	for kind := api.ExpKind(-1); kind <= 22; kind++ {
		f, known := expForms[kind]
		for _, s := range []string{"", "x", "_y", "X", "()", "true", "val"} {
			for _, n := range []int{0, 1, -1, 9, 10, 16, -1 << 30, -1<<30 - 1, 1<<30 - 1, 1 << 30, math.MaxInt, math.MinInt} {
				for kids := range 10 {
					for cases := range 3 {
						for decs := range 3 {
							want := f.fault(known, s, n, kids, cases, decs)
							if want != (api.Bad{}) {
								want.At = 7
							}
							e := api.Exp{Kind: kind, At: 7, Name: s, N: n, Kids: many(kids, unit), Cases: many(cases, api.Case{Pat: wild, Exp: unit}), Decs: many(decs, val)}
							if b := tree.RightExp(e); b != want {
								t.Fatal(e, "gives", b, "and not", want)
							}
						}
					}
				}
			}
		}
	}
}

func TestP503Patterns(t *testing.T) {
	for kind := api.PatKind(-1); kind <= 8; kind++ {
		f, known := patForms[kind]
		for _, s := range []string{"", "x", "_y", "X", "()", "true", "val"} {
			for _, n := range []int{0, 1, -1, -1 << 30, -1<<30 - 1, 1<<30 - 1, 1 << 30, math.MaxInt, math.MinInt} {
				for kids := range 10 {
					want := f.fault(known, s, n, kids, 0, 0)
					if want != (api.Bad{}) {
						want.At = 7
					}
					x := api.Pat{Kind: kind, At: 7, Name: s, N: n, Kids: many(kids, wild)}
					if b := tree.RightPat(x); b != want {
						t.Fatal(x, "gives", b, "and not", want)
					}
				}
			}
		}
	}
}

// expectedDec: the error of a declaration itself.
func expectedDec(d api.Dec, local bool) api.Errno {
	uses := map[api.DecKind]string{api.DcVal: "case", api.DcFun: "funs", api.DcData: "name params cons", api.DcExn: "cons"}[d.Kind]
	set := map[string]bool{"name": d.Name != "", "params": d.Params != 0, "cons": len(d.Cons) > 0, "case": len(d.Case) > 0, "funs": len(d.Funs) > 0}
	for field, is := range set {
		if is && !slices.Contains(strings.Fields(uses), field) {
			return api.ErrKind
		}
	}
	fits := false
	switch d.Kind {
	case api.DcVal:
		fits = len(d.Case) == 1
	case api.DcFun:
		fits = len(d.Funs) > 0
	case api.DcData:
		fits = len(d.Cons) >= 1 && len(d.Cons) <= 64 && d.Params >= 0 && d.Params <= 8
	case api.DcExn:
		fits = len(d.Cons) == 1
	}
	switch {
	case uses == "", local && (d.Kind == api.DcData || d.Kind == api.DcExn):
		return api.ErrKind
	case d.Kind == api.DcData && d.Name != "x":
		return api.ErrName
	case !fits:
		return api.ErrCount
	}
	return api.OK
}

func TestP503Declarations(t *testing.T) {
	for kind := api.DecKind(-1); kind <= 6; kind++ {
		for _, s := range []string{"", "x", "X"} {
			for _, params := range []int{0, 1, 8, 9, -1, math.MaxInt, math.MinInt} {
				for _, cons := range []int{0, 1, 2, 63, 64, 65} {
					for cases := range 3 {
						for funs := range 3 {
							d := api.Dec{Kind: kind, At: 7, Name: s, Params: params, Cons: many(cons, api.Con{Name: "C"}), Case: many(cases, val.Case[0]), Funs: many(funs, api.Fun{Name: "f", Case: val.Case[0]})}
							for _, local := range []bool{false, true} {
								p, want := []api.Dec{d}, api.Bad{}
								if local {
									p = valOf(api.Exp{Kind: api.ExLet, Decs: p, Kids: []api.Exp{unit}})
								}
								if e := expectedDec(d, local); e == api.ErrName {
									want = api.Bad{Kind: e, At: 7, Name: s}
								} else if e != api.OK {
									want = api.Bad{Kind: e, At: 7}
								}
								if b := tree.Right(p); b != want {
									t.Fatal(p, "gives", b, "and not", want)
								}
							}
						}
					}
				}
			}
		}
	}
}

func TestP503FunctionsAndConstructors(t *testing.T) {
	con := func(kind api.DecKind, c api.Con) []api.Dec {
		d := api.Dec{Kind: kind, At: 1, Cons: []api.Con{c}}
		if kind == api.DcData {
			d.Name = "t"
		}
		return []api.Dec{d}
	}
	for _, kind := range []api.DecKind{api.DcData, api.DcExn} {
		for _, x := range []struct {
			c    api.Con
			want api.Bad
		}{
			{api.Con{Name: "C", At: 5}, api.Bad{}}, {api.Con{Name: "C", At: 5, Arg: api.Ty{Args: []api.Ty{}}}, api.Bad{}},
			{api.Con{Name: "C", At: 5, Arg: api.Ty{Kind: api.TyVar}}, api.Bad{Kind: api.ErrKind, At: 5}}, {api.Con{Name: "C", At: 5, Arg: api.Ty{N: -1}}, api.Bad{Kind: api.ErrKind, At: 5}},
			{api.Con{Name: "C", At: 5, Arg: api.Ty{Name: "int"}}, api.Bad{Kind: api.ErrKind, At: 5}}, {api.Con{Name: "C", At: 5, Arg: api.Ty{Args: []api.Ty{{}}}}, api.Bad{Kind: api.ErrKind, At: 5}},
			{api.Con{Name: "c", At: 5, Arg: ty("int")}, api.Bad{Kind: api.ErrKind, At: 5}}, {api.Con{Name: "c", At: 5}, api.Bad{Kind: api.ErrName, At: 5, Name: "c"}},
			{api.Con{Name: "c", At: 5, Has: true}, api.Bad{Kind: api.ErrName, At: 5, Name: "c"}}, {api.Con{Name: "C", At: 5, Has: true}, api.Bad{Kind: api.ErrKind, At: 5}},
			{api.Con{Name: "C", At: 5, Has: true, Arg: ty("int")}, api.Bad{}}, {api.Con{Name: "C", At: -5, Has: true, Arg: ty("ref", ty("Int"))}, api.Bad{Kind: api.ErrName, At: -5, Name: "Int"}},
			{api.Con{At: 5}, api.Bad{Kind: api.ErrName, At: 5}},
		} {
			if b := tree.Right(con(kind, x.c)); b != x.want {
				t.Error(x.c, "gives", b, "and not", x.want)
			}
		}
	}
	for _, s := range []string{"", "F", "fun", "()"} {
		f := api.Fun{Name: s, At: 9, Case: api.Case{Pat: pat(0, 10, ""), Exp: exp(0, 11)}}
		if b := tree.Right([]api.Dec{{Kind: api.DcFun, At: 1, Funs: []api.Fun{{Name: "f", Case: val.Case[0]}, f}}}); b != (api.Bad{Kind: api.ErrName, At: 9, Name: s}) {
			t.Errorf("a function with the name %q gives %v", s, b)
		}
	}
}

func TestP503Types(t *testing.T) {
	bounds := map[string][2]int{"int": {0, 0}, "bool": {0, 0}, "unit": {0, 0}, "exn": {0, 0}, "ref": {1, 1}, "->": {2, 2}, "*": {2, 8}, "t": {0, 8}, "_": {-1, -1}, "": {-1, -1}, "Int": {-1, -1}, "true": {-1, -1}, "val": {-1, -1}, "()": {-1, -1}, "=>": {-1, -1}, "**": {-1, -1}}
	for kind := api.TyKind(-1); kind <= 4; kind++ {
		for s, b := range bounds {
			for _, n := range []int{0, 1, -1, math.MaxInt, math.MinInt} {
				for args := range 10 {
					var want api.Bad
					switch {
					case kind != api.TyVar && kind != api.TyCon, kind == api.TyVar && (s != "" || args > 0), kind == api.TyCon && n != 0:
						want = api.Bad{Kind: api.ErrKind, At: 6}
					case kind == api.TyCon && b[0] < 0:
						want = api.Bad{Kind: api.ErrName, At: 6, Name: s}
					case kind == api.TyVar && n < 0:
						want = api.Bad{Kind: api.ErrRange, At: 6}
					case kind == api.TyCon && (args < b[0] || args > b[1]):
						want = api.Bad{Kind: api.ErrCount, At: 6}
					}
					x := api.Ty{Kind: kind, N: n, Name: s, Args: many(args, ty("int"))}
					if b := tree.Right(data(6, x)); b != want {
						t.Fatal(x, "gives", b, "and not", want)
					}
					if b := tree.Right(data(6, ty("->", ty("int"), ty("ref", x)))); b != want {
						t.Fatal(x, "inside a type gives", b, "and not", want)
					}
				}
			}
		}
	}
}

var (
	lowerForm = regexp.MustCompile(`^[a-z_][A-Za-z0-9_']{0,31}$`)
	upperForm = regexp.MustCompile(`^[A-Z][A-Za-z0-9_']{0,31}$`)
)

func TestP503Names(t *testing.T) {
	l := append(strings.Fields(keywords), "", "x", "_", "__", "_'", "_0", "x'", "xY9_'", "true", "false", "()", "( )", "(", "true'", "False", "int", "bool", "unit", "exn", "list", "vals", "Val", "Ref", "->", "*", "'a", "a b", "x ", " x", "x.", "X\n", "x\n", "9", "é", "xé", "\xff", "x\x00")
	for _, n := range []int{31, 32, 33, 1 << 16} {
		l = append(l, strings.Repeat("a", n), strings.Repeat("_", n), strings.Repeat("A", n))
	}
	for b := range 256 {
		l = append(l, string([]byte{byte(b)}), string([]byte{'a', byte(b)}), string([]byte{'A', byte(b), 'z'}))
	}
	for _, s := range l {
		lower := lowerForm.MatchString(s) && !slices.Contains(strings.Fields("_ true false "+keywords), s)
		upper := upperForm.MatchString(s)
		con := upper || s == "true" || s == "false" || s == "()"
		known := slices.Contains(strings.Fields("int bool unit exn ref -> *"), s)
		args := map[string]int{"ref": 1, "->": 2, "*": 2}[s]
		for i, x := range []struct {
			fits bool
			got  api.Bad
		}{
			{lower, tree.RightExp(api.Exp{Kind: api.ExVar, At: 4, Name: s})},
			{lower, tree.RightPat(pat(api.PaVar, 4, s))},
			{lower, tree.RightPat(pat(api.PaAs, 4, s, wild))},
			{lower, tree.Right([]api.Dec{{Kind: api.DcFun, Funs: []api.Fun{{Name: s, At: 4, Case: val.Case[0]}}}})},
			{lower, tree.Right([]api.Dec{{Kind: api.DcData, At: 4, Name: s, Cons: []api.Con{{Name: "C"}}}})},
			{con, tree.RightExp(api.Exp{Kind: api.ExCon, At: 4, Name: s})},
			{con, tree.RightExp(api.Exp{Kind: api.ExCon, At: 4, Name: s, Kids: []api.Exp{unit}})},
			{con, tree.RightPat(pat(api.PaCon, 4, s))},
			{con, tree.RightPat(pat(api.PaCon, 4, s, wild))},
			{upper, tree.Right([]api.Dec{{Kind: api.DcData, Name: "t", Cons: []api.Con{{Name: s, At: 4}}}})},
			{upper, tree.Right([]api.Dec{{Kind: api.DcExn, Cons: []api.Con{{Name: s, At: 4}}}})},
			{lower || known, tree.Right(data(4, ty(s, many(args, ty("int"))...)))},
		} {
			want := api.Bad{}
			if !x.fits {
				want = api.Bad{Kind: api.ErrName, At: 4, Name: s}
			}
			if x.got != want {
				t.Errorf("%.40q in use %d gives %.40v and not %.40v", s, i, x.got, want)
			}
		}
	}
}

// spoil: makes something wrong with a part of a program; its error, without the place.
func spoil(x any) api.Errno {
	switch x := x.(type) {
	case *api.Dec:
		x.Kind = 99
	case *api.Exp:
		x.Kind = -1
	case *api.Pat:
		x.N, x.Kind = 1, 99
	case *api.Ty:
		x.Kind = 3
	case *api.Fun:
		x.Name = ""
		return api.ErrName
	case *api.Con:
		x.Name = ""
		return api.ErrName
	default:
		return api.OK
	}
	return api.ErrKind
}

func TestP503Order(t *testing.T) {
	p := sample()
	if b := tree.Right(p); b != (api.Bad{}) {
		t.Fatal("the sample gives", b)
	}
	n := len(gather(&p))
	for i := range n {
		for j := i; j < n; j++ {
			p := sample()
			parts := gather(&p)
			var first api.Bad
			place := 0
			for k, x := range parts {
				if at := reflect.ValueOf(x).Elem().FieldByName("At"); at.IsValid() {
					place = int(at.Int())
				}
				if k != i && k != j || isSpare(parts, k) {
					continue
				}
				if kind := spoil(x); kind != api.OK && (first.Kind == api.OK || place < first.At) {
					first = api.Bad{Kind: kind, At: place}
				}
			}
			if b := tree.Right(p); b != first {
				t.Fatalf("%T and %T spoilt give %v and not %v", parts[i], parts[j], b, first)
			}
		}
	}
}

// isSpare: is a part the argument of a constructor that has none?
func isSpare(parts []any, k int) bool {
	if k == 0 {
		return false
	}
	con, is := parts[k-1].(*api.Con)
	return is && !con.Has
}

func TestP503OrderOfErrorsOfANode(t *testing.T) {
	bad := exp(0, 9)
	for _, x := range []struct {
		e    api.Exp
		want api.Bad
	}{
		{api.Exp{Kind: api.ExTuple, At: 1, Kids: []api.Exp{bad}}, api.Bad{Kind: api.ErrCount, At: 1}},
		{api.Exp{Kind: api.ExCon, At: 1, Name: "x", Kids: []api.Exp{bad, bad}}, api.Bad{Kind: api.ErrName, At: 1, Name: "x"}},
		{api.Exp{Kind: api.ExCon, At: 1, Name: "X", Kids: []api.Exp{bad, bad}}, api.Bad{Kind: api.ErrCount, At: 1}},
		{api.Exp{Kind: api.ExCon, At: 1, Name: "x", N: 1, Kids: []api.Exp{bad, bad}}, api.Bad{Kind: api.ErrKind, At: 1}},
		{api.Exp{Kind: api.ExOp, At: 1, Kids: []api.Exp{bad}}, api.Bad{Kind: api.ErrRange, At: 1}},
		{api.Exp{Kind: api.ExOp, At: 1, N: 1, Kids: []api.Exp{bad}}, api.Bad{Kind: api.ErrCount, At: 1}},
		{api.Exp{Kind: api.ExOp, At: 1, N: 1, Kids: []api.Exp{bad, bad}}, api.Bad{Kind: api.ErrKind, At: 9}},
		{api.Exp{Kind: api.ExLet, At: 1, Kids: []api.Exp{bad}, Decs: []api.Dec{{Kind: api.DcExn, At: 2}}}, api.Bad{Kind: api.ErrKind, At: 2}},
		{api.Exp{Kind: api.ExLet, At: 1, Decs: []api.Dec{{Kind: api.DcExn, At: 2}}}, api.Bad{Kind: api.ErrCount, At: 1}},
		{api.Exp{Kind: api.ExLet, At: 1, Kids: []api.Exp{bad}, Decs: []api.Dec{{Kind: api.DcVal, At: 2}}}, api.Bad{Kind: api.ErrCount, At: 2}},
		{api.Exp{Kind: api.ExCase, At: 1, Kids: []api.Exp{unit}, Cases: []api.Case{{Pat: pat(api.PaVar, 3, "X"), Exp: bad}}}, api.Bad{Kind: api.ErrName, At: 3, Name: "X"}},
	} {
		if b := tree.RightExp(x.e); b != x.want {
			t.Error(x.e, "gives", b, "and not", x.want)
		}
	}
	if b := tree.Right([]api.Dec{{Kind: api.DcData, At: 1, Name: "T", Params: 9}}); b != (api.Bad{Kind: api.ErrName, At: 1, Name: "T"}) {
		t.Error("a datatype with two errors gives", b)
	}
}

func TestP503Size(t *testing.T) {
	long := api.Bad{Kind: api.ErrLong}
	wrong := dec(5, pat(99, 6, ""), exp(99, 7))
	for _, x := range []struct {
		p    []api.Dec
		want api.Bad
	}{
		{append(many(2730, val), api.Dec{Kind: api.DcData, Name: "t", Cons: []api.Con{{Name: "A"}, {Name: "B", Has: true, Arg: ty("int")}}}), api.Bad{}},
		{append(many(2730, val), val), long}, {append([]api.Dec{wrong}, many(2730, val)...), long},
		{append([]api.Dec{wrong}, many(2729, val)...), api.Bad{Kind: api.ErrKind, At: 6}},
		{[]api.Dec{{Kind: api.DcFun, Funs: many(4095, api.Fun{Name: "f", Case: val.Case[0]})}}, api.Bad{}},
		{[]api.Dec{{Kind: api.DcFun, Funs: many(4096, api.Fun{Name: "f", Case: val.Case[0]})}}, long},
		{valOf(exp(api.ExSeq, 0, many(8189, unit)...)), api.Bad{}}, {valOf(exp(api.ExSeq, 0, many(8190, unit)...)), long},
		{[]api.Dec{{Kind: api.DcExn, At: 3, Cons: many(100000, api.Con{Name: "E"})}}, api.Bad{Kind: api.ErrCount, At: 3}},
		{[]api.Dec{{Kind: api.DcExn, At: 3, Cons: many(8191, api.Con{Name: "E", Has: true, Arg: ty("int")})}}, api.Bad{Kind: api.ErrCount, At: 3}},
		{[]api.Dec{{Kind: api.DcExn, At: 3, Cons: many(8192, api.Con{Name: "E", Has: true, Arg: ty("int")})}}, long},
		{[]api.Dec{{Kind: api.DcExn, At: 3, Cons: many(1, api.Con{Name: "E", At: 4, Arg: ty("t", many(9000, ty("int"))...)})}}, api.Bad{Kind: api.ErrKind, At: 4}},
	} {
		if b := tree.Right(x.p); b != x.want {
			t.Error("a program with", tree.Size(x.p), "nodes gives", b, "and not", x.want)
		}
	}
	for n, want := range map[int]api.Bad{8191: {Kind: api.ErrKind, At: 2}, 8192: long} {
		if b := tree.RightExp(api.Exp{Kind: 99, At: 2, Kids: many(n, unit)}); b != want {
			t.Error("an expression with", n+1, "nodes gives", b)
		}
		if b := tree.RightPat(api.Pat{Kind: 99, At: 2, Kids: many(n, wild)}); b != want {
			t.Error("a pattern with", n+1, "nodes gives", b)
		}
	}
}

func TestP503Depth(t *testing.T) {
	deep := api.Bad{Kind: api.ErrDeep}
	// Each way to go down by so many levels, below a tree whose innermost node has an error or none.
	for _, x := range []struct {
		levels int
		wrap   func(e api.Exp) api.Exp
	}{
		{1, func(e api.Exp) api.Exp { return exp(api.ExRef, 0, e) }},
		{1, func(e api.Exp) api.Exp { return exp(api.ExApp, 0, unit, e) }},
		{1, func(e api.Exp) api.Exp { return exp(api.ExApp, 0, e, unit) }},
		{1, func(e api.Exp) api.Exp { return api.Exp{Kind: api.ExFn, Cases: []api.Case{{Pat: wild, Exp: e}}} }},
		{1, func(e api.Exp) api.Exp {
			return api.Exp{Kind: api.ExTry, Kids: []api.Exp{unit}, Cases: []api.Case{{Pat: wild, Exp: unit}, {Pat: wild, Exp: e}}}
		}},
		{2, func(e api.Exp) api.Exp {
			return api.Exp{Kind: api.ExLet, Decs: []api.Dec{dec(0, wild, e)}, Kids: []api.Exp{unit}}
		}},
		{2, func(e api.Exp) api.Exp {
			return api.Exp{Kind: api.ExLet, Decs: []api.Dec{{Kind: api.DcFun, Funs: []api.Fun{{Name: "f", Case: api.Case{Pat: wild, Exp: e}}}}}, Kids: []api.Exp{unit}}
		}},
	} {
		for _, last := range []api.Exp{unit, exp(99, 1)} {
			for times := 90 / x.levels; times <= 110/x.levels; times++ {
				e := last
				for range times {
					e = x.wrap(e)
				}
				for outer, b := range []api.Bad{tree.RightExp(e), tree.Right(valOf(e)), tree.Right([]api.Dec{val, {Kind: api.DcFun, Funs: []api.Fun{{Name: "f", Case: api.Case{Pat: wild, Exp: e}}}}})} {
					want := api.Bad{}
					if last.Kind == 99 {
						want = api.Bad{Kind: api.ErrKind, At: 1}
					}
					if times*x.levels+1+min(outer, 1) > 100 {
						want = deep
					}
					if b != want {
						t.Fatal(times, "times", x.levels, "levels give", b, "and not", want)
					}
				}
			}
		}
	}
}

func TestP503DepthOfPatternsAndTypes(t *testing.T) {
	x, arg := wild, ty("int")
	for levels := 1; levels <= 110; levels++ {
		want := func(extra int) api.Bad {
			if levels+extra > 100 {
				return api.Bad{Kind: api.ErrDeep}
			}
			return api.Bad{}
		}
		for _, got := range []struct {
			extra int
			b     api.Bad
		}{
			{0, tree.RightPat(x)}, {1, tree.RightExp(api.Exp{Kind: api.ExFn, Cases: []api.Case{{Pat: x, Exp: unit}}})}, {1, tree.Right([]api.Dec{dec(0, x, unit)})},
			{1, tree.Right(data(0, arg))}, {1, tree.Right([]api.Dec{{Kind: api.DcFun, Funs: []api.Fun{{Name: "f", Case: api.Case{Pat: x, Exp: unit}}}}})},
		} {
			if got.b != want(got.extra) {
				t.Fatal(levels, "and", got.extra, "levels give", got.b)
			}
		}
		if b := tree.Right([]api.Dec{{Kind: api.DcExn, Cons: []api.Con{{Name: "E", At: 8, Arg: arg}}}}); b != (api.Bad{Kind: api.ErrKind, At: 8}) {
			t.Fatal("an argument that a constructor does not have counts as", levels, "levels:", b)
		}
		x, arg = pat(api.PaTuple, 0, "", wild, x), ty("->", arg, ty("int"))
	}
}

func TestP504Bare(t *testing.T) {
	if l := tree.Bare(nil); len(l) != 0 {
		t.Error(l)
	}
	want := sample()
	for _, at := range places(want) {
		*at = 0
	}
	if got := tree.Bare(sample()); !reflect.DeepEqual(got, want) {
		t.Error(got, "and not", want)
	}
	for _, p := range append(programs(500, 10), programs(500, 0)...) {
		bare, kept := tree.Bare(p), copyOf(p)
		for _, at := range places(bare) {
			if *at != 0 {
				t.Fatal("a place is left in", bare)
			}
		}
		for _, at := range places(kept) {
			*at = 0
		}
		if !alike(reflect.ValueOf(bare), reflect.ValueOf(kept)) {
			t.Fatal("the bare program of", p, "is", bare)
		}
	}
}

// alike: are all fields equal, where nil and empty slices are?
func alike(a, b reflect.Value) bool {
	switch a.Kind() {
	case reflect.Struct:
		for i := range a.NumField() {
			if !alike(a.Field(i), b.Field(i)) {
				return false
			}
		}
		return true
	case reflect.Slice:
		for i := range min(a.Len(), b.Len()) {
			if !alike(a.Index(i), b.Index(i)) {
				return false
			}
		}
		return a.Len() == b.Len()
	}
	return a.Equal(b)
}

func TestP504Same(t *testing.T) {
	p := sample()
	if !tree.Same(p, sample()) || !tree.Same(nil, nil) || !tree.Same(nil, []api.Dec{}) || tree.Same(nil, p) || tree.Same(p, nil) || tree.Same(p, p[1:]) || tree.Same(p[:4], p) {
		t.Error("programs are not compared as a whole")
	}
	if tree.Same([]api.Dec{{}}, nil) || !tree.Same([]api.Dec{{}}, []api.Dec{{At: 3, Cons: []api.Con{}, Case: []api.Case{}, Funs: []api.Fun{}}}) {
		t.Error("empty declarations are not compared")
	}
	for i := range gather(&p) {
		fields := reflect.ValueOf(gather(&p)[i]).Elem().NumField()
		for f := range fields {
			q := sample()
			v := reflect.ValueOf(gather(&q)[i]).Elem()
			field := v.Field(f)
			switch field.Kind() {
			case reflect.Int:
				field.SetInt(field.Int() + 1)
			case reflect.String:
				field.SetString(field.String() + "'")
			case reflect.Bool:
				field.SetBool(!field.Bool())
			case reflect.Slice:
				field.Set(reflect.Append(field, reflect.New(field.Type().Elem()).Elem()))
			default:
				continue
			}
			isPlace := v.Type().Field(f).Name == "At"
			if tree.Same(p, q) != isPlace || tree.Same(q, p) != isPlace {
				t.Errorf("%s of %T: programs that differ there are the same: %v", v.Type().Field(f).Name, v.Interface(), !isPlace)
			}
		}
	}
}

func TestP504Vars(t *testing.T) {
	a, b, c := pat(api.PaVar, 1, "a"), pat(api.PaVar, 2, "b"), pat(api.PaVar, 3, "c")
	for i, x := range []struct {
		p    api.Pat
		want []string
	}{
		{wild, nil}, {api.Pat{}, nil}, {a, []string{"a"}}, {pat(api.PaInt, 0, "x"), nil}, {pat(api.PaCon, 0, "X"), nil}, {pat(99, 0, "x", a), []string{"a"}},
		{pat(api.PaAs, 0, "x", pat(api.PaVar, 0, "y")), []string{"x", "y"}}, {pat(api.PaAs, 0, "a", a), []string{"a", "a"}}, {pat(api.PaVar, 0, ""), []string{""}},
		{pat(api.PaTuple, 0, "", c, a, pat(api.PaCon, 0, "X", pat(api.PaAs, 0, "d", pat(api.PaTuple, 0, "", b, wild, a))), c), []string{"c", "a", "d", "b", "a", "c"}},
		{pat(api.PaVar, 0, "x", b, a), []string{"x", "b", "a"}}, {pat(api.PaAs, 0, "val"), []string{"val"}},
	} {
		if l := tree.Vars(x.p); !slices.Equal(l, x.want) {
			t.Error("pattern", i, "has the names", l, "and not", x.want)
		}
	}
}

func TestP505BareTrees(t *testing.T) {
	l := append(programs(1000, 10), programs(300, 60)...)
	l = append(l, valOf(exp(api.ExSeq, 0, many(9000, unit)...)), valOf(unit))
	e := number(3, 1<<30)
	for range 200 {
		e = exp(api.ExRef, 4, e)
	}
	l = append(l, valOf(e), valOf(e.Kids[0]))
	for i, p := range l {
		bare := tree.Bare(p)
		if !tree.Same(p, bare) || !tree.Same(bare, p) || tree.Size(p) != tree.Size(bare) {
			t.Fatal(p, "is not the same as", bare)
		}
		want := tree.Right(p)
		want.At = 0
		if b := tree.Right(bare); b != want {
			t.Fatal("the bare program of", p, "gives", b, "and not", want)
		}
		for _, q := range [][]api.Dec{l[(i+1)%len(l)], l[(i+7)%len(l)], copyOf(p), bare} {
			if tree.Same(p, q) != alike(reflect.ValueOf(bare), reflect.ValueOf(tree.Bare(q))) {
				t.Fatal(p, "and", q, "are not the same exactly if their bare programs are")
			}
		}
	}
}

func TestP506Parts(t *testing.T) {
	for _, p := range programs(1000, 0) {
		if b := tree.Right(p); b != (api.Bad{}) {
			t.Fatal(p, "gives", b)
		}
		for _, x := range gather(&p) {
			switch x := x.(type) {
			case *api.Exp:
				if b := tree.RightExp(*x); b != (api.Bad{}) {
					t.Fatal(*x, "gives", b)
				}
			case *api.Pat:
				if b := tree.RightPat(*x); b != (api.Bad{}) {
					t.Fatal(*x, "gives", b)
				}
			}
		}
	}
}
