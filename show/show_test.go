package show_test

import (
	"reflect"
	"strconv"
	"strings"
	"testing"

	"camlet/api"
	"camlet/lex"
	"camlet/read"
	"camlet/show"
	"camlet/tree"
)

func same(t *testing.T, got, want string) {
	t.Helper()
	if got != want {
		t.Errorf("got  %q\nwant %q", short(got), short(want))
	}
}

func short(s string) string {
	if len(s) > 500 {
		return s[:250] + " .. " + s[len(s)-250:]
	}
	return s
}

func TestP702InvalidTrees(t *testing.T) {
	for _, p := range [][]api.Dec{
		{val(wild(), api.Exp{})}, {val(api.Pat{Kind: 7}, num(1))}, {{Kind: 5}}, {{Kind: api.DcVal}}, {val(wild(), num(1)), {Kind: api.DcFun}}, {data("t", 9, api.Con{Name: "A"})}, {data("T", 0, api.Con{Name: "A"})}, {data("t", 0)},
		{exn(api.Con{Name: "a"})}, {exn(api.Con{Name: "A", Arg: tc("int")})}, {exn(api.Con{Name: "A", Has: true})}, {exn(api.Con{Name: "A", Has: true, Arg: tc("ref")})}, {exn(api.Con{Name: "A", Has: true, Arg: tv(-1)})},
		{val(wild(), let(num(1), data("t", 0, api.Con{Name: "A"})))}, make([]api.Dec, 9000),
	} {
		same(t, show.Program(p), "")
	}
	for _, e := range []api.Exp{
		{}, {Kind: -1}, {Kind: 21}, {Kind: 1 << 40}, num(1 << 30), num(-1<<30 - 1), name("val"), name(""), name("X"), name("x y"), name(strings.Repeat("x", 33)), con("a"), con("(*"), con("A", num(1), num(2)), node(api.ExTuple, num(1)), node(api.ExSeq, num(1)), node(api.ExFn), node(api.ExIf, num(1), num(2)),
		op(0, num(1), num(2)), op(api.PrLe+1, num(1), num(2)), op(-1, num(1), num(2)), op(api.PrAdd, num(1), node(api.ExGet)), {Kind: api.ExVar, Name: "x", N: 1}, {Kind: api.ExRead, Kids: []api.Exp{num(1)}}, let(num(1)), cased(api.ExFn, nil, of(pcon("a"), num(1))), cased(api.ExTry, nil, of(wild(), num(1))),
	} {
		same(t, show.Expr(e), "")
	}
	for _, x := range []api.Pat{{}, {Kind: -1}, {Kind: 7}, pint(1 << 30), pvar("in"), pvar("_"), pcon("x"), pcon("A", wild(), wild()), tuple(wild()), as("x", api.Pat{}), {Kind: api.PaAs, Name: "x"}, {Kind: api.PaAny, Name: "x"}} {
		same(t, show.Pattern(x), "")
	}
}

func TestP702DeepAndLongTrees(t *testing.T) {
	e, x := num(1), wild()
	for range api.MaxDeep - 1 {
		e, x = node(api.ExRaise, e), as("x", x)
	}
	same(t, show.Expr(e), strings.Repeat("raise ", api.MaxDeep-1)+"1")
	same(t, show.Expr(node(api.ExRaise, e)), "")
	same(t, show.Pattern(x), strings.Repeat("x as ", api.MaxDeep-1)+"_")
	same(t, show.Pattern(as("x", x)), "")
	same(t, show.Program([]api.Dec{val(wild(), e.Kids[0])}), "val _ = "+strings.Repeat("raise ", api.MaxDeep-2)+"1\n")
	same(t, show.Program([]api.Dec{val(wild(), e)}), "")
	kids := make([]api.Exp, api.MaxSize-1)
	for i := range kids {
		kids[i] = name("x")
	}
	same(t, show.Expr(node(api.ExSeq, kids...)), "("+strings.Repeat("x; ", api.MaxSize-2)+"x)")
	same(t, show.Expr(node(api.ExSeq, append(kids, num(1))...)), "")
}

func TestP702SpoiltTrees(t *testing.T) {
	r, rights, wrongs := &row{1}, 0, 0
	for range 300 {
		p := mixedProgram(r)
		for range 5 {
			spoil(r, reflect.ValueOf(&p).Elem())
			got, bad := show.Program(p), tree.Right(p)
			if (got == "") != (bad != (api.Bad{}) || len(p) == 0) {
				t.Fatalf("a program with the error %v gives %q", bad, got)
			}
			if bad != (api.Bad{}) {
				wrongs++
			} else {
				rights++
			}
		}
		e, x := mixed(r, expForms(), 3), mixed(r, patForms(), 3)
		spoil(r, reflect.ValueOf(&e).Elem())
		spoil(r, reflect.ValueOf(&x).Elem())
		if bad := tree.RightExp(e); (show.Expr(e) == "") != (bad != (api.Bad{})) {
			t.Fatalf("an expression with the error %v gives %q", bad, show.Expr(e))
		}
		if bad := tree.RightPat(x); (show.Pattern(x) == "") != (bad != (api.Bad{})) {
			t.Fatalf("a pattern with the error %v gives %q", bad, show.Pattern(x))
		}
	}
	if rights == 0 || wrongs == 0 {
		t.Error(rights, "trees without and", wrongs, "with errors")
	}
}

// spoil: changes something inside a value.
func spoil(r *row, v reflect.Value) {
	var l []reflect.Value
	var visit func(v reflect.Value)
	visit = func(v reflect.Value) {
		switch v.Kind() {
		case reflect.Struct:
			for i := range v.NumField() {
				visit(v.Field(i))
			}
			return
		case reflect.Slice:
			for i := range v.Len() {
				visit(v.Index(i))
			}
		}
		l = append(l, v)
	}
	visit(v)
	switch v = l[r.below(len(l))]; v.Kind() {
	case reflect.Int:
		v.SetInt(int64([]int{-1, 0, 1, 5, 1 << 40}[r.below(5)]))
	case reflect.String:
		v.SetString([]string{"", "val", "x", "A", "()", "ref", "int", "->"}[r.below(8)])
	case reflect.Bool:
		v.SetBool(!v.Bool())
	case reflect.Slice:
		if n := r.below(v.Len() + 1); n < v.Len() {
			v.Set(v.Slice(0, n))
		} else {
			v.Set(reflect.Append(v, reflect.Zero(v.Type().Elem())))
		}
	}
}

func TestP702Types(t *testing.T) {
	for _, kind := range []api.TyKind{-1, 0, api.TyVar, api.TyCon, 3} {
		for _, n := range []int{-1 << 63, -1, 0, 1, 999, 1000, 1001, 1 << 40} {
			for _, s := range []string{"", "int", "bool", "unit", "exn", "ref", "->", "*", "t", "_", "_t", "t'", "T", "true", "false", "val", "read", " t", "t ", "t t", "t(**)", "'a", "1", "+", "t\n", "é", strings.Repeat("t", 32), strings.Repeat("t", 33), strings.Repeat("t", 70000)} {
				for args := range 12 {
					x := api.Ty{Kind: kind, N: n, Name: s, Args: make([]api.Ty, args)}
					for i := range x.Args {
						x.Args[i] = tc("int")
					}
					if got := show.Type(x); (got != "") != isType(x) {
						t.Errorf("%d %d %q of %d gives %q", kind, n, short(s), args, short(got))
					}
					if outer := tc("t", tv(0), x, tv(1)); (show.Type(outer) != "") != isType(x) {
						t.Errorf("%d %d %q of %d inside a type gives %q", kind, n, short(s), args, short(show.Type(outer)))
					}
				}
			}
		}
	}
}

// isType: what P702 says of a node.
func isType(t api.Ty) bool {
	most := map[string]int{"int": 0, "bool": 0, "unit": 0, "exn": 0, "ref": 1, "->": 2, "*": api.MaxWidth, "t": api.MaxParams, "_t": api.MaxParams, "t'": api.MaxParams, strings.Repeat("t", 32): api.MaxParams}
	least := map[string]int{"ref": 1, "->": 2, "*": 2}
	n, known := most[t.Name]
	return t.Kind == api.TyVar && t.N >= 0 && t.N <= 1000 && t.Name == "" && len(t.Args) == 0 || t.Kind == api.TyCon && t.N == 0 && known && least[t.Name] <= len(t.Args) && len(t.Args) <= n
}

func TestP702LargeTypes(t *testing.T) {
	x := tc("int")
	for range api.MaxTySize - 1 {
		x = tc("ref", x)
	}
	same(t, show.Type(x), "int"+strings.Repeat(" ref", api.MaxTySize-1))
	same(t, show.Type(tc("ref", x)), "")
	same(t, show.Type(tc("->", x, tv(0))), "")
	half := tc("t")
	for range 7 {
		half = tc("->", half, half) // 255 nodes at last
	}
	if show.Type(half) == "" || show.Type(tc("ref", half)) == "" || show.Type(tc("ref", tc("ref", half))) != "" {
		t.Error("a type of 255, 256 and 257 nodes gives", show.Type(half), show.Type(tc("ref", half)), show.Type(tc("ref", tc("ref", half))))
	}
}

func TestP703Expressions(t *testing.T) {
	a, b, c, f, x := name("a"), name("b"), name("c"), name("f"), name("x")
	fn := cased(api.ExFn, nil, of(pvar("y"), a))
	cs := cased(api.ExCase, []api.Exp{x}, of(pint(0), num(1)))
	try := cased(api.ExTry, []api.Exp{a}, of(pcon("Div"), b))
	cond := func(e api.Exp) api.Exp { return node(api.ExIf, a, b, e) }
	raise := func(e api.Exp) api.Exp { return node(api.ExRaise, e) }
	set := func(e api.Exp) api.Exp { return node(api.ExSet, a, e) }
	behind := func(e api.Exp) api.Exp { return cased(api.ExFn, nil, of(wild(), e), of(wild(), e)) }
	for _, r := range []struct {
		e    api.Exp
		want string
	}{
		{num(0), "0"}, {num(12), "12"}, {num(-12), "~12"}, {num(1<<30 - 1), "1073741823"}, {num(-1 << 30), "~1073741824"}, {x, "x"}, {name("_x'"), "_x'"}, {con("Nil"), "Nil"}, {con("true"), "true"}, {con("()"), "()"}, {node(api.ExRead), "read ()"},
		{con("Some", num(1)), "Some 1"}, {con("Some", con("Nil")), "Some Nil"}, {con("Some", con("Some", x)), "Some (Some x)"}, {con("Some", con("()")), "Some ()"}, {con("()", x), "() x"}, {con("()", con("()", x)), "() (() x)"}, {con("false", num(-1)), "false ~1"},
		{node(api.ExTuple, a, b), "(a, b)"}, {node(api.ExTuple, fn, raise(a), set(b)), "(fn y => a, raise a, a := b)"}, {node(api.ExTuple, node(api.ExTuple, a, b), con("()")), "((a, b), ())"}, {node(api.ExSeq, a, b, c), "(a; b; c)"}, {node(api.ExSeq, fn, try), "(fn y => a; a handle Div => b)"},
		{fn, "fn y => a"}, {behind(a), "fn _ => a | _ => a"}, {node(api.ExApp, f, x), "f x"}, {node(api.ExApp, node(api.ExApp, f, x), a), "f x a"}, {node(api.ExApp, f, node(api.ExApp, f, x)), "f (f x)"}, {node(api.ExApp, f, con("Nil")), "f Nil"}, {node(api.ExApp, f, con("Some", x)), "f (Some x)"}, {node(api.ExApp, con("Some", x), a), "Some x a"},
		{node(api.ExApp, con("Nil"), x), "(Nil) x"}, {node(api.ExApp, con("true"), x), "(true) x"}, {node(api.ExApp, con("()"), x), "() x"}, {node(api.ExApp, con("()", x), a), "() x a"}, {node(api.ExApp, fn, x), "(fn y => a) x"}, {node(api.ExApp, num(-1), num(-2)), "~1 ~2"}, {node(api.ExApp, node(api.ExRead), con("()")), "read () ()"}, {node(api.ExApp, node(api.ExApp, con("A"), x), a), "(A) x a"},
		{node(api.ExApp, node(api.ExGet, a), x), "!a x"}, {node(api.ExApp, f, node(api.ExGet, a)), "f (!a)"}, {node(api.ExApp, node(api.ExRef, a), x), "ref a x"}, {node(api.ExApp, node(api.ExPrint, a), x), "print a x"}, {node(api.ExApp, op(api.PrMul, a, b), x), "(a * b) x"},
		{node(api.ExRef, x), "ref x"}, {node(api.ExRef, node(api.ExRef, x)), "ref (ref x)"}, {node(api.ExGet, x), "!x"}, {node(api.ExGet, node(api.ExGet, x)), "!(!x)"}, {node(api.ExGet, num(-3)), "!~3"}, {node(api.ExGet, con("()")), "!()"}, {node(api.ExPrint, node(api.ExGet, x)), "print (!x)"}, {node(api.ExPrint, node(api.ExTuple, a, b)), "print (a, b)"},
		{let(x, val(pvar("x"), num(1))), "let val x = 1 in x end"}, {let(fn, val(wild(), try), fun(api.Fun{Name: "f", Case: of(pcon("A", wild()), fn)}, api.Fun{Name: "g", Case: of(wild(), cs)})), "let val _ = a handle Div => b fun f (A _) = fn y => a and g _ = case x of 0 => 1 in fn y => a end"}, {node(api.ExApp, let(f, val(wild(), a)), let(x, val(wild(), b))), "let val _ = a in f end let val _ = b in x end"},
		{node(api.ExIf, a, b, c), "if a then b else c"}, {node(api.ExIf, fn, cs, set(a)), "if fn y => a then case x of 0 => 1 else a := a"}, {node(api.ExIf, cond(c), cond(c), cond(c)), "if if a then b else c then if a then b else c else if a then b else c"}, {cs, "case x of 0 => 1"}, {cased(api.ExCase, []api.Exp{cs}, of(pint(-1), cs)), "case case x of 0 => 1 of ~1 => case x of 0 => 1"}, {raise(try), "raise a handle Div => b"}, {raise(con("E", num(1))), "raise E 1"},
		{set(b), "a := b"}, {set(set(b)), "a := a := b"}, {node(api.ExSet, set(b), c), "(a := b) := c"}, {node(api.ExSet, try, c), "(a handle Div => b) := c"}, {set(try), "a := a handle Div => b"}, {set(cond(c)), "a := (if a then b else c)"}, {set(fn), "a := (fn y => a)"}, {node(api.ExSet, node(api.ExOr, a, b), node(api.ExOr, a, b)), "a orelse b := a orelse b"}, {node(api.ExSet, fn, a), "(fn y => a) := a"},
		{try, "a handle Div => b"}, {cased(api.ExTry, []api.Exp{try}, of(wild(), try), of(wild(), try)), "(a handle Div => b) handle _ => (a handle Div => b) | _ => a handle Div => b"}, {cased(api.ExTry, []api.Exp{node(api.ExOr, a, b)}, of(wild(), set(b))), "a orelse b handle _ => a := b"}, {cased(api.ExTry, []api.Exp{raise(a)}, of(wild(), b)), "(raise a) handle _ => b"}, {cased(api.ExTry, []api.Exp{set(a)}, of(wild(), b)), "(a := a) handle _ => b"},
		{node(api.ExOr, a, node(api.ExOr, b, c)), "a orelse b orelse c"}, {node(api.ExOr, node(api.ExOr, a, b), c), "(a orelse b) orelse c"}, {node(api.ExOr, node(api.ExAnd, a, b), node(api.ExAnd, b, c)), "a andalso b orelse b andalso c"}, {node(api.ExAnd, a, node(api.ExAnd, b, c)), "a andalso b andalso c"}, {node(api.ExAnd, node(api.ExAnd, a, b), c), "(a andalso b) andalso c"}, {node(api.ExAnd, node(api.ExOr, a, b), node(api.ExOr, a, b)), "(a orelse b) andalso (a orelse b)"}, {node(api.ExOr, try, try), "(a handle Div => b) orelse (a handle Div => b)"},
		{op(api.PrSub, num(1), op(api.PrSub, num(2), num(3))), "1 - (2 - 3)"}, {op(api.PrSub, op(api.PrSub, num(1), num(2)), num(3)), "1 - 2 - 3"}, {op(api.PrAdd, op(api.PrMul, a, b), op(api.PrDiv, a, b)), "a * b + a div b"}, {op(api.PrMod, op(api.PrAdd, a, b), op(api.PrMul, a, b)), "(a + b) mod (a * b)"}, {op(api.PrMul, op(api.PrMod, a, b), node(api.ExApp, f, x)), "a mod b * f x"}, {op(api.PrAdd, node(api.ExAnd, a, b), fn), "(a andalso b) + (fn y => a)"},
		{op(api.PrEq, op(api.PrAdd, a, b), op(api.PrSub, a, b)), "a + b = a - b"}, {op(api.PrEq, op(api.PrNe, a, b), op(api.PrLt, a, b)), "(a <> b) = (a < b)"}, {op(api.PrLe, op(api.PrLe, a, b), c), "(a <= b) <= c"}, {op(api.PrLt, a, op(api.PrEq, b, c)), "a < (b = c)"}, {node(api.ExAnd, op(api.PrEq, a, b), op(api.PrNe, b, c)), "a = b andalso b <> c"}, {op(api.PrDiv, num(-1), node(api.ExGet, a)), "~1 div !a"},
		{behind(fn), "fn _ => (fn y => a) | _ => fn y => a"}, {behind(cs), "fn _ => (case x of 0 => 1) | _ => case x of 0 => 1"}, {behind(try), "fn _ => (a handle Div => b) | _ => a handle Div => b"}, {behind(set(b)), "fn _ => a := b | _ => a := b"}, {behind(raise(a)), "fn _ => raise a | _ => raise a"}, {behind(cond(c)), "fn _ => if a then b else c | _ => if a then b else c"},
		{behind(raise(fn)), "fn _ => (raise fn y => a) | _ => raise fn y => a"}, {behind(cond(try)), "fn _ => (if a then b else a handle Div => b) | _ => if a then b else a handle Div => b"}, {behind(set(try)), "fn _ => (a := a handle Div => b) | _ => a := a handle Div => b"}, {behind(set(set(try))), "fn _ => (a := a := a handle Div => b) | _ => a := a := a handle Div => b"}, {behind(raise(cond(set(try)))), "fn _ => (raise if a then b else a := a handle Div => b) | _ => raise if a then b else a := a handle Div => b"},
		{behind(set(fn)), "fn _ => a := (fn y => a) | _ => a := (fn y => a)"}, {behind(set(cond(fn))), "fn _ => a := (if a then b else fn y => a) | _ => a := (if a then b else fn y => a)"}, {behind(node(api.ExIf, fn, try, a)), "fn _ => if fn y => a then a handle Div => b else a | _ => if fn y => a then a handle Div => b else a"}, {behind(op(api.PrAdd, a, fn)), "fn _ => a + (fn y => a) | _ => a + (fn y => a)"}, {behind(raise(set(set(b)))), "fn _ => raise a := a := b | _ => raise a := a := b"},
		{cased(api.ExCase, []api.Exp{x}, of(wild(), fn), of(wild(), cond(cs)), of(wild(), set(a)), of(wild(), cs)), "case x of _ => (fn y => a) | _ => (if a then b else case x of 0 => 1) | _ => a := a | _ => case x of 0 => 1"},
	} {
		same(t, show.Expr(r.e), r.want)
	}
}

func TestP703Patterns(t *testing.T) {
	x := pvar("x")
	for _, r := range []struct {
		p    api.Pat
		want string
	}{
		{wild(), "_"}, {x, "x"}, {pint(0), "0"}, {pint(-5), "~5"}, {pint(-1 << 30), "~1073741824"}, {pcon("Nil"), "Nil"}, {pcon("false"), "false"}, {pcon("()"), "()"}, {pcon("A", x), "A x"}, {pcon("A", pcon("B")), "A B"}, {pcon("A", pcon("B", x)), "A (B x)"}, {pcon("A", pcon("()")), "A ()"}, {pcon("()", x), "() x"}, {pcon("A", pint(-1)), "A ~1"}, {pcon("A", as("x", wild())), "A (x as _)"},
		{tuple(x, wild()), "(x, _)"}, {tuple(as("x", wild()), pcon("A", x), tuple(pcon("()"), pint(-2))), "(x as _, A x, ((), ~2))"}, {pcon("Cons", tuple(x, wild())), "Cons (x, _)"}, {as("x", as("y", pcon("A", x))), "x as y as A x"}, {as("x", tuple(x, x)), "x as (x, x)"},
	} {
		same(t, show.Pattern(r.p), r.want)
	}
}

func TestP703Types(t *testing.T) {
	a, b, i := tv(0), tv(1), tc("int")
	arrow := tc("->", a, b)
	for _, r := range []struct {
		t    api.Ty
		want string
	}{
		{i, "int"}, {tc("bool"), "bool"}, {tc("unit"), "unit"}, {tc("exn"), "exn"}, {tc("t"), "t"}, {a, "'a"}, {tv(25), "'z"}, {tv(26), "'a1"}, {tv(27), "'b1"}, {tv(51), "'z1"}, {tv(52), "'a2"}, {tv(285), "'z10"}, {tv(1000), "'m38"},
		{arrow, "'a -> 'b"}, {tc("->", arrow, arrow), "('a -> 'b) -> 'a -> 'b"}, {tc("list", arrow), "('a -> 'b) list"}, {tc("list", tc("list", i)), "int list list"}, {tc("ref", tc("ref", i)), "int ref ref"}, {tc("ref", tc("*", a, b)), "('a * 'b) ref"}, {tc("->", tc("*", a, b), tc("*", a, b)), "'a * 'b -> 'a * 'b"},
		{tc("*", arrow, arrow), "('a -> 'b) * ('a -> 'b)"}, {tc("*", a, tc("*", a, b), i), "'a * ('a * 'b) * int"}, {tc("*", tc("ref", a), tc("list", b)), "'a ref * 'b list"}, {tc("t", a, b), "('a, 'b) t"}, {tc("t", arrow, tc("*", a, b), i), "('a -> 'b, 'a * 'b, int) t"}, {tc("list", tc("t", a, b)), "('a, 'b) t list"}, {tc("t", tc("t", a, b), b), "(('a, 'b) t, 'b) t"}, {tc("list", tc("list", arrow)), "('a -> 'b) list list"},
	} {
		same(t, show.Type(r.t), r.want)
	}
}

func TestP704Declarations(t *testing.T) {
	x, nil0 := name("x"), api.Con{Name: "Nil"}
	has := func(s string, arg api.Ty) api.Con { return api.Con{Name: s, Has: true, Arg: arg} }
	for _, r := range []struct {
		d    api.Dec
		want string
	}{
		{val(pvar("x"), num(1)), "val x = 1"}, {val(pcon("A", wild()), cased(api.ExFn, nil, of(wild(), x))), "val A _ = fn _ => x"}, {val(as("x", tuple(wild(), pint(-1))), node(api.ExRaise, x)), "val x as (_, ~1) = raise x"},
		{fun(api.Fun{Name: "f", Case: of(pvar("x"), x)}), "fun f x = x"}, {fun(api.Fun{Name: "f", At: 9, Case: of(pcon("A", wild()), node(api.ExSet, x, x))}, api.Fun{Name: "g", Case: of(as("x", wild()), cased(api.ExFn, nil, of(wild(), x)))}, api.Fun{Name: "h", Case: of(tuple(wild(), wild()), x)}), "fun f (A _) = x := x and g (x as _) = fn _ => x and h (_, _) = x"}, {fun(api.Fun{Name: "f", Case: of(pcon("A"), x)}, api.Fun{Name: "f", Case: of(pcon("()"), x)}), "fun f A = x and f () = x"},
		{data("t", 0, nil0), "datatype t = Nil"}, {data("list", 1, nil0, has("Cons", tc("*", tv(0), tc("list", tv(0))))), "datatype 'a list = Nil | Cons of 'a * 'a list"}, {data("t", 2, has("A", tc("->", tv(1), tv(0))), has("B", tc("t", tv(0), tv(1)))), "datatype ('a, 'b) t = A of 'b -> 'a | B of ('a, 'b) t"}, {data("t", 8, nil0), "datatype ('a, 'b, 'c, 'd, 'e, 'f, 'g, 'h) t = Nil"},
		{data("t", 0, has("A", tv(9)), has("B", tv(1<<62))), "datatype t = A of 'j | B of 'e177372539170284150"}, {exn(api.Con{Name: "E"}), "exception E"}, {exn(has("E", tc("*", tc("int"), tc("bool")))), "exception E of int * bool"}, {exn(has("E", tv(3))), "exception E of 'd"},
	} {
		same(t, show.Program([]api.Dec{r.d}), r.want+"\n")
		same(t, show.Program([]api.Dec{r.d, val(wild(), x), r.d}), r.want+"\nval _ = x\n"+r.want+"\n")
		if r.d.Kind == api.DcVal || r.d.Kind == api.DcFun {
			same(t, show.Expr(let(x, r.d, r.d)), "let "+r.want+" "+r.want+" in x end")
		}
	}
	same(t, show.Program(nil), "")
	same(t, show.Program([]api.Dec{}), "")
}

// call is one of the calls, with what reads its texts back; told is the same for the same trees.
type call struct {
	show string                                   // the text of a tree
	back func(s string) (told string, right bool) // what a text reads as
}

func told(p []api.Dec) string { return tell(reflect.ValueOf(tree.Bare(p))) }

func expCall(e api.Exp) call {
	return call{show.Expr(e), func(s string) (string, bool) {
		e, bad := read.Expr(s)
		return told([]api.Dec{val(wild(), e)}), bad == (api.Bad{})
	}}
}

func patCall(x api.Pat) call {
	return call{show.Pattern(x), func(s string) (string, bool) {
		x, bad := read.Pattern(s)
		return told([]api.Dec{val(x, num(1))}), bad == (api.Bad{})
	}}
}

func tyCall(x api.Ty) call {
	return call{show.Type(x), func(s string) (string, bool) {
		x, bad := read.Type(s)
		return tell(reflect.ValueOf(x)), bad == (api.Bad{})
	}}
}

func programCall(p []api.Dec) call {
	return call{show.Program(p), func(s string) (string, bool) {
		p, bad := read.Program(s)
		return told(p), bad == (api.Bad{})
	}}
}

// tell: a value as a text; empty and nil slices are the same.
func tell(v reflect.Value) string {
	s := ""
	switch v.Kind() {
	case reflect.Struct:
		for i := range v.NumField() {
			if part := v.Field(i); !part.IsZero() && !(part.Kind() == reflect.Slice && part.Len() == 0) {
				s += strconv.Itoa(i) + tell(part)
			}
		}
		return "{" + s + "}"
	case reflect.Slice:
		for i := range v.Len() {
			s += tell(v.Index(i))
		}
		return "[" + s + "]"
	case reflect.String:
		return strconv.Quote(v.String())
	case reflect.Bool:
		return strconv.FormatBool(v.Bool())
	}
	return strconv.Itoa(int(v.Int())) + ";"
}

// renumbered: a type with its variables numbered as they come.
func renumbered(t api.Ty, numbers map[int]int) api.Ty {
	if t.Kind == api.TyVar {
		if _, known := numbers[t.N]; !known {
			numbers[t.N] = len(numbers)
		}
		t.N = numbers[t.N]
	}
	var args []api.Ty
	for _, arg := range t.Args {
		args = append(args, renumbered(arg, numbers))
	}
	t.Args = args
	return t
}

// check holds a text against P703 (its blanks), P705 and P706.
func check(t *testing.T, c call, want string) {
	t.Helper()
	got, right := c.back(c.show)
	if !right || got != want || c.show == "" && want != "[]" {
		t.Fatalf("%q is read as\n%s, %v\nand not\n%s", c.show, got, right, want)
	}
	for _, line := range strings.SplitAfter(c.show, "\n") {
		l, _ := lex.Scan(line)
		if s := blanks(lex.Show(l)); strings.TrimSuffix(line, "\n") != s {
			t.Fatalf("%q has other blanks than %q", line, s)
		}
	}
	for _, less := range lessParentheses(c.show) {
		if got, right := c.back(less); right && got == want {
			t.Fatalf("%q has parentheses that are not needed: %q is the same", c.show, less)
		}
	}
}

// blanks: a text of tokens with a blank between any two, without the blanks that do not belong there.
func blanks(s string) string {
	return strings.NewReplacer("( ) ", "() ", "( ", "(", "~ ", "~", "! ", "!").Replace(strings.NewReplacer(" )", ")", " ,", ",", " ;", ";", "( )", "()").Replace(s))
}

// lessParentheses: the text without each pair of parentheses that stands around one thing.
func lessParentheses(s string) []string {
	type pair struct {
		from int
		list bool
	}
	var open []pair
	var less []string
	all, _ := lex.Scan(s)
	for i, tok := range all {
		switch tok.Text {
		case "(":
			open = append(open, pair{from: tok.At})
		case ",", ";":
			open[len(open)-1].list = true
		case ")":
			last := open[len(open)-1]
			open = open[:len(open)-1]
			if !last.list && all[i-1].Text != "(" {
				less = append(less, s[:last.from]+" "+s[last.from+1:tok.At]+" "+s[tok.At+1:])
			}
		}
	}
	return less
}

func TestP705P706ExpressionsInExpressions(t *testing.T) {
	for _, e := range append(nested(expForms(), 1), append(nested(expForms(), 2), nested(expForms(), 3)...)...) {
		check(t, expCall(e), told([]api.Dec{val(wild(), e)}))
	}
}

func TestP705P706Patterns(t *testing.T) {
	for _, x := range append(nested(patForms(), 1), append(nested(patForms(), 2), nested(patForms(), 4)...)...) {
		check(t, patCall(x), told([]api.Dec{val(x, num(1))}))
		f := []api.Dec{fun(api.Fun{Name: "f", Case: of(x, num(1))})}
		check(t, programCall(f), told(f))
		e := cased(api.ExFn, nil, of(x, num(1)), of(x, num(2)))
		check(t, expCall(e), told([]api.Dec{val(wild(), e)}))
	}
}

func TestP705P706Types(t *testing.T) {
	for _, x := range append(nested(tyForms(), 1), append(nested(tyForms(), 2), nested(tyForms(), 4)...)...) {
		check(t, tyCall(x), tell(reflect.ValueOf(renumbered(x, map[int]int{}))))
		p := []api.Dec{data("t", 3, api.Con{Name: "A", Has: true, Arg: x})}
		check(t, programCall(p), told(p))
	}
	for n := range 1001 {
		check(t, tyCall(tc("->", tv(n), tc("->", tv(1000-n), tv(n)))), tell(reflect.ValueOf(renumbered(tc("->", tv(n), tc("->", tv(1000-n), tv(n))), map[int]int{}))))
	}
}

func TestP705P706MixedTrees(t *testing.T) {
	r := &row{5}
	for range 1500 {
		p := mixedProgram(r)
		check(t, programCall(p), told(p))
		e := mixed(r, expForms(), 5)
		check(t, expCall(e), told([]api.Dec{val(wild(), e)}))
		x := mixed(r, tyForms(), 5)
		if show.Type(x) != "" {
			check(t, tyCall(x), tell(reflect.ValueOf(renumbered(x, map[int]int{}))))
		}
	}
}

func TestP701CallsArePure(t *testing.T) {
	r := &row{9}
	var again []func() bool
	for range 200 {
		p, e, x, ty := mixedProgram(r), mixed(r, expForms(), 4), mixed(r, patForms(), 4), mixed(r, tyForms(), 4)
		before := tell(reflect.ValueOf(p)) + tell(reflect.ValueOf(e)) + tell(reflect.ValueOf(x)) + tell(reflect.ValueOf(ty))
		texts := []string{show.Program(p), show.Expr(e), show.Pattern(x), show.Type(ty)}
		again = append(again, func() bool {
			return tell(reflect.ValueOf(p))+tell(reflect.ValueOf(e))+tell(reflect.ValueOf(x))+tell(reflect.ValueOf(ty)) == before && texts[0] == show.Program(p) && texts[1] == show.Expr(e) && texts[2] == show.Pattern(x) && texts[3] == show.Type(ty)
		})
	}
	for i := range again {
		if !again[len(again)-1-i]() {
			t.Fatal("a call changed its argument or the result of a later one")
		}
	}
}

func TestP701NoCallPanics(t *testing.T) {
	deepTy, deepExp, deepPat := tv(0), num(1), wild()
	for range 60000 {
		deepTy, deepExp, deepPat = tc("ref", deepTy), node(api.ExGet, deepExp), as("x", deepPat)
	}
	same(t, show.Type(deepTy)+show.Expr(deepExp)+show.Pattern(deepPat), "")
	same(t, show.Program([]api.Dec{val(deepPat, deepExp)}), "")
	same(t, show.Type(tc("t", make([]api.Ty, 1<<20)...))+show.Expr(node(api.ExTuple, make([]api.Exp, 1<<20)...)), "")
	same(t, show.Type(api.Ty{})+show.Expr(api.Exp{})+show.Pattern(api.Pat{}), "")
	l := strings.Repeat("x", 1<<20)
	same(t, show.Type(tc(l))+show.Expr(name(l))+show.Pattern(pvar(l)), "")
}

func TestP704ManyConstructors(t *testing.T) {
	c, cons := api.Con{Name: strings.Repeat("A", api.MaxName)}, []api.Con(nil)
	for range api.MaxCons {
		cons = append(cons, c)
	}
	p := make([]api.Dec, api.MaxSize)
	for i := range p {
		p[i] = data("t", 0, cons...)
	}
	line := "datatype t = " + strings.Repeat(c.Name+" | ", api.MaxCons-1) + c.Name + "\n"
	same(t, show.Program(p), strings.Repeat(line, api.MaxSize))
	same(t, show.Program(append(p, p[0])), "")
}
