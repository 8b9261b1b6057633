package infer_test

import (
	"reflect"
	"regexp"
	"slices"
	"strconv"
	"strings"
	"testing"

	"camlet/api"
	"camlet/infer"
	"camlet/scheme"
	"camlet/scope"
	"camlet/show"
	"camlet/tree"
	"camlet/ty"
)

// isBad: Program gives an error for a program, and no names, also if it has no places, and if other errors stand behind it.
func isBad(t *testing.T, p []api.Dec, want api.Bad) {
	t.Helper()
	if l, bad := infer.Program(p); bad != want || len(l) > 0 {
		t.Errorf("Program of %.600s gives %v and %s and not %v", show.Program(p), bad, told(l), want)
	}
	bare := api.Bad{Kind: want.Kind, Name: want.Name}
	if l, bad := infer.Program(tree.Bare(p)); bad != bare || len(l) > 0 {
		t.Errorf("Program of %.600s without places gives %v and %s and not %v", show.Program(p), bad, told(l), bare)
	}
	if want.Kind == api.ErrType || want.Kind == api.ErrLoop {
		p = slices.Concat(p, program(t, "val z = 1 2 fun z x = x x"))
		if l, bad := infer.Program(p); bad != want || len(l) > 0 {
			t.Errorf("Program of %.600s gives %v and %s and not %v", show.Program(p), bad, told(l), want)
		}
	}
}

// areBad: Program gives for each of some texts an error of a kind at its mark ^.
func areBad(t *testing.T, kind api.Errno, texts ...string) {
	t.Helper()
	for _, text := range texts {
		before, after, _ := strings.Cut(text, "^")
		isBad(t, program(t, front+before+after), api.Bad{Kind: kind, At: len(front + before)})
	}
}

// has: Program gives names with their schemes for a text.
func has(t *testing.T, text, want string) {
	t.Helper()
	l, bad := infer.Program(program(t, front+text))
	if got := told(l); got != want || bad != (api.Bad{}) {
		t.Errorf("Program of %.300q gives %v,\n%s\nand not\n%s", text, bad, got, want)
	}
}

// asModelled: Program returns for a program what the model says.
func asModelled(t *testing.T, p []api.Dec) api.Bad {
	t.Helper()
	l, bad := infer.Program(p)
	want, _, wrong := modelled(p)
	if text := told(l); text != want || bad != wrong {
		t.Fatalf("Program of\n%.3000s\ngives %v,\n%s\nand not %v,\n%s", show.Program(p), bad, text, wrong, want)
	}
	return bad
}

// areOf: expressions behind declarations have a scheme, as values of a name, as its result and by Expr.
func areOf(t *testing.T, want string, texts ...string) {
	t.Helper()
	for _, text := range texts {
		s, bad := infer.Expr(program(t, front), expr(t, text))
		if got := scheme.Show(s); got != want || bad != (api.Bad{}) {
			t.Errorf("Expr of %q gives %v, %s and not %s", text, bad, got, want)
		}
		has(t, "val x = "+text, "x: "+want)
	}
}

func TestP1301NoNames(t *testing.T) {
	for _, p := range [][]api.Dec{nil, {}, program(t, front), program(t, "val _ = 1"), program(t, "val 1 = 1 val (true, Div) = (false, Eof)")} {
		if l, bad := infer.Program(p); len(l) > 0 || bad != (api.Bad{}) {
			t.Errorf("Program of %q gives %v, %s", show.Program(p), bad, told(l))
		}
	}
}

func TestP1301Pure(t *testing.T) {
	for i := range 200 {
		m := newMaker(i, []int{0, 40}[i%2])
		p := roomy(m.program(1+m.below(3), 3))
		e := roomy(m.exp(m.ty(2), 3))
		p = p[:len(p)-1]
		before, beforeExp := whole(p), whole(e)
		l, bad := infer.Program(p)
		s, badExp := infer.Expr(p, e)
		infer.Value(e)
		if !reflect.DeepEqual(whole(p), before) || !reflect.DeepEqual(whole(e), beforeExp) {
			t.Fatalf("a call changes\n%s", show.Program(p))
		}
		text, textExp := told(l), scheme.Show(s)
		if bad.Kind != api.OK && text != "" || (badExp.Kind != api.OK) != (textExp == "") {
			t.Fatalf("%v beside %s and %v beside %s", bad, text, badExp, textExp)
		}
		// what is done with the arguments and with a result is nothing to other results
		again, _ := infer.Program(p)
		for _, n := range again {
			spoilTy(n.Scheme.Ty)
		}
		clear(again[:cap(again)])
		for _, e := range gather[api.Exp](&p) {
			*e = api.Exp{}
		}
		if told(l) != text || scheme.Show(s) != textExp {
			t.Fatalf("results share memory: %s is now %s", text, told(l))
		}
		for j, n := range l {
			rest := told(l[j+1:])
			spoilTy(n.Scheme.Ty)
			if told(l[j+1:]) != rest {
				t.Fatalf("the schemes of %s share memory", text)
			}
		}
	}
}

// spoilTy overwrites all memory of the Args of a type.
func spoilTy(t api.Ty) {
	for _, arg := range t.Args {
		spoilTy(arg)
	}
	clear(t.Args[:cap(t.Args)])
}

func TestP1302Value(t *testing.T) {
	for text, want := range map[string]bool{
		"1": true, "~5": true, "x": true, "fn x => x": true, "fn x => f x": true, "fn 1 => raise Div | _ => 2": true, "()": true, "true": true, "Nil": true, "Some 1": true, "Some x": true, "Some (fn x => f x)": true, "Some (Some (Some Nil))": true,
		"(1, 2)": true, "(x, fn y => y, Nil, (1, Some (2, ())))": true, "Cons (1, Cons (x, Nil))": true,
		"f x": false, "let val x = 1 in x end": false, "if true then 1 else 2": false, "case 1 of x => x": false, "(1; 2)": false, "1 handle _ => 2": false, "raise Div": false, "1 + 2": false, "1 = 2": false, "true andalso true": false, "true orelse true": false,
		"ref 1": false, "!x": false, "x := 1": false, "print 1": false, "read ()": false,
		"Some (f x)": false, "Some (ref 1)": false, "(1, ref 1)": false, "(ref 1, 1)": false, "(1, (2, f x, 3), 4)": false, "(fn x => x, Some (1, !x))": false, "Cons (1, Cons (f x, Nil))": false,
	} {
		if got := infer.Value(expr(t, text)); got != want {
			t.Errorf("Value of %q is %v", text, got)
		}
	}
}

// TestP1302AnyExpression: Value looks at the kinds of expressions only, whether they are right or not.
func TestP1302AnyExpression(t *testing.T) {
	one, no := api.Exp{Kind: api.ExInt}, api.Exp{Kind: api.ExRead}
	for kind := api.ExpKind(-1); kind < 25; kind++ {
		isLeaf := kind == api.ExInt || kind == api.ExVar || kind == api.ExFn
		isMany := kind == api.ExCon || kind == api.ExTuple
		for _, kids := range [][]api.Exp{nil, {}, {one}, {one, one}, {one, {Kind: api.ExTuple}, {Kind: api.ExCon, Kids: []api.Exp{one, one, one}}}} {
			e := api.Exp{Kind: kind, At: -1, Name: "?", N: -1, Kids: kids, Decs: make([]api.Dec, 1), Cases: make([]api.Case, 1)}
			if got := infer.Value(e); got != (isLeaf || isMany) {
				t.Errorf("Value of kind %d and %d Kids is %v", kind, len(kids), got)
			}
		}
		for _, kids := range [][]api.Exp{{no}, {no, one}, {one, no}, {one, {Kind: api.ExTuple, Kids: []api.Exp{one, no}}}, {{}}, {{Kind: 21}}, {{Kind: -1}, one}} {
			if got := infer.Value(api.Exp{Kind: kind, Kids: kids}); got != isLeaf {
				t.Errorf("Value of kind %d and a Kid that is no value is %v", kind, got)
			}
		}
	}
	for _, e := range []api.Exp{one, no} {
		want := e.Kind == api.ExInt
		for range 1 << 15 {
			e = api.Exp{Kind: api.ExTuple, Kids: []api.Exp{one, {Kind: api.ExCon, Kids: []api.Exp{e}}}}
		}
		if infer.Value(e) != want {
			t.Error("Value of a deep expression is not", want)
		}
	}
}

// TestP1303Expressions: the type of each kind of expression.
func TestP1303Expressions(t *testing.T) {
	areOf(t, "int", "1", "~1", "read ()", "1 + 2", "1 - 2", "1 * 2", "1 div 2", "1 mod 2", "(true; (); 1)", "(raise Div) + 1", "!(ref 1)", "(fn x => 1) true", "case true of true => 1 | _ => 2", "if true then 1 else 2", "let val x = 1 in x end", "let fun f x = x in f 1 end", "1 handle Div => 2", "(raise Div) handle Code n => n | _ => 3")
	areOf(t, "bool", "true", "false", "1 = 2", "1 <> 2", "1 < 2", "1 <= 2", "true andalso false", "true orelse 1 < 2", "(raise Div) andalso true", "if raise Div then true else raise Div", "case 1 of 1 => true | _ => raise Div")
	areOf(t, "unit", "()", "print 1", "ref 1 := 2", "ref () := ()", "raise Div", "(fn x => x) ()", "(1; print 2)", "let val _ = 1 in () end", "raise raise raise Div", "!(raise Div)", "(fn _ => raise Div) 1", "let fun f x = f x in f 1 end")
	areOf(t, "exn", "Div", "Eof", "Match", "Fail", "Code 1", "Code (raise Code 2)", "(raise Div) handle e => e", "if true then Div else Code 1")
	areOf(t, "int * bool * unit", "(1, true, ())", "((1, true, ()) handle _ => raise Eof)", "(fn x => (1, true, x)) ()", "let val (a, b) = ((), 1) in (b, true, a) end")
	areOf(t, "int ref", "ref 1", "ref (read ())", "!(ref (ref 1))")
	areOf(t, "unit ref", "ref (raise Div)", "let val r = ref (raise Div) in r end", "if true then ref () else raise Div")
	areOf(t, "int list", "Cons (1, Nil)", "(fn x => Cons (x, Nil)) 1", "case Nil of Cons (x, _) => Cons (x + 1, Nil) | y => y")
	areOf(t, "'a list", "Nil")
	areOf(t, "('a -> 'a) list", "Cons (fn x => x, Nil)", "Cons (fn x => x, Cons (fn x => x, Nil))")
	areOf(t, "('a, int) sum", "Right 1")
	areOf(t, "(unit, int) sum", "(fn x => Right x) 1", "(Right 1; Right 2)")
	areOf(t, "'a -> 'a", "fn x => x", "fn (x as _) => x", "fn x => let val y = x in y end", "fn x => (1; x)", "fn x => x handle _ => x", "fn x => if true then x else x", "fn x => case x of y => y", "fn x => !(ref x)", "fn x => (raise Div) handle Div => x", "fn x => let fun f y = x in f 1 end", "fn x => (fn y => y) x")
	areOf(t, "'a -> 'b", "fn _ => raise Div", "fn x => raise Fail", "fn x => let fun f y = f y in f x end")
	areOf(t, "exn -> 'a", "fn x => raise x", "fn Div => raise Div | x => raise x", "fn e => (raise e) handle e => raise e")
	areOf(t, "'a -> exn -> 'a", "fn x => fn e => (raise e) handle Fail => x | _ => raise e")
	areOf(t, "int -> int", "fn x => x + 1", "fn 1 => 2 | x => x", "fn x => (print x; x)", "fn x => if x = 1 then x else x", "fn x => let val y = ref x in (y := 1; !y) end", "fn x => case x of 1 => 1 | y => y")
	areOf(t, "bool -> bool", "fn x => x andalso x", "fn x => true orelse x", "fn true => false | x => x", "fn x => if x then x else x")
	areOf(t, "unit -> 'a -> 'a", "fn () => fn x => x", "fn () => let fun f x = x in f end")
	areOf(t, "'a ref -> 'a", "fn x => !x", "fn x => let val r = x in !r end")
	areOf(t, "'a ref -> 'a -> unit", "fn r => fn x => r := x")
	areOf(t, "int ref -> int -> unit", "fn r => fn x => r := !r + x")
	areOf(t, "'a -> 'a ref", "fn x => ref x", "fn x => let val r = ref x in r end")
	areOf(t, "'a -> 'b -> 'a", "fn x => fn y => x", "fn x => fn _ => let val y = x in y end")
	areOf(t, "('a -> 'b) -> 'a -> 'b", "fn f => fn x => f x", "fn f => let fun g y = f y in g end")
	areOf(t, "('a -> 'b) -> ('c -> 'a) -> 'c -> 'b", "fn f => fn g => fn x => f (g x)")
	areOf(t, "('a -> 'b -> 'c) -> ('a -> 'b) -> 'a -> 'c", "fn x => fn y => fn z => x z (y z)")
	areOf(t, "'a * 'b -> 'b * 'a", "fn (x, y) => (y, x)", "fn x => case x of (y, z) => (z, y)", "fn x => let val (y, z) = x in (z, y) end")
	areOf(t, "'a * 'a -> 'a list", "fn (x, y) => Cons (x, Cons (y, Nil))", "fn (x, y) => if true then Cons (x, Nil) else Cons (y, Nil)")
	areOf(t, "('a, 'b) sum -> ('b, 'a) sum", "fn Left x => Right x | Right x => Left x")
	areOf(t, "('a * 'b) list -> 'b list -> 'b list", "fn Cons ((_, x), _) => (fn Cons (y, _) => Cons (x, Nil) | z => z)")
	areOf(t, "('a -> 'b) -> 'a list -> 'b list", "fn f => let fun map l = case l of Nil => Nil | Cons (x, l) => Cons (f x, map l) in map end")
}

// TestP1303Patterns: the type of each kind of pattern, and of its variables.
func TestP1303Patterns(t *testing.T) {
	for pat, want := range map[string]string{
		"_": "'a -> unit", "1": "int -> unit", "~1": "int -> unit", "true": "bool -> unit", "false": "bool -> unit", "()": "unit -> unit", "Div": "exn -> unit", "Code 1": "exn -> unit", "Code _": "exn -> unit",
		"Nil": "'a list -> unit", "Cons (_, _)": "'a list -> unit", "Cons (1, _)": "int list -> unit", "Cons _": "'a list -> unit", "Left _": "('a, 'b) sum -> unit", "Right (1, ())": "('a, int * unit) sum -> unit",
		"(_, _)": "'a * 'b -> unit", "(1, (_, true), _, ())": "int * ('a * bool) * 'b * unit -> unit", "(_, _, _, _, _, _, _, _)": "'a * 'b * 'c * 'd * 'e * 'f * 'g * 'h -> unit",
		"x": "'a -> 'a", "x as _": "'a -> 'a", "x as 1": "int -> int", "x as Cons (_, _)": "'a list -> 'a list", "(x, 1)": "'a * int -> 'a", "(1, x)": "int * 'a -> 'a", "Cons (x, _)": "'a list -> 'a", "Cons (_, x)": "'a list -> 'a list", "Code x": "exn -> int",
		"Left x": "('a, 'b) sum -> 'a", "Right (x as (1, _))": "('a, int * 'b) sum -> int * 'b", "x as (Nil, y)": "'a list * 'b -> 'a list * 'b", "(y, (x as (Left z)))": "'a * ('b, 'c) sum -> ('b, 'c) sum", "Cons (x as (1, y), Cons (z, Nil))": "(int * 'a) list -> int * 'a",
	} {
		result := "()"
		if strings.Contains(pat, "x") {
			result = "x"
		}
		areOf(t, want, "fn "+pat+" => "+result, "fn z => case z of "+pat+" => "+result, "fn z => let val "+pat+" = z in "+result+" end", "fn z => let fun f ("+pat+") = "+result+" in f z end")
	}
}

func TestP1303Declarations(t *testing.T) {
	has(t, "val x = 1", "x: int")
	has(t, "val (a, (b as c, _)) = (1, (true, 2)) val d = c", "a: int; b: bool; c: bool; d: bool")
	has(t, "val x as (y as Cons (z, _), w) = (Cons (1, Nil), fn x => x) val u = (w 1, w w)", "x: int list * ('a -> 'a); y: int list; z: int; w: 'a -> 'a; u: int * (unit -> unit)")
	has(t, "val x = 1 val x = true val x = (x, x)", "x: int; x: bool; x: bool * bool")
	has(t, "fun f x = f x val f = f 1 fun f f = f", "f: 'a -> 'b; f: unit; f: 'a -> 'a")
	has(t, "fun f x = g x and g x = h (x + 1) and h x = if x = 0 then true else f x", "f: int -> bool; g: int -> bool; h: int -> bool")
	has(t, "fun f (x, 1) = fn Nil => x | Cons (y, _) => y and g () = f", "f: 'a * int -> 'a list -> 'a; g: unit -> 'a * int -> 'a list -> 'a")
	has(t, "fun len l = case l of Nil => 0 | Cons (_, t) => 1 + len t val n = len (Cons (1, Nil)) + len (Cons (true, Nil))", "len: 'a list -> int; n: int")
	has(t, "exception Other of int list val x = Other (Cons (1, Nil)) fun f (Other l) = l", "x: exn; f: exn -> int list")
	has(t, "datatype ('a, 'b) t = A of 'b * 'a | B of ('b, 'a) t ref | C val x = A (1, true) val y = fn A (u, _) => u | B r => (case !r of A (_, v) => v) val z = C val w = B (ref x)", "x: (bool, int) t; y: ('a, 'b) t -> 'b; z: ('a, 'b) t; w: (int, bool) t")
	has(t, "datatype 'a phantom = P of int val x = P 1 val y = (P 1; P 2) fun f (P n) = P (n + 1)", "x: 'a phantom; y: unit phantom; f: 'a phantom -> 'b phantom")
	has(t, "datatype 'a fix = Fix of 'a fix -> 'a val f = fn x => case x of Fix g => g x", "f: 'a fix -> 'a")
}

// TestP1303Quantified: which variables a declaration quantifies.
func TestP1303Quantified(t *testing.T) {
	// those of values
	has(t, "val f = fn x => x val g = (f 1, f true, f f)", "f: 'a -> 'a; g: int * bool * (unit -> unit)")
	for _, x := range []string{"let val y = 1 in fn x => x end", "(fn y => y) (fn x => x)", "if true then fn x => x else fn x => x", "case 1 of _ => fn x => x", "(1; fn x => x)", "(fn x => x) handle _ => fn x => x", "!(ref (fn x => x))"} {
		has(t, "val f = "+x, "f: unit -> unit")
		has(t, "val f = "+x+" val g = f 1", "f: int -> int; g: int")
		has(t, "val f = "+x+" val g = fn y => f y val h = (f, g)", "f: unit -> unit; g: unit -> unit; h: (unit -> unit) * (unit -> unit)")
		areBad(t, api.ErrType, "val f = "+x+" val g = (f 1, f ^true)")
		areBad(t, api.ErrLoop, "val f = "+x+" val g = f ^f")
	}
	// each name on its own, by its own type
	has(t, "val (f, g) = (fn x => x, fn (x, y) => x) val (h, i) = (f, f 1)", "f: 'a -> 'a; g: 'a * 'b -> 'a; h: unit -> unit; i: int")
	has(t, "val (f, n) = (fn x => x, ref 1)", "f: unit -> unit; n: int ref")
	has(t, "val Cons (f, l) = Cons (fn x => x, Nil) val x = (f 1, f true)", "f: 'a -> 'a; l: ('a -> 'a) list; x: int * bool")
	has(t, "val f as g = fn x => x val x = (f 1, f true, g 1, g ())", "f: 'a -> 'a; g: 'a -> 'a; x: int * bool * int * unit")
	// functions are values, but not inside their group
	has(t, "fun f x = x and g x = f 1", "f: int -> int; g: 'a -> int")
	has(t, "fun f x = x fun g x = (f 1, f true)", "f: 'a -> 'a; g: 'a -> int * bool")
	areBad(t, api.ErrType, "fun f x = x and g y = (f 1, f ^true)", "fun f x = f 1 + 1 fun g x = let val y = g 1 in g ^true end")
	// not those that are free in a type that is visible
	has(t, "fun f x = let val g = fn y => (x, y) in (g 1, g true) end", "f: 'a -> ('a * int) * ('a * bool)")
	has(t, "val f = fn x => let val g = x in (g 1, g) end", "f: (int -> 'a) -> 'a * (int -> 'a)")
	areBad(t, api.ErrType, "val f = fn x => let val g = x in (g 1, g ^true) end", "val f = fn x => let fun g y = x y in (g 1, g ^true) end", "val f = fn x => let val x = x in (x 1, x ^true) end", "val f = fn (x, y) => let val z = (x, y) val x = 1 in case z of (u, _) => (u 1, u ^true) end",
		"fun f x = let val g = fn y => f y in (g 1, g ^true) end", "val f = fn x => let val g = fn () => x val x = 1 in (g () 1, g () ^true) end", "val r = ref (fn x => x) val s = r val r = 1 val t = (!s 1, !s ^true)",
		"fun f x = let fun x y = f y in (x 1, x ^true) end", "val f = fn x => let val g = fn y => if true then x else y in (g 1, g ^true) end", "val f = fn x => let val g = fn y => (x := y; y) in (g 1, g ^true) end",
		"val f = fn x => let val g = fn y => (case 1 of 1 => x | _ => fn z => y) in (g 1, g ^true) end", "val f = fn x => let val g = fn y => (fn 1 => x | _ => (y, y)) 1 in (g 1, g ^true) end", "val f = fn x => let val g = fn y => let val h = (case 1 of 1 => x | _ => Cons (y, Nil)) in y end in (g 1, g ^true) end")
	has(t, "val f = fn x => fn y => let val g = fn z => (if true then x else y; z) in (g 1, g true, x) end", "f: 'a -> 'a -> int * bool * 'a")
	has(t, "val f = fn x => let val h = fn y => let val z = y in (x, y, z) end in (h 1, h true) end", "f: 'a -> ('a * int * int) * ('a * bool * bool)")
	// a name that is hidden counts again as soon as it is visible
	has(t, "val f = fn x => let val g = let val x = 1 in fn y => (x, y) end in g end", "f: 'a -> 'b -> int * 'b")
	// what becomes equal to a free variable is free as well, wherever it is from
	has(t, "val r = ref Nil val f = fn x => (r := Cons (x, Nil); x) val y = f 1", "r: int list ref; f: int -> int; y: int")
	has(t, "val r = ref Nil fun f x = r := x and g x = f (Cons (x, Nil))", "r: unit list ref; f: unit list -> unit; g: unit -> unit")
	areBad(t, api.ErrType, "val r = ref Nil val f = fn x => (r := Cons (x, Nil); x) val y = (f 1, f ^true)", "val r = ref Nil val f = fn x => let val g = fn y => (r := Cons (y, Nil); y) in (g x; g) end val z = (f 1 1, f ^true)")
	has(t, "val r = let val s = ref Nil in fn x => (s := Cons (x, Nil); !s) end val a = r", "r: unit -> unit list; a: unit -> unit list")
	has(t, "fun f x = let val s = ref Nil val g = fn y => (s := Cons (y, !s); !s) in g end val a = (f 1 2, f 1 true) val b = f 1", "f: 'a -> 'b -> 'b list; a: int list * bool list; b: unit -> unit list")
	// unit takes the place of variables at the end only
	has(t, "val r = ref (fn x => x)", "r: (unit -> unit) ref")
	has(t, "val r = ref (fn x => x) val u = r := (fn x => x + 1)", "r: (int -> int) ref; u: unit")
	has(t, "val r = ref Nil val s = ref Nil val _ = if true then r else s val _ = s := Cons (true, Nil)", "r: bool list ref; s: bool list ref")
	has(t, "val (f, r) = (fn x => x, ref Nil) val _ = f 1 val _ = r := Cons ((), Nil)", "f: int -> int; r: unit list ref")
	has(t, "val x = raise Div val y = (x, fn z => x) val _ = x + 1", "x: int; y: int * ('a -> int)")
}

// TestP1303Places: each rule gives its error at its node, and what is there before it is looked at before it.
func TestP1303Places(t *testing.T) {
	for op, arg := range map[string]string{"+": "1", "-": "1", "*": "1", "div": "1", "mod": "1", "=": "1", "<>": "1", "<": "1", "<=": "1", "andalso": "true", "orelse": "true"} {
		for _, wrong := range []string{"^()", "^ref 1", "(^fn x => x)", "^(1, 2)", "^Nil", "^Div"} {
			areBad(t, api.ErrType, "val x = "+wrong+" "+op+" "+arg, "val x = "+arg+" "+op+" "+wrong, "val x = "+wrong+" "+op+" "+strings.Replace(wrong, "^", "", 1))
		}
	}
	areBad(t, api.ErrType, "val x = 1 + ^true", "val x = ^true + 1", "val x = true andalso ^1", "val x = 1 = ^true", "val x = ^Nil = Nil", "val x = 1 + (^1 = 2)")
	// constructors
	areBad(t, api.ErrType, "val x = Cons ^1", "val x = Cons ^(1, 2)", "val x = Cons ^(1, Cons (true, Nil))", "val x = Code ^true", "val x = Cons (^1 2)", "val x = Cons ^(1, 2, Nil)")
	// calls
	areBad(t, api.ErrType, "val x = ^1 2", "val x = ^1 (2 3)", "val x = (fn y => y + 1) ^true", "val x = (fn y => y + 1) (^1 2)", "val x = ^(1, 2) 3", "val x = (^Nil) 3", "val x = ^1 2 3", "val f = fn x => x + 1 val y = ^f 1 2")
	areBad(t, api.ErrLoop, "val f = fn x => x ^x", "fun f x = x ^x", "fun f x = ^f", "fun f x = ^fn y => f", "fun f x = g and g x = ^f", "val f = fn x => fn y => (x y; y ^x)")
	// if, case, handle, raise
	areBad(t, api.ErrType, "val x = if ^1 then 2 3 else 4 5", "val x = if (true; ^1 2) then 2 else 3", "val x = if true then 1 else ^true", "val x = if true then ^1 2 else 3 4", "val x = if true then 1 else ^2 3")
	areBad(t, api.ErrLoop, "val f = fn x => if true then x else ^fn y => x", "val f = fn x => if true then fn y => x else ^x")
	areBad(t, api.ErrType, "val x = case ^1 2 of true => 1 2", "val x = case 1 of ^true => 1 2", "val x = case 1 of 1 => 2 | ^true => 3", "val x = case 1 of 1 => 2 | _ => ^true", "val x = case 1 of 1 => ^1 2 | true => 3", "val x = case 1 of 1 => true | _ => ^2 | true => 3", "val x = case (1, 2) of ^(x, y, z) => 1", "val x = case (1, 2) of ^(x, true) => 1", "val x = case Nil of ^Left y => 1", "val x = case 1 of _ => 2 | y => ^fn z => 1")
	areBad(t, api.ErrType, "val f = fn 1 => 2 | ^true => 3", "val f = fn 1 => 2 | _ => ^true", "val f = fn (x, y) => 1 | ^(x, y, z) => 2", "val f = fn x => x + 1 | ^() => 3", "val f = fn 1 => ^1 2 | true => 3")
	areBad(t, api.ErrLoop, "val f = fn x => x | y => ^fn z => y", "val f = fn (x, y) => if true then x else y | (x, y) => ^(x, x)")
	areBad(t, api.ErrType, "val x = 1 handle ^1 => 2", "val x = 1 handle Div => ^true", "val x = ^1 2 handle 1 => 2", "val x = 1 handle Div => 1 | ^true => true", "val x = 1 handle Div => ^1 2 | true => 3", "val x = 1 handle e => ^e", "val x = 1 handle ^(x, y) => 1", "val x = 1 handle ^Nil => 1", "val x = () handle Code n => ^n")
	areBad(t, api.ErrType, "val x = raise ^1", "val x = raise (^fn x => x)", "val x = raise (^1 2)", "val x = raise ^Nil", "val f = fn x => (x + 1; raise ^x)")
	// tuples and sequences
	areBad(t, api.ErrType, "val x = (1, ^2 3, 4 5)", "val x = (^1 2, 3 4)", "val x = (1; ^2 3; 4 5)", "val x = (true; 1; ^2 3)", "val x = (1, (2; true)) handle _ => ^(1, 2)")
	// references, print
	areBad(t, api.ErrType, "val x = ref (^1 2)", "val x = !^1", "val x = !(^1 2)", "val x = !(^fn x => x)", "val x = (^1 := 2 3)", "val x = (ref 1 := ^true)", "val x = (^1 2 := 3 4)", "val x = (ref 1 := (^1 2))", "val f = fn x => (x := 1; x := ^true)", "val x = print ^true", "val x = print (^1 2)", "val x = print ^()", "val x = print (^ref 1)")
	areBad(t, api.ErrLoop, "val f = fn x => (x := ^x)", "val f = fn x => (!x := ^x)")
	// patterns
	areBad(t, api.ErrType, "val ^true = 1", "val ^(a, b) = 1", "val ^1 = true", "val Cons ^1 = Nil", "val Cons ^(1, 2) = Nil", "val Code ^true = Div", "val (1, Cons ^true) = 2", "val (a as Cons ^1, b) = 2", "val ^(1, Cons (1, Nil)) = (1, Cons (true, Nil))", "val ^x as (y, z) = 1", "val (^x as ()) = 1")
	// declarations: the expression before the pattern
	areBad(t, api.ErrType, "val Cons 1 = ^1 2", "val 1 = (true; ^1 2)", "val x = let val ^1 = true in 1 2 end", "val x = let val 1 = ^2 3 val true = 1 in 1 2 end", "val x = let val y = 1 in ^y 1 end", "val x = let fun f y = ^1 2 in 1 2 end")
	areBad(t, api.ErrLoop, "fun f x = ^f", "fun f x = x ^f", "fun f x = f ^f", "fun f x = let val g = f in g ^g end")
	areBad(t, api.ErrType, "fun f x = g 1 and g ^true = 2", "fun f x = 1 + g x and g x = ^true", "fun f (Cons ^1) = 1 2", "fun f x = ^1 2 and g (Cons 1) = 1", "fun f x = f 1 + f ^true", "fun f x = g x and g y = (f 1; f ^true)", "fun f 1 = 1 and g x = f ^true", "fun f x = 1 + f x and g x = ^f 1 2")
}

// TestP1303FirstErrors: the errors of the form of a program, of its constructors, of its names and of its types, in this order.
func TestP1303FirstErrors(t *testing.T) {
	p := program(t, "val x = 1 2 val y = z val f = fn x => x x datatype t = A | A val w = 1")
	isBad(t, p, api.Bad{Kind: api.ErrTwice, At: 59, Name: "A"})
	p[4].Case[0].Exp.N = 1 << 30
	isBad(t, p, api.Bad{Kind: api.ErrRange, At: 69})
	p[4].Case[0].Exp = api.Exp{Kind: api.ExVar, At: 69, Name: "w"}
	p[3].Cons[1].Name = "B"
	isBad(t, p, api.Bad{Kind: api.ErrVar, At: 20, Name: "z"})
	p[1].Case[0].Exp.Name = "x"
	isBad(t, p, api.Bad{Kind: api.ErrVar, At: 69, Name: "w"})
	p[4].Case[0].Exp.Name = "f"
	isBad(t, p, api.Bad{Kind: api.ErrType, At: 8})
	p[0].Case[0].Exp = api.Exp{Kind: api.ExRead}
	isBad(t, p, api.Bad{Kind: api.ErrLoop, At: 40})
	isBad(t, program(t, front+"val x = Cons 1 2"), api.Bad{Kind: api.ErrType, At: len(front) + 13})
	isBad(t, program(t, front+"val x = (Cons, 1 2)"), api.Bad{Kind: api.ErrCount, At: len(front) + 9, Name: "Cons"})
	isBad(t, program(t, "val x = (1 2, A) datatype t = A"), api.Bad{Kind: api.ErrCon, At: 14, Name: "A"})
	isBad(t, program(t, "val (a, a) = 1 2"), api.Bad{Kind: api.ErrTwice, At: 8, Name: "a"})
}

// conOf: the first constructor C in an expression of a part of a program.
func conOf(part any) *api.Exp {
	exps := gather[api.Exp](part)
	return exps[slices.IndexFunc(exps, func(e *api.Exp) bool { return e.Name == "C" })]
}

// TestP1303Invalid: what is wrong in its form gives the error of tree.Right.
func TestP1303Invalid(t *testing.T) {
	const decs, text = "datatype t = A of int | C of int val c = 1 2 ", "let val x = fn (a, 1) => (a, c, 2) fun f y = 1 in case f of A z => (c, C 3) end"
	for i, spoil := range spoilers() {
		p := program(t, decs+"val x = "+text)
		spoil(conOf(&p))
		if tree.Right(p).Kind == api.OK {
			t.Fatalf("spoiler %d makes no error", i)
		}
		isBad(t, p, tree.Right(p))
		e := expr(t, text)
		spoil(conOf(&e))
		it := api.Dec{Kind: api.DcVal, At: e.At, Case: []api.Case{{Pat: api.Pat{Kind: api.PaVar, At: e.At, Name: "it"}, Exp: e}}}
		want := tree.Right(append(program(t, decs), it))
		if s, bad := infer.Expr(program(t, decs), e); bad != want || !reflect.DeepEqual(s, api.Scheme{}) {
			t.Errorf("Expr gives %v, %v and not %v of spoiler %d", s, bad, want, i)
		}
	}
	for _, d := range []api.Dec{{}, {Kind: api.DcVal}, {Kind: api.DcFun}, {Kind: api.DcFun, Funs: []api.Fun{{}}}, {Kind: api.DcFun, Funs: []api.Fun{{Name: "f"}}}, {Kind: api.DcData, Name: "t"}, {Kind: api.DcExn}, {Kind: 99, Name: "x"}, {Kind: -1}} {
		isBad(t, []api.Dec{d}, tree.Right([]api.Dec{d}))
		if s, bad := infer.Expr([]api.Dec{d}, api.Exp{Kind: api.ExRead}); bad != tree.Right([]api.Dec{d}) || !reflect.DeepEqual(s, api.Scheme{}) {
			t.Errorf("Expr behind %v gives %v", d, bad)
		}
	}
}

// longFront is what stands before declarations of long types.
const longFront = front + "datatype 'a w = W of 'a "

// filled: a text in which sized(n) takes the place of {n}, and sized(n + over) that of <n>; types if a t follows n.
func filled(text string, over int) string {
	return regexp.MustCompile(`([{<])(\d+)(t?)[}>]`).ReplaceAllStringFunc(text, func(s string) string {
		n, _ := strconv.Atoi(strings.Trim(s, "{<t>}"))
		if s[0] == '<' {
			n += over
		}
		if strings.Contains(s, "t") {
			return sizedType(n)
		}
		return sized(n)
	})
}

// areLong: for each of some texts, Program gives ErrLong at its mark ^, and no error if what is in its <> is one less.
func areLong(t *testing.T, texts ...string) {
	t.Helper()
	for _, text := range texts {
		for over := -1; over < 1; over++ {
			before, after, _ := strings.Cut(filled(longFront+text, over), "^")
			p := program(t, before+after)
			if l, bad := infer.Program(p); over < 0 && bad != (api.Bad{}) {
				t.Errorf("Program of %q gives %v %s", text, bad, told(l))
			}
			if over == 0 {
				isBad(t, p, api.Bad{Kind: api.ErrLong, At: len(before)})
			}
			asModelled(t, p)
			if t.Failed() {
				t.Fatalf("of %q", text)
			}
		}
	}
}

// TestP1303LongExpressions: the size of the type of each expression is checked at its end.
func TestP1303LongExpressions(t *testing.T) {
	areLong(t, "val x = ^({128}, <128>)", "val x = ^ref <256>", "val x = ^fn 1 => <255>", "val f = ^fn {128} => <128>", "val f = fn x => (^fn 1 => <255>; x)", "val f = fn x => (^({128}, <128>); x)", "val x = ^W <256>", "val x = ^W (W <255>)", "val x = (^W <256>; 1)", "val x = Cons ^(<254>, Nil)",
		"val x = if true then 1 else (^({128}, <128>); 1)", "val x = case ^({128}, <128>) of _ => 1", "val x = (^({128}, <128>); 1)", "val x = !(^ref <256>)", "val f = fn r => (r := 1; ^({128}, <128>); 1)", "val x = raise (^({128}, <128>); Div)", "val x = print (^({128}, <128>); 1)",
		"val x = (1; ^({128}, <128>)) handle _ => raise Div", "val x = let val y = {128} in ^(y, <128>) end", "val y = {128} val x = ^(<128>, y)", "val x = (^fn (x, {127}) => <127>; 1)", "val x = (^(1, fn x => x, <251>, ()); 1)")
	// of two parts that are fine, what they make together
	areLong(t, "val x = ^if true then ({128}, raise Div) else (raise Div, <128>)", "val x = (^if true then (raise Div, {128}) else (<128>, raise Div); 1)", "val x = if true then 1 else (^if true then (raise Div, {128}) else (<128>, raise Div); 2)")
	areLong(t, "val x = ^({128}, raise Div) handle _ => (raise Div, <128>)", "val x = (1; ^({128}, raise Div) handle Div => (raise Div, <128>); 2)")
	// of a variable, unification
	areLong(t, "val x = case 1 of 1 => ({128}, raise Div) | _ => ^(raise Div, <128>)", "val x = (ref ({128}, raise Div) := ^(raise Div, <128>))", "val f = fn x => (x, x) val x = f ^({63}, <64>)", "val x = case (raise Div) of ({128}, _) => 1 | ^(_, <128>) => 2", "val x = case ({128}, raise Div) of y => (case y of ^(_, <128>) => 1)",
		"val x = ({128}, raise Div) val y = if true then x else ^(raise Div, <128>)", "val r = ref (raise Div) val _ = r := ({128}, raise Div) val _ = r := ^(raise Div, <127>)", "val y = raise Div val z = y val _ = if true then y else ({128}, raise Div) val _ = (if true then z else ^(raise Div, <128>); 1)",
		"val f = fn x => (x, x, x) val x = f ^(1, <84>)", "val x = Cons (raise Div, Nil) val _ = case x of Cons (({100}, _), _) => 1 val _ = case x of ^Cons ((_, <155>), _) => 1")
	// of a type that is long at a time at which no variable and no node has it, nothing
	has(t, filled("val x = Cons ({253}, Nil) val y = let val p as (_, {200}) = ({200}, raise Div) in 1 end val z = case ({200}, raise Div) of p as (_, {200}) => 2", 0), "x: "+sizedType(253)+" list; y: int; z: int")
}

// TestP1303LongPatterns: the size of the type of each pattern is checked at its end.
func TestP1303LongPatterns(t *testing.T) {
	areLong(t, "val x = case (raise Div) of ^({128}, <128>) => 1", "val x = case (raise Div) of ^(x, <255>) => 1", "val x = case (raise Div) of (^W <256>) => 1", "val x = case (raise Div) of ^W (W <255>) => 1", "val x = case (raise Div) of y as ^({128}, <128>) => 1", "val x = case (raise Div) of y as ^W <256> => 1",
		"val x = case (raise Div) of Cons ^(<255>, _) => 1", "val ^({128}, <128>) = raise Div", "val ^W <256> = raise Div", "val x = let val ^({128}, <128>) = raise Div in 1 end", "val x = 1 handle Code 1 => 2 | _ => case (raise Div) of ^({128}, <128>) => 1")
	// the form of a pattern is looked at after the expression, and before both must be equal
	areLong(t, "val ^({128}, <128>) = raise Div val x = 1")
	isBad(t, program(t, filled("val ({128}, {128}) = 1", 0)), api.Bad{Kind: api.ErrLong, At: 4})
	isBad(t, program(t, filled("val (true, {128}, {128}) = (1 2, 3)", 0)), api.Bad{Kind: api.ErrType, At: len(filled("val (true, {128}, {128}) = (", 0))})
}

// TestP1303LongConstructors: a constructor whose own type is too long is an error wherever it is used, before its argument, and nowhere else.
func TestP1303LongConstructors(t *testing.T) {
	const front = "datatype t = A | B of <255t> exception E of <255t> datatype 'a u = C of <252t> * 'a "
	for _, text := range []string{"", "val x = A fun f A = 1", "exception F of t val x = F A"} {
		if _, bad := infer.Program(program(t, filled(front+text, 0))); bad != (api.Bad{}) {
			t.Errorf("Program of %q gives %v", text, bad)
		}
	}
	for _, text := range []string{"val x = ^B (1 2)", "val x = fn ^B true => 1 2", "val x = (1, ^B 1)", "val f = fn (^B _) => 1", "val f = fn ^B y => 1", "val x = ^E (1 2)", "val x = 1 handle ^E 1 => 1 2", "val x = fn y => ^E y", "val x = fn y => ^C (y, y) 3"} {
		before, after, _ := strings.Cut(filled(front+text, 0), "^")
		isBad(t, program(t, before+after), api.Bad{Kind: api.ErrLong, At: len(before)})
	}
	has(t, filled("datatype t = B of <255t> exception E of <255t> datatype 'a u = C of <252t> * 'a val f = fn B _ => 1 val g = E (raise Div) val x = fn (C _) => 1", -1), "f: t -> int; g: exn; x: 'a u -> int")
}

// TestP1303LongFunctions: the sizes of the types of functions are checked after all functions of their group.
func TestP1303LongFunctions(t *testing.T) {
	areLong(t, "fun ^f {128} = <128>", "fun f x = 1 and ^g {128} = <128> and h x = 1", "fun ^f x = <255>", "val x = let fun ^f {128} = <128> in 1 end", "fun ^f (W x) = (x, <252>)",
		"fun ^f x = g x and g {128} = <128>", "fun ^f {128} = <128> val g = 1")
	// a use of a function inside its group is a node of its own
	areLong(t, "fun f {128} = <128> and g x = (^f; 1)")
	text := filled("fun f {128} = {128} and g {200} = {200} and h x = ", 0)
	isBad(t, program(t, text+"1"), api.Bad{Kind: api.ErrLong, At: 4})
	isBad(t, program(t, text+"1 2"), api.Bad{Kind: api.ErrType, At: len(text)})
	isBad(t, program(t, text+"x x"), api.Bad{Kind: api.ErrLoop, At: len(text) + 2})
	isBad(t, program(t, text+"1 val y = 1 2"), api.Bad{Kind: api.ErrLong, At: 4})
	text = filled("fun e x = 1 and f {128} = {127} and ", 0)
	isBad(t, program(t, text+filled("g {128} = {128} and h {128} = {128}", 0)), api.Bad{Kind: api.ErrLong, At: len(text)})
}

// TestP1303LongNames: names whose types become too long are errors where they are used from then on, or at the end of the program.
func TestP1303LongNames(t *testing.T) {
	const long = "val p as (_, {128}) = ({128}, raise Div) "
	at := func(text string, kind api.Errno) {
		t.Helper()
		before, after, _ := strings.Cut(filled(text, 0), "^")
		isBad(t, program(t, before+after), api.Bad{Kind: kind, At: len(before)})
		asModelled(t, program(t, before+after))
	}
	at("val ^p as (_, {128}) = ({128}, raise Div)", api.ErrLong)
	at("val (x, ^p as (_, {128})) = (1, ({128}, raise Div))", api.ErrLong)
	at("val ^p as (_, {128}) = ({128}, raise Div) val q as (_, {200}) = ({128}, raise Div)", api.ErrLong)
	at("val ^p as (q as (_, {128}), 1) = (({128}, raise Div), 1)", api.ErrLong)
	at("val (1, ^q as (_, {128})) = (1, ({128}, raise Div)) val p = 1", api.ErrLong)
	at(long+"val x = ^1 2", api.ErrType)
	at(long+"val f = fn x => x ^x", api.ErrLoop)
	for _, use := range []string{"val q = ^p", "val q = (1, ^p, 1 2)", "val q = fn p => p val r = ^p", "val q = case ^p of (1, 2, 3) => 1", "val q = let val r = 1 in ^p end", "fun f p = p and g x = ^p", "val q = ^p 1"} {
		at(long+use, api.ErrLong)
	}
	// what comes later can make a type long, and so too long; until then it can be used
	b, c := sizedType(127), sizedType(128)
	has(t, filled("val p as (b, c) = (raise Div, raise Div) val q = p val _ = if true then b else {127} val _ = if true then c else {128}", 0), "p: "+b+" * "+c+"; b: "+b[1:len(b)-1]+"; c: "+c[1:len(c)-1]+"; q: "+b+" * "+c)
	at("val ^p as (b, c) = (raise Div, raise Div) val _ = if true then b else {128} val _ = if true then c else {128}", api.ErrLong)
	at("val p as (b, c) = (raise Div, raise Div) val _ = if true then b else {128} val _ = if true then c else {128} val d = (b, ^p)", api.ErrLong)
	at("val p as (b, c) = (raise Div, raise Div) val q = p val _ = if true then b else {128} val _ = if true then c else ^{128}", api.ErrLong)
	areLong(t, "val r = raise Div fun ^f x = ({126}, r) val _ = if true then r else <128>", "val r = raise Div fun f x = ({126}, r) val _ = if true then r else <128> val y = (^f; 1)", "val r = raise Div val g = fn y => 1 fun ^f x = (r, r) val _ = if true then r else (1, 1, 1, 1, <122>)",
		"val r = raise Div fun f x = (r, 1) and ^g x = (r, {100}) and h x = (r, {50}) val _ = if true then r else <154>")
	// inside of expressions only uses count
	has(t, filled("val x = let "+long+"in 1 end val y = let val p as (b, c) = (raise Div, raise Div) in (if true then b else {128}; if true then c else {200}; 2) end", 0), "x: int; y: int")
	at("val x = let "+long+"in ^p end", api.ErrLong)
}

// TestP1303MixedPrograms: programs whose types are right but for a few, and others in which parts stand in other places.
func TestP1303MixedPrograms(t *testing.T) {
	count := map[api.Errno]int{}
	open, general := 0, 0
	for i := range 2000 {
		m := newMaker(i, []int{0, 8, 20, 60, 200}[i%5])
		p := m.program(1+m.below(5), 5)
		bad := asModelled(t, p)
		if m.odd == 0 && bad.Kind != api.OK {
			t.Fatalf("Program of\n%s\ngives %v", show.Program(p), bad)
		}
		count[bad.Kind]++
		if q, ok := m.spoil(p); ok {
			p = q
			count[asModelled(t, p).Kind]++
		}
		text, isOpen, _ := modelled(p)
		if slices.Contains(isOpen, true) {
			open++
		}
		if strings.Contains(text, "'b") {
			general++
		}
	}
	if count[api.OK] < 700 || count[api.ErrType] < 700 || count[api.ErrLoop] < 5 || open < 50 || general < 50 {
		t.Error(count, open, general)
	}
}

// TestP1303LargeTypes: programs whose types grow, of which each declaration is kept if it is right.
func TestP1303LargeTypes(t *testing.T) {
	count := map[api.Errno]int{}
	for i := range 60 {
		r := &row{uint32(i)}
		text := front + "val x0 = (" + strings.Repeat("(1, 2, 3, 4), ", 7) + "1) "
		for n := 1; n < 15; n++ {
			more := text + r.growth(n)
			bad := asModelled(t, program(t, more))
			count[bad.Kind]++
			name := "x" + strconv.Itoa(n)
			switch bad.Kind {
			case api.OK:
				text = more
			case api.ErrLong:
				text += "val " + name + " = raise Fail "
			default:
				text += "val " + name + " as (y" + name + ", _) = (raise Fail, x" + strconv.Itoa(n-1) + ") "
			}
		}
	}
	if count[api.OK] < 300 || count[api.ErrType] < 100 || count[api.ErrLoop] < 10 || count[api.ErrLong] < 8 {
		t.Error(count)
	}
}

// TestP1303Limits: the largest and the deepest programs.
func TestP1303Limits(t *testing.T) {
	// each name is visible in all declarations behind it, and has variables of its own
	text := ""
	for n := 0; 9*(n+2) <= api.MaxSize; n++ {
		x := strconv.Itoa(n)
		text += "val a" + x + " = ref Nil val f" + x + " = fn x => x "
	}
	p := program(t, front+text)
	l, bad := infer.Program(p)
	if bad != (api.Bad{}) || len(l) != len(p)-4 || tree.Size(p) > api.MaxSize {
		t.Fatalf("Program of %d nodes gives %v and %d names", tree.Size(p), bad, len(l))
	}
	for i, n := range l {
		if got, want := told([]api.Named{n}), []string{"a" + strconv.Itoa(i/2) + ": unit list ref", "f" + strconv.Itoa(i/2) + ": 'a -> 'a"}[i%2]; got != want {
			t.Fatalf("name %d is %s and not %s", i, got, want)
		}
	}
	for tree.Size(p) <= api.MaxSize {
		p = append(p, p[len(p)-1])
	}
	isBad(t, p, api.Bad{Kind: api.ErrLong})
	deep := func(inner string, count int) string {
		return "val x = " + strings.Repeat("let fun f x = ", count) + inner + strings.Repeat(" in f end", count)
	}
	has(t, deep("1", 40), "x: "+strings.Repeat("unit -> ", 40)+"int")
	has(t, "fun g x = "+strings.Repeat("let val y = x in ", 90)+"y"+strings.Repeat(" end", 90), "g: 'a -> 'a")
}

// TestP1304Expr: Expr returns what Program returns for it in a declaration more.
func TestP1304Expr(t *testing.T) {
	count := map[api.Errno]int{}
	for i := range 1500 {
		m := newMaker(i, []int{0, 8, 60}[i%3])
		p := m.program(m.below(4), 4)
		e := m.exp(m.ty(2), 4)
		e.At = []int{e.At, -5, 0, 1 << 40}[i%4]
		it := api.Dec{Kind: api.DcVal, At: e.At, Case: []api.Case{{Pat: api.Pat{Kind: api.PaVar, At: e.At, Name: "it"}, Exp: e}}}
		want := api.Scheme{}
		l, wrong := infer.Program(append(slices.Clone(p), it))
		if wrong.Kind == api.OK {
			want = l[len(l)-1].Scheme
		}
		if s, bad := infer.Expr(p, e); bad != wrong || !reflect.DeepEqual(s, want) {
			t.Fatalf("Expr of %s behind\n%s\ngives %v %s and not %v %s", show.Expr(e), show.Program(p), bad, scheme.Show(s), wrong, scheme.Show(want))
		}
		count[wrong.Kind]++
	}
	if count[api.OK] < 500 || count[api.ErrType] < 300 {
		t.Error(count)
	}
}

func TestP1304Errors(t *testing.T) {
	isExpr := func(text, e, want string, wrong api.Bad) {
		t.Helper()
		s, bad := infer.Expr(program(t, text), expr(t, e))
		if scheme.Show(s) != want || bad != wrong || bad.Kind != api.OK && !reflect.DeepEqual(s, api.Scheme{}) {
			t.Errorf("Expr of %s behind %s gives %v, %v and not %s, %v", e, text, scheme.Show(s), bad, want, wrong)
		}
	}
	isExpr("", "fn x => x", "'a -> 'a", api.Bad{})
	isExpr("", "(fn x => x) (fn x => x)", "unit -> unit", api.Bad{})
	isExpr("val it = 1 fun f x = (x, it)", "f it", "int * int", api.Bad{})
	isExpr("val it = fn x => x", "it it", "unit -> unit", api.Bad{})
	isExpr("val x = true val x = 1", "x", "int", api.Bad{})
	isExpr("", "it", "", api.Bad{Kind: api.ErrVar, Name: "it"})
	isExpr("val x = 1", "(x, y)", "", api.Bad{Kind: api.ErrVar, At: 4, Name: "y"})
	isExpr("", "1 2", "", api.Bad{Kind: api.ErrType})
	isExpr("", "fn x => x x", "", api.Bad{Kind: api.ErrLoop, At: 10})
	isExpr("val x = 1 2", "3 4 + 5", "", api.Bad{Kind: api.ErrType, At: 8})
	isExpr("val x = 1 2", "y", "", api.Bad{Kind: api.ErrVar, Name: "y"})
	isExpr("val x = 1 datatype t = A | A", "y", "", api.Bad{Kind: api.ErrTwice, At: 27, Name: "A"})
	isExpr("val x = 1 2", "Nil", "", api.Bad{Kind: api.ErrCon, Name: "Nil"})
	isExpr("val p as (_, "+sized(128)+") = ("+sized(128)+", raise Div)", "1", "", api.Bad{Kind: api.ErrLong, At: 4})
	isExpr("", "("+sized(127)+", "+sized(128)+")", sizedType(127)+" * "+sizedType(128), api.Bad{})
	isExpr("", "("+sized(128)+", "+sized(128)+")", "", api.Bad{Kind: api.ErrLong})
	// the declaration of an expression can make a program too large, or too deep
	var p []api.Dec
	for tree.Size(p) < api.MaxSize-3 {
		p = append(p, api.Dec{Kind: api.DcVal, Case: []api.Case{{Pat: api.Pat{Kind: api.PaAny}, Exp: api.Exp{Kind: api.ExRead}}}})
	}
	for tree.Size(p) > api.MaxSize-3 {
		p = p[1:]
	}
	e := expr(t, "1")
	for range 5 {
		s, bad := infer.Expr(p, e)
		if isFine := tree.Size(p)+tree.Size([]api.Dec{{Kind: api.DcVal, Case: []api.Case{{Exp: e}}}}) <= api.MaxSize; isFine != (bad == api.Bad{}) || isFine != (s.Ty.Kind == api.TyCon) || !isFine && bad != (api.Bad{Kind: api.ErrLong}) {
			t.Errorf("Expr behind %d nodes gives %v, %v", tree.Size(p), s, bad)
		}
		e = api.Exp{Kind: api.ExRef, Kids: []api.Exp{e}}
	}
	for range api.MaxDeep {
		e = api.Exp{Kind: api.ExRef, At: 7, Kids: []api.Exp{e}}
	}
	if s, bad := infer.Expr(nil, e); bad != (api.Bad{Kind: api.ErrDeep}) || s.Ty.Kind != 0 {
		t.Errorf("Expr of a deep expression gives %v", bad)
	}
}

// TestP1305Schemes: all schemes are valid, without free variables, which are numbered as they come.
func TestP1305Schemes(t *testing.T) {
	many := 0
	for i := range 800 {
		m := newMaker(i, 0)
		p := m.program(1+m.below(6), 5)
		l, bad := infer.Program(p)
		s, wrong := infer.Expr(p, m.exp(m.ty(3), 4))
		if bad.Kind != api.OK || wrong.Kind != api.OK {
			t.Fatalf("Program of\n%s\ngives %v, and Expr %v", show.Program(p), bad, wrong)
		}
		for _, n := range append(l, api.Named{Scheme: s}) {
			vars := ty.Vars(n.Scheme.Ty)
			if !scheme.Right(n.Scheme) || len(vars) != n.Scheme.Vars {
				t.Fatalf("%s: %v is no scheme, or has other variables", n.Name, n.Scheme)
			}
			for i, v := range vars {
				if i != v {
					t.Fatalf("%s: %s has the variables %v", n.Name, scheme.Show(n.Scheme), vars)
				}
			}
			many += min(1, len(vars)/2)
		}
	}
	if many < 100 {
		t.Error("only", many, "schemes have several variables")
	}
}

// TestP1305Names: all names that top-level declarations bind, in order.
func TestP1305Names(t *testing.T) {
	for i := range 500 {
		m := newMaker(i, 0)
		p := m.program(1+m.below(6), 4)
		var want []string
		for _, d := range p {
			want = append(want, scope.Binds(d)...)
		}
		l, _ := infer.Program(p)
		if !slices.EqualFunc(l, want, func(n api.Named, name string) bool { return n.Name == name }) {
			t.Fatalf("Program of\n%s\ngives %s and not the names %v", show.Program(p), told(l), want)
		}
	}
}

// TestP1306Values: a value without free names can take the place of its name.
func TestP1306Values(t *testing.T) {
	uses := 0
	for i := range 2000 {
		m := newMaker(i, 0)
		p := m.program(2+m.below(5), 4)
		l, _ := infer.Program(p)
		// only names that are bound once, so that nothing hides them
		bound := map[string]int{}
		for _, x := range gather[api.Pat](&p) {
			bound[x.Name]++
		}
		for _, f := range gather[api.Fun](&p) {
			bound[f.Name]++
		}
		for _, d := range p {
			if d.Kind != api.DcVal || d.Case[0].Pat.Kind != api.PaVar || bound[d.Case[0].Pat.Name] > 1 || !infer.Value(d.Case[0].Exp) || len(scope.Free(d.Case[0].Exp)) > 0 {
				continue
			}
			q := roomy(p)
			for _, e := range gather[api.Exp](&q) {
				if e.Kind == api.ExVar && e.Name == d.Case[0].Pat.Name {
					*e = d.Case[0].Exp
					uses++
				}
			}
			again, bad := infer.Program(q)
			if bad.Kind != api.OK || told(again) != told(l) {
				t.Fatalf("Program of\n%s\ngives %v %s and not %s", show.Program(q), bad, told(again), told(l))
			}
		}
	}
	if uses < 200 {
		t.Error("only", uses, "names were replaced")
	}
}

// TestP1306Later: later declarations change only schemes with variables that were not quantified.
func TestP1306Later(t *testing.T) {
	changed, same := 0, 0
	for i := range 800 {
		m := newMaker(i, 0)
		p := m.program(2+m.below(5), 4)
		l, _ := infer.Program(p)
		for n := range p {
			before, bad := infer.Program(p[:n])
			_, open, _ := modelled(p[:n])
			if bad.Kind != api.OK || len(before) > len(l) {
				t.Fatalf("Program of the first %d declarations of\n%s\ngives %v", n, show.Program(p), bad)
			}
			for j, x := range before {
				switch isSame := told(before[j:j+1]) == told(l[j:j+1]); {
				case !isSame && !open[j]:
					t.Fatalf("%s of\n%s\nbecomes %s", told(before[j:j+1]), show.Program(p), told(l[j:j+1]))
				case !isSame:
					changed++
				case x.Scheme.Vars > 0:
					same++
				}
			}
		}
	}
	if changed < 10 || same < 250 {
		t.Error(changed, "schemes changed, and", same, "did not")
	}
}

// TestP1306Proofs: the types without variables that a small term has, by any proof, are those for which its scheme stands.
func TestP1306Proofs(t *testing.T) {
	count := map[bool]int{}
	for nodes := 1; nodes <= 6; nodes++ {
		p := &proofs{universe: universe(nodes + 1), known: map[string]bool{}}
		for _, e := range terms(nodes, 0) {
			// as the result of a function, a type is quantified also if the term is no value
			f := api.Exp{Kind: api.ExFn, Cases: []api.Case{{Pat: api.Pat{Kind: api.PaInt}, Exp: e}}}
			s, bad := infer.Expr(nil, f)
			for _, a := range universe(3) {
				want := p.has(e, a, nil)
				if got := bad.Kind == api.OK && scheme.More(s, scheme.Of(fn(tc("int"), a), nil)); got != want {
					t.Fatalf("Expr of %s gives %v, %s, but of the type %s it is %v", show.Expr(f), bad, scheme.Show(s), show.Type(a), want)
				}
				count[want]++
			}
		}
	}
	if count[true] < 1000 || count[false] < 1000 {
		t.Error(count)
	}
}
