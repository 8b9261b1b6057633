package scope_test

import (
	"reflect"
	"slices"
	"strconv"
	"strings"
	"testing"

	"camlet/api"
	"camlet/decl"
	"camlet/scope"
	"camlet/tree"
)

// isBad: Check gives an error for a program, also if it has no places, and if other errors stand behind it.
func isBad(t *testing.T, text string, want api.Bad) {
	t.Helper()
	p := program(t, text)
	if bad := scope.Check(p); bad != want {
		t.Errorf("Check of %q gives %v and not %v", text, bad, want)
	}
	bare := api.Bad{Kind: want.Kind, Name: want.Name}
	if bad := scope.Check(tree.Bare(p)); bad != bare {
		t.Errorf("Check of %q without places gives %v and not %v", text, bad, bare)
	}
	p = append(p, program(t, "val x = no val (y, y) = NoCon")...)
	if bad := scope.Check(p); want.Kind != api.OK && bad != want {
		t.Errorf("Check of %q with errors behind it gives %v and not %v", text, bad, want)
	}
}

func areFine(t *testing.T, texts ...string) {
	t.Helper()
	for _, text := range texts {
		isBad(t, text, api.Bad{})
	}
}

// areBad: Check gives for each of some texts an error of a kind at the name behind its mark ^.
func areBad(t *testing.T, kind api.Errno, texts ...string) {
	t.Helper()
	for _, text := range texts {
		before, after, _ := strings.Cut(text, "^")
		name := after
		if i := strings.IndexAny(after, " ,;)"); i >= 0 {
			name = after[:i]
		}
		isBad(t, before+after, api.Bad{Kind: kind, At: len(before), Name: name})
	}
}

func TestP1202Variables(t *testing.T) {
	areFine(t, "", "val x = 1", "val _ = 1", "val x = 1 val y = x val z = (x, y, x)",
		"val x = 1 val x = x val x = (x, x)", "val x = 1 val (y, x) = (x, x) val z = (x, y)",
		"val (a, (b, c as (d, e as _))) = 1 val x = (a, b, c, d, e)",
		"val x = fn x => x", "val x = fn x => fn y => (x, y)", "val f = fn (a, b) => a + b | c => c",
		"fun f x = f x", "fun f x = g x and g x = h x and h x = f (g (h x))", "fun f f = f", "fun f (x, y) = x f y val y = f",
		"val x = 1 fun f () = x val y = f () + x", "val x = fn y => y val y = x",
		"val x = let val y = 1 val z = y fun f a = (f, a, y, z) in f z end", "val x = let val x = 1 in let val x = x in x end end",
		"val x = case 1 of y => y | (y, z) => z", "val x = 1 handle e => raise e", "val x = case 1 of x => x val y = x")
	areBad(t, api.ErrVar, "val x = ^x", "val f = fn x => ^f", "val y = 1 val x = (y, ^z)", "val x = ^y val y = 1", "val (x, y) = (1, ^x)", "val (x as y) = (^y, x)",
		"fun f x = ^y", "fun f x = x val y = ^x", "fun f x = ^g x fun g x = f x", "fun f x = x and g y = ^x", "fun f x = g ^y and g y = y", "fun f x = x and g f = (f, g, ^x)",
		"val x = fn y => y val z = ^y", "val x = (fn y => y) ^y", "val x = fn y => y | z => ^y", "val x = fn (y, z) => (y, z, ^w)",
		"val x = case ^y of y => y", "val x = case 1 of y => 2 | _ => ^y", "val x = ^y handle y => y", "val x = 1 handle y => 2 | _ => ^y",
		"val x = let val y = ^y in y end", "val x = let val y = 1 in y end + ^y", "val x = let val y = ^z val z = 1 in y end", "val x = let val y = 1 in y end val z = ^y",
		"val x = let fun f y = ^z and g z = f z in g end", "val x = let fun f y = f y in f end val z = ^f", "val x = let fun f y = y in f ^y end",
		"val a = let val y = let val z = 1 in z end in ^z end", "val f = fn x => (fn x => x; x) val y = ^x",
		// the names of datatypes are no variables
		"datatype x = X val y = ^x", "datatype t = T exception E val y = (T, E, ^t)")
}

// TestP1202Innermost: what is bound inside an expression is not bound outside of it, and does not unbind what is bound there.
func TestP1202Innermost(t *testing.T) {
	for _, x := range []string{"fn y => y", "case 1 of y => y", "1 handle y => y", "let val y = 1 in y end", "let fun y z = y in y end",
		"let val y = 1 val y = y fun y y = y val (y, z) = y in y end", "fn (y, z) => case y of (y, z) => let val (y, z) = y in fn y => y end"} {
		areFine(t, "val y = 1 val a = (("+x+"); y) val b = y", "fun y z = (("+x+"); y)", "fun f y = (("+x+"); y)")
		areBad(t, api.ErrVar, "val a = (("+x+"); ^y)", "val a = ("+x+") val b = ^y", "fun f z = (("+x+"); ^y)", "fun f z = ("+x+") and g z = ^y", "val a = let val b = ("+x+") in ^y end")
	}
}

// form is an expression, and its variables that it does not bind, in their order.
type form struct{ text, free string }

func forms() []form {
	return []form{
		{"1", ""}, {"()", ""}, {"a", "a"}, {"Eof", ""}, {"read ()", ""}, {"(a, b)", "a b"}, {"(a, b, c, d, e, f, g, h)", "a b c d e f g h"}, {"a b", "a b"}, {"a b c", "a b c"}, {"a (b c)", "a b c"},
		{"if a then b else c", "a b c"}, {"(a; b)", "a b"}, {"(a; b; c)", "a b c"}, {"raise a", "a"}, {"ref a", "a"}, {"!a", "a"}, {"a := b", "a b"}, {"print a", "a"},
		{"a + b", "a b"}, {"a - b", "a b"}, {"a * b", "a b"}, {"a div b", "a b"}, {"a mod b", "a b"}, {"a = b", "a b"}, {"a <> b", "a b"}, {"a < b", "a b"}, {"a <= b", "a b"}, {"a andalso b", "a b"}, {"a orelse b", "a b"},
		{"fn _ => a", "a"}, {"fn 1 => a | _ => b", "a b"}, {"fn (x, y) => x a y b | z => (c, z)", "a b c"}, {"case a of 1 => b | _ => c", "a b c"}, {"case a of x => (x, b) | y => (c, y)", "a b c"},
		{"a handle Div => b | Eof => c", "a b c"}, {"a handle x => (b, x) | _ => c", "a b c"}, {"let val _ = a in b end", "a b"}, {"let val (x, y) = a val z = (x, b) in (y, z, c) end", "a b c"},
		{"let fun x y = (x, y, a, z) and z y = (x, b) in (x, z, c) end", "a b c"}, {"let val x = a fun y z = (x, b) val x = c in d x end", "a b c d"},
		{"(a, b, a, c, b)", "a b c"}, {"b (c a)", "b c a"}, {"a (fn x => (b, x, a)) (let val x = c in x end) (case d of (x as y) => (e, x, y)) f", "a b c d e f"},
		// a name can be free in one place and bound in another one
		{"(fn a => a) a b", "a b"}, {"(let val b = 1 in b end, a, b)", "a b"}, {"((case 1 of (c, d) => (a, c, d)), b, d, c)", "a b d c"}, {"(let fun b c = (b, c) in b end, a, b, c)", "a b c"},
		{"(fn a => (a, b)) a", "b a"}, {"let val a = a in a end", "a"}, {"let val b = a val a = c in (a, b) end", "a c"}, {"let fun a b = c in (a, b) end", "c b"}, {"a handle a => (a, b)", "a b"}, {"case b of b => a", "b a"},
	}
}

// TestP1202OrderOfVariables: the error of an expression is that of its first variable that is not bound.
func TestP1202OrderOfVariables(t *testing.T) {
	for _, x := range forms() {
		front := ""
		for _, name := range strings.Fields(x.free) {
			text := front + "val r = " + x.text
			bad := scope.Check(program(t, text))
			if bad.Kind != api.ErrVar || bad.Name != name || bad.At < len(front+"val r = ") || text[bad.At:bad.At+1] != name {
				t.Errorf("Check of %q gives %v and not an error about %s", text, bad, name)
			}
			front += "val " + name + " = 1 "
		}
		areFine(t, front+"val r = "+x.text, "fun a h = 1 and b h = 1 and c h = 1 and d h = 1 and e h = 1 and f h = 1 and g h = "+x.text+" and h x = ("+x.text+")")
	}
}

// someCons: declarations of constructors with and without an argument.
const someCons = "datatype t = A | B of int exception E exception F of int "

func TestP1202Constructors(t *testing.T) {
	areFine(t, "val x = (true, false, (), Div, Eof, Match)", "val (true, false, (), Div, (Eof, x as Match)) = 1", "val x = fn () => true | false => ()", "val x = 1 handle Div => 1 | Eof => 2 | Match => 3",
		"datatype t = A | B of int val x = (A, B 1) val (A, B y) = (A, B x)", "datatype t = A of t | B val x = A (A B)", "datatype 'a list = Nil | Cons of 'a * 'a list fun len l = case l of Nil => 0 | Cons (_, t) => 1 + len t",
		"exception E of int exception F val x = 1 handle E x => x | F => raise F handle E (y as 3) => raise E y",
		"exception E datatype t = F of exn exception G of t val x = G (F E) fun f (G (F E)) = G (F E)",
		someCons+"val x = let val (A, B x) = fn E => 1 | F 2 => 3 fun f A = B 1 and g (F x) = E in 1 end")
	for _, name := range []string{"Nil", "A", "Div'", "Div_", "Exn", "Some'9"} {
		areBad(t, api.ErrCon, "val x = ^"+name, "val x = ^"+name+" 1", "val ^"+name+" = 1", "val ^"+name+" x = 1", "fun f ^"+name+" = 1", "fun f (^"+name+" x) = x", "fun f x = ^"+name, "val x = fn 1 => 1 | (_, ^"+name+") => 2",
			"val x = case 1 of (y as ^"+name+" _) => y", "val x = 1 handle ^"+name+" => 1", "val x = let val ^"+name+" = 1 in 2 end", "val x = let fun f x = f ^"+name+" in f end",
			"datatype t = B val x = B val y = ^"+name+" exception C", "val y = ^"+name+" datatype t = T", "fun f ^"+name+" = 1 exception C datatype t = B | D of int")
	}
	// a constructor can be used from its declaration on, and not before
	areBad(t, api.ErrCon, "val x = ^A datatype t = A", "val x = ^A 1 exception A of int", "fun f x = (^B x, A) datatype t = A | B of int", "datatype t = A val x = (A, ^B) datatype u = B", "val y = Div val x = fn (^E x) => y exception E of int")
}

func TestP1202Arguments(t *testing.T) {
	for _, name := range []string{"true", "false", "Div", "Eof", "Match", "A", "E"} {
		areFine(t, someCons+"val "+name+" = "+name+" fun f "+name+" = fn "+name+" => "+name)
		areBad(t, api.ErrCount, someCons+"val x = ^"+name+" 1", someCons+"val x = ^"+name+" y", someCons+"val x = fn (2, ^"+name+" x) => x", someCons+"fun f (^"+name+" _) = 1", someCons+"val x = 1 handle ^"+name+" Nil => 2")
	}
	for _, name := range []string{"B", "F"} {
		areFine(t, someCons+"val "+name+" x = "+name+" 1 fun f ("+name+" _) = fn "+name+" y => "+name+" y")
		areBad(t, api.ErrCount, someCons+"val x = ^"+name, someCons+"fun f x = f ^"+name+" 1", someCons+"val x = fn (2, ^"+name+") => x", someCons+"fun f ^"+name+" = 1", someCons+"val x = 1 handle ^"+name+" => y", someCons+"val x = (1, ^"+name+", x)")
	}
	// no text gives () an argument
	one := api.Exp{Kind: api.ExInt, N: 1}
	unit := api.Pat{Kind: api.PaCon, At: 7, Name: "()"}
	for range 2 {
		want := api.Bad{}
		if len(unit.Kids) > 0 {
			want = api.Bad{Kind: api.ErrCount, At: 7, Name: "()"}
		}
		inPat := api.Dec{Kind: api.DcVal, Case: []api.Case{{Pat: unit, Exp: one}}}
		inExp := api.Dec{Kind: api.DcVal, Case: []api.Case{{Pat: api.Pat{Kind: api.PaAny}, Exp: api.Exp{Kind: api.ExCon, At: 7, Name: "()"}}}}
		if len(unit.Kids) > 0 {
			inExp.Case[0].Exp.Kids = []api.Exp{one}
		}
		for _, d := range []api.Dec{inPat, inExp} {
			if bad := scope.Check([]api.Dec{d}); bad != want {
				t.Errorf("Check gives %v and not %v", bad, want)
			}
		}
		unit.Kids = []api.Pat{{Kind: api.PaAny}}
	}
}

func TestP1202Twice(t *testing.T) {
	areFine(t, "val (a, b) = 1 val (a, b) = 2", "val f = fn (a, b) => 1 | (a, b) => 2", "fun f f = 1", "fun f a = a and g a = a and h f = f f", "fun f a = a fun f a = a val f = 1", "val x = let val a = 1 fun a a = a in a end",
		"val (a, b) = fn (a, b) => fn (b, a) => case a of (a, b) => 1 handle (a, b) => 2", "fun f (a, b) = let fun f (a, b) = 1 in 2 end", "val (_, _) = 1")
	areBad(t, api.ErrTwice, "val (a, ^a) = 1", "val (a as ^a) = 1", "val (a, (b, c as (_, ^b))) = 1", "val (a as (b, ^a)) = 1", "val (a, b, ^a, b) = 1", "val (a, a', b, ^b, a) = 1", "val ((a, b), (c, ^b, a)) = 1", "val (a, ^a as b) = b",
		"fun f (a, ^a) = 1", "val f = fn (a, ^a) => 1", "val f = fn a => 1 | (a, ^a) => 2", "val f = case 1 of (a, ^a) => 1", "val f = 1 handle (a, ^a) => 1", "val x = let val (a, ^a) = 1 in 2 end", "val x = let fun f (a, b as ^a) = 1 in 2 end",
		"fun f x = 1 and ^f x = 2", "fun f x = 1 and g x = 2 and ^f x = 3", "fun f x = 1 and g x = 2 and ^g x = 3 and f x = 4", "val x = let fun f x = 1 and ^f x = 2 in 3 end", "fun f x = 1 and ^f f = 2")
}

// TestP1202SourceOrder: of several errors the first one counts.
func TestP1202SourceOrder(t *testing.T) {
	areBad(t, api.ErrVar, "val x = ^y val z = Nil", "val x = (^y, Nil)", "val x = ^f Nil", "fun f x = ^y and f x = z", "fun f x = ^y and g (a, a) = z", "val x = fn a => ^y | Nil => 1", "val x = case ^y of Nil => 1", "val x = ^y handle Nil => 1", "val x = let val y = ^z in Nil end", "fun f a = 1 and g a = ^b and f a = 3", "val x = (^y := Nil; Nil)")
	areBad(t, api.ErrCon, "val ^Nil = y", "val (^Nil, a, a) = 1", "val ^Nil (a, a) = 1", "fun f ^Nil = y", "fun f ^Nil = 1 and f x = 2", "val x = ^Nil y", "val x = ^Nil (Nil y)", "val x = fn ^Nil => y", "val x = (^Nil, y)", "val x = let val ^Nil = z in y end", "val x = (^Nil; Div 1)", "val x = case ^Nil of Div 1 => 1")
	areBad(t, api.ErrCount, "val ^Div x = y", "val ^Div (a, a) = 1", "val x = ^Div y", "val x = ^Div Nil", "val (^Div _, a, a) = Nil", "val x = (fn (^true _) => y) z", "val x = if ^true 1 then y else Nil")
	areBad(t, api.ErrTwice, "val (a, ^a) = b", "val (a, ^a, Nil) = 1", "val (a as ^a) = Nil", "fun f x = 1 and ^f Nil = y", "fun f x = 1 and ^f (x, x) = y", "fun f (x, ^x) = y and f x = 1", "val x = fn (a, ^a) => y | Nil => 1", "val x = let fun f x = x and ^f x = y in z end")
}

// TestP1202FormFirst: any error of the form of a program comes before those of its constructors, and these before those of its names.
func TestP1202FormFirst(t *testing.T) {
	p := program(t, "val x = y val (a, a) = Nil datatype t = A | A exception Div fun f x = 1 and f x = z val w = 1")
	isFirst := func(want api.Bad) {
		t.Helper()
		if bad := scope.Check(p); bad != want {
			t.Errorf("Check gives %v and not %v", bad, want)
		}
	}
	isFirst(api.Bad{Kind: api.ErrTwice, At: 44, Name: "A"})
	p[5].Case[0].Exp.N = 1 << 30
	isFirst(api.Bad{Kind: api.ErrRange, At: 92})
	p[5].Case[0].Exp.Kids = []api.Exp{{}}
	isFirst(api.Bad{Kind: api.ErrKind, At: 92})
	p[5].Case[0].Exp = api.Exp{Kind: api.ExVar, At: 92, Name: "Val"}
	isFirst(api.Bad{Kind: api.ErrName, At: 92, Name: "Val"})
	p[5].Case[0].Exp = api.Exp{Kind: api.ExVar, At: 92, Name: "x"}
	p[2].Cons[1].Name = "B"
	isFirst(api.Bad{Kind: api.ErrTwice, At: 56, Name: "Div"})
	p[3].Cons[0].Name, p[3].Cons[0].Has, p[3].Cons[0].Arg = "C", true, api.Ty{Kind: api.TyCon, Name: "u"}
	isFirst(api.Bad{Kind: api.ErrName, At: 56, Name: "u"})
	p[3].Cons[0].Arg = api.Ty{Kind: api.TyCon, Name: "t"}
	isFirst(api.Bad{Kind: api.ErrVar, At: 8, Name: "y"})
	p[0].Case[0].Exp = api.Exp{Kind: api.ExRead}
	isFirst(api.Bad{Kind: api.ErrTwice, At: 18, Name: "a"})
}

// TestP1202MixedPrograms: the error is the first one of all errors that faults finds in another way.
func TestP1202MixedPrograms(t *testing.T) {
	count := map[api.Errno]int{}
	for i := range 9000 {
		m := newMaker(i, []int{0, 8, 20, 60, 200}[i%5])
		p := m.program(1+m.below(5), 6)
		want := api.Bad{}
		if l := faults(p); len(l) > 0 {
			want = l[0]
		}
		if bad := scope.Check(p); bad != want {
			t.Fatalf("Check of program %d gives %v and not %v", i, bad, want)
		}
		if m.odd == 0 && want.Kind != api.OK {
			t.Fatalf("program %d is not closed: %v", i, want)
		}
		count[want.Kind]++
		bare := api.Bad{Kind: want.Kind, Name: want.Name}
		if bad := scope.Check(tree.Bare(p)); bad != bare {
			t.Fatalf("Check of program %d without places gives %v and not %v", i, bad, bare)
		}
		// the order of the places does not matter
		mirror(&p)
		want.At = -want.At
		if bad := scope.Check(p); bad != want {
			t.Fatalf("Check of program %d from right to left gives %v and not %v", i, bad, want)
		}
	}
	for _, e := range []api.Errno{api.OK, api.ErrVar, api.ErrCon, api.ErrCount, api.ErrTwice} {
		if count[e] < 200 {
			t.Error("only", count[e], "programs give", e)
		}
	}
}

// TestP1202Limits: programs that just fit, and some that do not.
func TestP1202Limits(t *testing.T) {
	// val xN = xM, with places that rise in source order
	val := func(n, m int) api.Dec {
		pat := api.Pat{Kind: api.PaVar, At: 2 * n, Name: "x" + strconv.Itoa(n)}
		return api.Dec{Kind: api.DcVal, Case: []api.Case{{Pat: pat, Exp: api.Exp{Kind: api.ExVar, At: 2*n + 1, Name: "x" + strconv.Itoa(m)}}}}
	}
	p := program(t, "val x0 = (1, 2)")
	for n := 1; tree.Size(p)+3 <= api.MaxSize; n++ {
		p = append(p, val(n, n-1))
	}
	last := len(p) - 1
	isFirst := func(want api.Bad) {
		t.Helper()
		if bad := scope.Check(p); bad != want {
			t.Errorf("Check of a program of %d nodes gives %v and not %v", tree.Size(p), bad, want)
		}
	}
	if tree.Size(p) != api.MaxSize {
		t.Error("the program has", tree.Size(p), "nodes")
	}
	isFirst(api.Bad{})
	p[last] = val(last, last)
	isFirst(api.Bad{Kind: api.ErrVar, At: 2*last + 1, Name: "x" + strconv.Itoa(last)})
	p[7] = val(7, 8)
	isFirst(api.Bad{Kind: api.ErrVar, At: 15, Name: "x8"})
	p = append(p, val(0, 0))
	isFirst(api.Bad{Kind: api.ErrLong})
}

func TestP1202Deep(t *testing.T) {
	for _, name := range []string{"x", "y"} {
		e := api.Exp{Kind: api.ExVar, At: 9, Name: name}
		for range api.MaxDeep - 2 {
			e = api.Exp{Kind: api.ExFn, Cases: []api.Case{{Pat: api.Pat{Kind: api.PaVar, Name: "x"}, Exp: e}}}
		}
		var free []string
		want := api.Bad{}
		if name == "y" {
			free, want = []string{"y"}, api.Bad{Kind: api.ErrVar, At: 9, Name: "y"}
		}
		if bad := scope.Check(valOf(e)); bad != want {
			t.Errorf("Check of a deep program gives %v and not %v", bad, want)
		}
		e = api.Exp{Kind: api.ExRef, Kids: []api.Exp{e}}
		if bad := scope.Check(valOf(e)); bad != (api.Bad{Kind: api.ErrDeep}) {
			t.Errorf("Check of a program that is too deep gives %v", bad)
		}
		if l := scope.Free(e); !slices.Equal(l, free) {
			t.Errorf("Free of a deep expression gives %q and not %q", l, free)
		}
		if l := scope.Free(api.Exp{Kind: api.ExRef, Kids: []api.Exp{e}}); len(l) > 0 {
			t.Errorf("Free of an expression that is too deep gives %q", l)
		}
	}
}

func TestP1203Free(t *testing.T) {
	for _, x := range forms() {
		if l := scope.Free(expr(t, x.text)); !slices.Equal(l, strings.Fields(x.free)) {
			t.Errorf("Free of %q gives %q and not %q", x.text, l, x.free)
		}
	}
	// other errors of names do not matter
	for _, x := range []form{{"(Nil a, Div b, c)", "a b c"}, {"fn (a, a, Nil b) => (a, c, b)", "c"}, {"let fun f x = (x, a) and f y = (x, f) in f end", "a x"}, {"case Nil of Some (x as x) => x y", "y"}} {
		if l := scope.Free(expr(t, x.text)); !slices.Equal(l, strings.Fields(x.free)) {
			t.Errorf("Free of %q gives %q and not %q", x.text, l, x.free)
		}
	}
	for i := range 4000 {
		m := newMaker(i, []int{4, 20, 100}[i%3])
		e := m.exp(7)
		want := namesOf(inOrder(unbound(e)))
		if l := scope.Free(e); !slices.Equal(l, want) {
			t.Fatalf("Free of expression %d gives %q and not %q", i, l, want)
		}
		mirror(&e)
		if l := scope.Free(e); !slices.Equal(l, want) {
			t.Fatalf("Free of expression %d from right to left gives %q and not %q", i, l, want)
		}
	}
}

func TestP1203FreeOfMany(t *testing.T) {
	var kids []api.Exp
	var want []string
	for i := range api.MaxSize - 1 {
		name := "x" + strconv.Itoa(i*i%5003)
		kids = append(kids, api.Exp{Kind: api.ExVar, Name: name})
		if !slices.Contains(want, name) {
			want = append(want, name)
		}
	}
	e := api.Exp{Kind: api.ExSeq, Kids: kids}
	if l := scope.Free(e); !slices.Equal(l, want) {
		t.Errorf("Free gives %d names and not %d", len(l), len(want))
	}
	e.Kids = append(kids, kids[0])
	if l := scope.Free(e); len(l) > 0 {
		t.Errorf("Free of an expression that is too long gives %d names", len(l))
	}
}

func TestP1203Binds(t *testing.T) {
	for _, x := range []form{
		{"val _ = a", ""}, {"val x = fn y => y", "x"}, {"val (a, b as _) = c", "a b"}, {"val (b as (a, Some (d, 1, c)), Nil) = 1", "b a d c"}, {"val (a, b, a as (b, c)) = 1", "a b c"}, {"val Nil = 1", ""},
		{"fun f x = y", "f"}, {"fun f x = 1 and g (y, z) = let val w = 1 in w end and h x = 1", "f g h"}, {"fun g x = 1 and f x = 1 and g y = 1 and f x = 1 and a f = 1", "g f a"},
		{"datatype a = B | C of int", ""}, {"exception E of int", ""},
	} {
		if l := scope.Binds(program(t, x.text)[0]); !slices.Equal(l, strings.Fields(x.free)) {
			t.Errorf("Binds of %q gives %q and not %q", x.text, l, x.free)
		}
	}
	for i := range 3000 {
		m := newMaker(i, 5)
		d := m.dec(4, 4)
		want := namesOf(decNames(d))
		if l := scope.Binds(d); !slices.Equal(l, want) {
			t.Fatalf("Binds of declaration %d gives %q and not %q", i, l, want)
		}
	}
}

// conOf: the first constructor C in an expression of a part of a program.
func conOf(part any) *api.Exp {
	exps := gather[api.Exp](part)
	return exps[slices.IndexFunc(exps, func(e *api.Exp) bool { return e.Name == "C" })]
}

// TestP1203Invalid: what is wrong in its form has no names, wherever it is wrong.
func TestP1203Invalid(t *testing.T) {
	const text = "let val x = fn (a, 1) => (a, c, 2) fun f y = 1 in case f of A z => (b, C 3) end"
	for i, spoil := range spoilers() {
		e := expr(t, text)
		if l := scope.Free(e); !slices.Equal(l, []string{"c", "b"}) {
			t.Fatalf("Free gives %q", l)
		}
		spoil(conOf(&e))
		if l := scope.Free(e); tree.RightExp(e).Kind == api.OK || len(l) > 0 {
			t.Errorf("Free gives %q beside %v of spoiler %d", l, tree.RightExp(e), i)
		}
		for _, front := range []string{"val (x, A y) = ", "fun x z = 1 and y (B x) = "} {
			p := program(t, front+text)
			if l := scope.Binds(p[0]); !slices.Equal(l, []string{"x", "y"}) {
				t.Fatalf("Binds gives %q", l)
			}
			spoil(conOf(&p))
			if l := scope.Binds(p[0]); tree.Right(p).Kind == api.OK || len(l) > 0 {
				t.Errorf("Binds gives %q beside %v of spoiler %d", l, tree.Right(p), i)
			}
			if bad := scope.Check(p); bad != tree.Right(p) {
				t.Errorf("Check gives %v and not %v of spoiler %d", bad, tree.Right(p), i)
			}
		}
	}
	for _, d := range []api.Dec{{}, {Kind: api.DcVal}, {Kind: api.DcFun}, {Kind: api.DcFun, Funs: []api.Fun{{}}}, {Kind: api.DcFun, Funs: []api.Fun{{Name: "f"}}}, {Kind: api.DcData, Name: "t"}, {Kind: api.DcExn}, {Kind: 99, Name: "x"}, {Kind: -1}} {
		if l := scope.Binds(d); len(l) > 0 {
			t.Errorf("Binds of %v gives %q", d, l)
		}
		if bad := scope.Check([]api.Dec{d}); bad != tree.Right([]api.Dec{d}) || bad.Kind == api.OK {
			t.Errorf("Check of %v gives %v", d, bad)
		}
	}
}

func TestP1204ClosedPrograms(t *testing.T) {
	uses := 0
	for i := range 4000 {
		m := newMaker(i, []int{0, 0, 0, 100}[i%4])
		p := m.program(1+m.below(8), 5)
		if scope.Check(p).Kind != api.OK {
			if m.odd == 0 {
				t.Fatalf("program %d is not closed", i)
			}
			continue
		}
		var bound []string
		for j, d := range p {
			if bad := scope.Check(p[:j]); bad != (api.Bad{}) {
				t.Fatalf("Check of %d declarations of program %d gives %v", j, i, bad)
			}
			for _, c := range d.Case {
				for _, name := range scope.Free(c.Exp) {
					if uses++; !slices.Contains(bound, name) {
						t.Fatalf("Free gives %s in declaration %d of program %d, but it is not bound", name, j, i)
					}
				}
			}
			bound = append(bound, scope.Binds(d)...)
		}
	}
	if uses < 1000 {
		t.Error("only", uses, "variables are used")
	}
}

// TestP1204FirstError: declarations behind the one with the error change nothing, and those up to it are needed.
func TestP1204FirstError(t *testing.T) {
	for i := range 2000 {
		m := newMaker(i, 30)
		p := m.program(1+m.below(6), 5)
		first := scope.Check(p)
		isFound := false
		for j := range p {
			bad := scope.Check(p[:j+1])
			isFound = isFound || bad != (api.Bad{})
			if isFound && bad != first || !isFound && bad != (api.Bad{}) {
				t.Fatalf("Check of %d declarations of program %d gives %v, and of all %v", j+1, i, bad, first)
			}
		}
		if isFound != (first.Kind != api.OK) {
			t.Fatalf("Check of program %d gives %v", i, first)
		}
	}
}

// TestP1201Pure: arguments stay as they are, also behind their ends, results are new memory, and calls do not depend on others.
func TestP1201Pure(t *testing.T) {
	for i := range 300 {
		m := newMaker(i, 40)
		p := roomy(m.program(1+m.below(5), 4))
		before := whole(roomy(p))
		if !reflect.DeepEqual(whole(p), before) {
			t.Fatal("the room behind slices differs")
		}
		bad := scope.Check(p)
		for _, d := range p {
			checkApart(t, func() []string { return scope.Binds(d) })
			for _, c := range d.Case {
				checkApart(t, func() []string { return scope.Free(c.Exp) })
			}
		}
		if !reflect.DeepEqual(whole(p), before) {
			t.Fatalf("the calls changed program %d", i)
		}
		if again := scope.Check(p); again != bad {
			t.Fatalf("Check of program %d gives %v and then %v", i, bad, again)
		}
	}
}

// checkApart: a call gives the same names again after those that it gave were changed.
func checkApart(t *testing.T, call func() []string) {
	t.Helper()
	first, second := call(), call()
	kept := slices.Clone(second)
	for i := range first[:cap(first)] {
		first[:cap(first)][i] = "changed"
	}
	if !slices.Equal(second, kept) || !slices.Equal(call(), kept) {
		t.Errorf("results share memory: %q was %q", second, kept)
	}
}

func TestP1201NothingGiven(t *testing.T) {
	if bad := scope.Check(nil); bad != (api.Bad{}) {
		t.Error("Check of nothing gives", bad)
	}
	if bad := scope.Check([]api.Dec{}); bad != (api.Bad{}) {
		t.Error("Check of an empty program gives", bad)
	}
	if l := scope.Free(api.Exp{}); len(l) > 0 {
		t.Errorf("Free of an empty expression gives %q", l)
	}
	if l := scope.Binds(api.Dec{}); len(l) > 0 {
		t.Errorf("Binds of an empty declaration gives %q", l)
	}
}

// TestP1201SpoiltPrograms: any field can have any value: Check then gives the error of tree.Right or decl.Of, if there is one.
func TestP1201SpoiltPrograms(t *testing.T) {
	spoilt := 0
	for i := range 4000 {
		m := newMaker(i, 100)
		p := m.program(1+m.below(4), 5)
		for range 1 + m.below(2) {
			m.spoil(&p)
		}
		want := tree.Right(p)
		if want.Kind == api.OK {
			_, want = decl.Of(p)
		}
		if bad := scope.Check(p); want.Kind != api.OK && bad != want {
			t.Fatalf("Check of program %d gives %v and not %v", i, bad, want)
		}
		if want.Kind != api.OK {
			spoilt++
		}
		for _, e := range gather[api.Exp](&p) {
			if l := scope.Free(*e); tree.RightExp(*e).Kind != api.OK && len(l) > 0 {
				t.Fatalf("Free of an expression of program %d gives %q", i, l)
			}
		}
		for _, d := range gather[api.Dec](&p) {
			if l := scope.Binds(*d); tree.Right([]api.Dec{*d}).Kind != api.OK && len(l) > 0 {
				t.Fatalf("Binds of a declaration of program %d gives %q", i, l)
			}
		}
	}
	if spoilt < 1000 {
		t.Error("only", spoilt, "programs are spoilt")
	}
}
