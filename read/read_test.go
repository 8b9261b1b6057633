package read_test

import (
	"cmp"
	"reflect"
	"slices"
	"strings"
	"testing"

	"camlet/api"
	"camlet/lex"
	"camlet/read"
	"camlet/tree"
)

// short: a text as it is told of in a failure.
func short(s string) string {
	if len(s) > 300 {
		return s[:300] + ".. of so many bytes: " + strings.Repeat("I", len(s)/10000)
	}
	return s
}

// isOfGrammar: does an error say that the grammar cannot continue?
func isOfGrammar(bad api.Bad) bool { return bad.Kind == api.ErrToken || bad.Kind == api.ErrEnd }

// check: holds a call against what is expected of it.
func check(t *testing.T, construct, s, want string, bad api.Bad) {
	t.Helper()
	if x, b := calls[construct](s); tell(x) != want || b != bad {
		t.Errorf("%s %q gives %s, %v and not %s, %v", construct, short(s), short(tell(x)), b, short(want), bad)
	}
}

func TestP603P604Trees(t *testing.T) {
	for _, x := range []struct{ construct, s, want string }{
		{"program", "", ""}, {"program", " (* val x = 1 *)\n", ""},
		{"program", "val x = 1 + 2 * 3", "(val@0 x@4=(op@8 1 1@8 (op@12 3 2@12 3@16)))"},
		{"program", "val x=1val y=2", "(val@0 x@4=1@6) (val@7 y@11=2@13)"},
		{"program", "fun f (x, y) = x and g 1 = f and h A = g val z = h", "(fun@0 f@4:(tuple@6 x@7 y@10)=x@15 g@21:1@23=f@27 h@33:A@35=g@39) (val@41 z@45=h@49)"},
		{"program", "val Some x = e", "(val@0 (Some@4 x@9)=e@13)"}, {"program", "val x as y = e", "(val@0 (as@4 x y@9)=e@13)"}, {"program", "fun f (A x) = e", "(fun@0 f@4:(A@7 x@9)=e@14)"},
		{"program", "datatype t = A", "(data@0 t A@13)"}, {"program", "datatype 'a t = A of 'a", "(data@0 t 1 A@16:'0)"}, {"program", "datatype ('a) t = A", "(data@0 t 1 A@18)"},
		{"program", "datatype ('b, 'a) t = A of 'a * 'b | B | C of ('b, int) t -> 'a ref", "(data@0 t 2 A@22:(* '1 '0) B@37 C@41:(-> (t '0 int) (ref '1)))"},
		{"program", "datatype 'a t = A of 'a datatype ('b, 'a) t = A of 'a", "(data@0 t 1 A@16:'0) (data@24 t 2 A@46:'1)"},
		{"program", "exception E exception F of int * exn", "(exn@0 E@10) (exn@12 F@22:(* int exn))"},
		{"program", "val x = let fun f x = 1 and g y = 2 val z = 3 in f end and", "error"},
		{"program", "val x = let fun f x = 1 and g y = 2 val z = 3 in f end", "(val@0 x@4=(let@8 (fun@12 f@16:x@18=1@22 g@28:y@30=2@34) (val@36 z@40=3@44) f@49))"},

		{"exp", "f x y", "(app@0 (app@0 f@0 x@2) y@4)"}, {"exp", "Some 1 x", "(app@0 (Some@0 1@5) x@7)"}, {"exp", "f Some 1", "(app@0 (app@0 f@0 Some@2) 1@7)"},
		{"exp", "Some", "Some@0"}, {"exp", "Some Some 1", "(app@0 (Some@0 Some@5) 1@10)"}, {"exp", "Some (Some 1)", "(Some@0 (Some@6 1@11))"}, {"exp", "(Some) 1", "(app@1 Some@1 1@7)"}, {"exp", "true ()", "(true@0 ()@5)"}, {"exp", "() ()", "(app@0 ()@0 ()@3)"},
		{"exp", "Some ~ 1", "(Some@0 -1@5)"}, {"exp", "Some - 1", "(op@0 2 Some@0 1@7)"}, {"exp", "Some let val x = 1 in 2 end", "(Some@0 (let@5 (val@9 x@13=1@17) 2@22))"}, {"exp", "Some read ()", "(Some@0 read@5)"},
		{"exp", "1 ~2", "(app@0 1@0 -2@2)"}, {"exp", "~1073741824", "-1073741824@0"}, {"exp", "1-~(**)1073741824", "(op@0 2 1@0 -1073741824@2)"}, {"exp", "~0", "0@0"}, {"exp", "1073741823", "1073741823@0"},
		{"exp", "ref x y", "(app@0 (ref@0 x@4) y@6)"}, {"exp", "!r + print x", "(op@0 1 (get@0 r@1) (print@5 x@11))"}, {"exp", "ref ~1", "(ref@0 -1@4)"}, {"exp", "print read ()", "(print@0 read@6)"}, {"exp", "!A B", "(app@0 (get@0 A@1) B@3)"},
		{"exp", "f read () read ()", "(app@0 (app@0 f@0 read@2) read@10)"},
		{"exp", "a - b + c", "(op@0 1 (op@0 2 a@0 b@4) c@8)"}, {"exp", "a div b mod c * d", "(op@0 3 (op@0 5 (op@0 4 a@0 b@6) c@12) d@16)"}, {"exp", "a - (b - c)", "(op@0 2 a@0 (op@5 2 b@5 c@9))"}, {"exp", "a * b - c * d", "(op@0 2 (op@0 3 a@0 b@4) (op@8 3 c@8 d@12))"},
		{"exp", "a + b = c - d", "(op@0 6 (op@0 1 a@0 b@4) (op@8 2 c@8 d@12))"}, {"exp", "a <> b", "(op@0 7 a@0 b@5)"}, {"exp", "a < b", "(op@0 8 a@0 b@4)"}, {"exp", "a <= b", "(op@0 9 a@0 b@5)"}, {"exp", "(a = b) = c", "(op@1 6 (op@1 6 a@1 b@5) c@10)"},
		{"exp", "a andalso b andalso c", "(and@0 a@0 (and@10 b@10 c@20))"}, {"exp", "a orelse b andalso c orelse d", "(or@0 a@0 (or@9 (and@9 b@9 c@19) d@28))"}, {"exp", "a = b andalso c < d", "(and@0 (op@0 6 a@0 b@4) (op@14 8 c@14 d@18))"},
		{"exp", "a := b := c", "(set@0 a@0 (set@5 b@5 c@10))"}, {"exp", "a orelse b := c", "(set@0 (or@0 a@0 b@9) c@14)"}, {"exp", "(a := b) := c", "(set@1 (set@1 a@1 b@6) c@12)"},
		{"exp", "a handle x => b", "(try@0 a@0 x@9=>b@14)"}, {"exp", "a orelse b handle x => b := c", "(try@0 (or@0 a@0 b@9) x@18=>(set@23 b@23 c@28))"}, {"exp", "a := b handle x => c | y => d handle z => e", "(set@0 a@0 (try@5 b@5 x@14=>c@19 y@23=>(try@28 d@28 z@37=>e@42)))"}, {"exp", "(a handle x => b) handle y => c", "(try@1 (try@1 a@1 x@10=>b@15) y@25=>c@30)"},
		{"exp", "raise E 1 handle x => y", "(raise@0 (try@6 (E@6 1@8) x@17=>y@22))"}, {"exp", "raise raise e := 1", "(raise@0 (raise@6 (set@12 e@12 1@17)))"},
		{"exp", "fn x => y | A z => fn 1 => w | _ => v", "(fn@0 x@3=>y@8 (A@12 z@14)=>(fn@19 1@22=>w@27 any@31=>v@36))"}, {"exp", "fn x => (fn 1 => w) | _ => v", "(fn@0 x@3=>(fn@9 1@12=>w@17) any@22=>v@27)"},
		{"exp", "if a then if b then c else d else e := f", "(if@0 a@3 (if@10 b@13 c@20 d@27) (set@34 e@34 f@39))"}, {"exp", "if a := b then c := d else e", "(if@0 (set@3 a@3 b@8) (set@15 c@15 d@20) e@27)"},
		{"exp", "case a of x => case b of y => c | z => d", "(case@0 a@5 x@10=>(case@15 b@20 y@25=>c@30 z@34=>d@39))"}, {"exp", "case a of x => b handle y => c | z => d", "(case@0 a@5 x@10=>(try@15 b@15 y@24=>c@29 z@33=>d@38))"}, {"exp", "case if a then b else c of x => raise y | z => 1", "(case@0 (if@5 a@8 b@15 c@22) x@27=>(raise@32 y@38) z@42=>1@47)"},
		{"exp", "()", "()@0"}, {"exp", "( (* *) )", "()@0"}, {"exp", "((x))", "x@2"}, {"exp", "(a, b)", "(tuple@0 a@1 b@4)"}, {"exp", "((a, b), c)", "(tuple@0 (tuple@1 a@2 b@5) c@9)"}, {"exp", "(a, if b then c else d, e)", "(tuple@0 a@1 (if@4 b@7 c@14 d@21) e@24)"},
		{"exp", "(a; b)", "(seq@1 a@1 b@4)"}, {"exp", "((a; b); raise c; d)", "(seq@2 (seq@2 a@2 b@5) (raise@9 c@15) d@18)"}, {"exp", "(fn x => a; b)", "(seq@1 (fn@1 x@4=>a@9) b@12)"}, {"exp", "(f) x", "(app@1 f@1 x@4)"},
		{"exp", "let val x = a in b end", "(let@0 (val@4 x@8=a@12) b@17)"}, {"exp", "let val x = a in b end c", "(app@0 (let@0 (val@4 x@8=a@12) b@17) c@23)"},

		{"pat", "x", "x@0"}, {"pat", "_", "any@0"}, {"pat", "12", "12@0"}, {"pat", "~ 12", "-12@0"}, {"pat", "~1073741824", "-1073741824@0"}, {"pat", "()", "()@0"}, {"pat", "(x)", "x@1"}, {"pat", "A", "A@0"}, {"pat", "false", "false@0"},
		{"pat", "A x", "(A@0 x@2)"}, {"pat", "A B", "(A@0 B@2)"}, {"pat", "A (B x)", "(A@0 (B@3 x@5))"}, {"pat", "A ~1", "(A@0 -1@2)"}, {"pat", "A _", "(A@0 any@2)"}, {"pat", "A ()", "(A@0 ()@2)"},
		{"pat", "x as y as A z", "(as@0 x (as@5 y (A@10 z@12)))"}, {"pat", "x as Cons (1, (~2, _))", "(as@0 x (Cons@5 (tuple@10 1@11 (tuple@14 -2@15 any@19))))"}, {"pat", "(x as y, A z, w)", "(tuple@0 (as@1 x y@6) (A@9 z@11) w@14)"}, {"pat", "((x, y))", "(tuple@1 x@2 y@5)"},

		{"ty", "int", "int"}, {"ty", "'a", "'0"}, {"ty", "(int)", "int"}, {"ty", "'b -> int * 'a list ref -> ('b, int) t", "(-> '0 (-> (* int (ref (list '1))) (t '0 int)))"},
		{"ty", "int * int * int", "(* int int int)"}, {"ty", "(int * int) * int", "(* (* int int) int)"}, {"ty", "int * (int * int)", "(* int (* int int))"}, {"ty", "(int -> int) -> int", "(-> (-> int int) int)"}, {"ty", "('a, 'b) t u ref", "(ref (u (t '0 '1)))"},
		{"ty", "('c -> 'b, 'c * 'a, 'b) ref", "(ref (-> '0 '1) (* '0 '2) '1)"}, {"ty", "int int", "(int int)"}, {"ty", "(int * int) ref", "(ref (* int int))"}, {"ty", "int * int ref", "(* int (ref int))"}, {"ty", "'_ * 'val * '_", "(* '0 '1 '0)"},
		{"ty", "int" + strings.Repeat(" * t", 20), "(* int" + strings.Repeat(" t", 20) + ")"},
	} {
		if x.want == "error" {
			check(t, x.construct, x.s, "", api.Bad{Kind: api.ErrToken, At: strings.LastIndex(x.s, "and"), Name: "and"})
		} else {
			check(t, x.construct, x.s, x.want, api.Bad{})
		}
	}
}

func TestP602FirstRefusedToken(t *testing.T) {
	for _, x := range []struct {
		construct, s string
		at           int // negative: the text ends too early
	}{
		{"exp", "", -1}, {"pat", "", -1}, {"ty", "", -1}, {"exp", "  (* x *)", -1}, {"program", "val x =", -1}, {"program", "val x = (* 1 *) \n", -1},
		{"program", "val", -1}, {"program", "fun f", -1}, {"program", "fun f x = 1 and", -1}, {"program", "datatype", -1}, {"program", "datatype 'a", -1}, {"program", "datatype t", -1}, {"program", "datatype t =", -1}, {"program", "datatype t = A |", -1}, {"program", "datatype t = A of", -1}, {"program", "exception", -1},
		{"exp", "~", -1}, {"exp", "(", -1}, {"exp", "(1", -1}, {"exp", "(1,", -1}, {"exp", "(1;", -1}, {"exp", "read", -1}, {"exp", "read (", -1}, {"exp", "let", -1}, {"exp", "let in 1", -1}, {"exp", "if a then b", -1}, {"exp", "case x", -1}, {"exp", "fn x", -1}, {"exp", "a +", -1}, {"exp", "a handle", -1}, {"exp", "a :=", -1}, {"exp", "!", -1}, {"exp", "raise", -1},
		{"pat", "x as", -1}, {"pat", "(x", -1}, {"pat", "~", -1}, {"ty", "int ->", -1}, {"ty", "int *", -1}, {"ty", "(int", -1}, {"ty", "(int, int)", -1},

		{"program", "1", 0}, {"program", "val x = 1 2 )", 12}, {"program", "val = 1", 4}, {"program", "val x as 1", -1}, {"program", "val x 1", 6}, {"program", "val A B C = 1", 8}, {"program", "val x = 1 = 2 = 3", 14}, {"program", "val x = f !y", 10}, {"program", "in", 0}, {"program", "val x = y;", 9},
		{"program", "fun f = 1", 6}, {"program", "fun f x y = 1", 8}, {"program", "fun f A x = 1", 8}, {"program", "fun f x as y = 1", 8}, {"program", "fun F x = 1", 4}, {"program", "fun f x = 1 and val", 16}, {"program", "val x = 1 and y = 2", 10},
		{"program", "fun f x = let datatype t = A in 1 end", 14}, {"program", "val x = let exception E in 1 end", 12}, {"program", "datatype T = A", 9}, {"program", "datatype t = a", 13}, {"program", "datatype t = A int", 15}, {"program", "datatype t = A of int | b", 24}, {"program", "datatype () t = A", 10}, {"program", "datatype 'a 'b t = A", 12}, {"program", "datatype ('a 'b) t = A", 13}, {"program", "exception E | F", 12}, {"program", "exception e", 10}, {"program", "datatype ref = A", 9},
		{"exp", "x := if", 5}, {"exp", "1 + fn x => x", 4}, {"exp", "a orelse raise b", 9}, {"exp", "a andalso case b of c => d", 10}, {"exp", "f fn x => x", 2}, {"exp", "f ref x", 2}, {"exp", "ref ref x", 4}, {"exp", "! !x", 2}, {"exp", "print !x", 6}, {"exp", "Some !x", 5}, {"exp", "Some ref x", 5}, {"exp", "a < b < c", 6}, {"exp", "a = b <> c", 6}, {"exp", "a < b handle x => y <= z = w", 25},
		{"exp", "(1, 2; 3)", 5}, {"exp", "(1; 2, 3)", 5}, {"exp", "(1,)", 3}, {"exp", "(1;)", 3}, {"exp", "(;1)", 1}, {"exp", "(1))", 3}, {"exp", "read 1", 5}, {"exp", "read (1)", 6}, {"exp", "read x", 5}, {"exp", "~ x", 2}, {"exp", "~~1", 1}, {"exp", "x ~ y", 4}, {"exp", "- 1", 0}, {"exp", "x as y", 2}, {"exp", "_", 0}, {"exp", "f _", 2}, {"exp", "x : int", 2}, {"exp", "fn x = 1", 5}, {"exp", "fn | x => 1", 3}, {"exp", "fn x => 1 | | y => 2", 12}, {"exp", "if a else b", 5}, {"exp", "if a then b; c", 11}, {"exp", "case x => y", 7}, {"exp", "a handle b", -1}, {"exp", "let val x = 1 end", 14}, {"exp", "let val x = 1 in 2; 3 end", 18}, {"exp", "let val x = 1; val y = 2 in 3 end", 13}, {"exp", "val x = 1", 0}, {"exp", "1 val x = 1", 2},
		{"pat", "A B C", 4}, {"pat", "x y", 2}, {"pat", "1 as x", 2}, {"pat", "A as x", 2}, {"pat", "A x as y", 4}, {"pat", "(x) as y", 4}, {"pat", "(x; y)", 2}, {"pat", "(x,)", 3}, {"pat", "x | y", 2}, {"pat", "~ ~1", 2}, {"pat", "ref x", 0}, {"pat", "f ()", 2}, {"pat", "_ as x", 2}, {"pat", "1 + 1", 2},
		{"ty", "ref", 0}, {"ty", "()", 1}, {"ty", "Int", 0}, {"ty", "int -> ref", 7}, {"ty", "(int, int) -> int", 11}, {"ty", "(int, int) 'a", 11}, {"ty", "int 'a", 4}, {"ty", "int, int", 3}, {"ty", "int (int)", 4}, {"ty", "int * * int", 6}, {"ty", "1", 0}, {"ty", "_", 0}, {"ty", "(int; int) t", 4},
	} {
		want := api.Bad{Kind: api.ErrEnd, At: len(x.s)}
		if x.at >= 0 {
			l, _ := lex.Scan(x.s)
			i := slices.IndexFunc(l, func(t api.Tok) bool { return t.At == x.at })
			want = api.Bad{Kind: api.ErrToken, At: x.at, Name: l[i].Text}
		}
		check(t, x.construct, x.s, "", want)
	}
}

func TestP602TypeVariables(t *testing.T) {
	for _, x := range []struct {
		construct, s string
		at           int
		name         string
	}{
		{"program", "datatype ('a, 'a) t = A", 14, "'a"}, {"program", "datatype ('a, 'b, 'a, 'b) t = A", 18, "'a"}, {"program", "datatype t = A of 'a", 18, "'a"}, {"program", "datatype 'a t = A of 'a | B of int * ('b, 'c) t", 38, "'b"},
		{"program", "datatype 'a t = A of 'a'", 21, "'a'"}, {"program", "exception E of 'a", 15, "'a"}, {"program", "datatype 'a t = A of 'a exception E of 'a", 39, "'a"}, {"program", "datatype 'a t = A of 'a datatype u = B of 'a", 42, "'a"}, {"program", "datatype 'a t = A of 'a datatype 'b u = B of 'b | C of 'a", 55, "'a"},
		{"program", "datatype 'a t = A of 'a val x = 'a", 32, "'a"}, {"program", "val 'a x = 1", 4, "'a"}, {"program", "fun 'a f x = 1", 4, "'a"}, {"program", "datatype t 'a = A", 11, "'a"}, {"program", "datatype 'a t = A 'a", 18, "'a"}, {"program", "'a", 0, "'a"},
		{"program", "val x = 1 datatype 'a t = A of 'b (* ) *) ) =", 31, "'b"}, {"program", "datatype ('a, 'a t = A", 14, "'a"},
		{"exp", "'a", 0, "'a"}, {"exp", "f 'a", 2, "'a"}, {"pat", "'a", 0, "'a"}, {"pat", "A 'a", 2, "'a"}, {"ty", "'a 'a", 3, "'a"}, {"ty", "int * 'a 'b", 9, "'b"},
	} {
		check(t, x.construct, x.s, "", api.Bad{Kind: api.ErrToken, At: x.at, Name: x.name})
	}
	check(t, "program", "datatype ('a, 'b) t = A of ('b * 'a, 'b) t datatype ('c, 'b, 'a) u = B of 'a * 'b * 'c", "(data@0 t 2 A@22:(t (* '1 '0) '1)) (data@43 u 3 B@69:(* '2 '1 '0))", api.Bad{})
}

func TestP602ErrorsOfTokensComeFirst(t *testing.T) {
	for _, x := range []struct {
		s    string
		kind api.Errno
		at   int
	}{
		{") ) 012", api.ErrNumber, 4}, {") (* ", api.ErrOpen, 2}, {"val = $", api.ErrSign, 6}, {"1073741824", api.ErrNumber, 0}, {"1 - 1073741824", api.ErrNumber, 4}, {") " + strings.Repeat("x", 33), api.ErrLong, 2},
		{strings.Repeat(" ", api.MaxText+1), api.ErrLong, 0}, {strings.Repeat(")", api.MaxToks+1), api.ErrLong, api.MaxToks},
	} {
		for construct := range calls {
			check(t, construct, x.s, "", api.Bad{Kind: x.kind, At: x.at})
		}
	}
}

func TestP602ErrorsOfTreesComeLast(t *testing.T) {
	for _, x := range []struct {
		construct, s string
		kind         api.Errno
		at           int
		name         string
	}{
		{"program", "val x = let in 1 end val", api.ErrEnd, 24, ""}, {"program", "val x = let in 1 end", api.ErrCount, 8, ""}, {"exp", "f let in 1 end", api.ErrCount, 2, ""}, {"exp", "(1,2,3,4,5,6,7,8,9)", api.ErrCount, 0, ""}, {"pat", "A (1,2,3,4,5,6,7,8,_)", api.ErrCount, 2, ""},
		{"exp", "(let in 1 end, fn (1,2,3,4,5,6,7,8,9) => 1)", api.ErrCount, 1, ""}, {"program", "val (1,2,3,4,5,6,7,8,9) = let in 1 end", api.ErrCount, 4, ""},
		{"program", "datatype t = true", api.ErrName, 13, "true"}, {"program", "exception false of int", api.ErrName, 10, "false"}, {"program", "datatype t = A of int | B of int int", api.ErrCount, 24, ""}, {"program", "exception E of ref ref", api.ErrToken, 15, "ref"}, {"program", "exception E of (int, int) ref", api.ErrCount, 10, ""}, {"program", "exception E of int * bool * int * int * int * int * int * int * int", api.ErrCount, 10, ""},
		{"program", "datatype ('a,'b,'c,'d,'e,'f,'g,'h,'i) t = A", api.ErrCount, 0, ""}, {"program", "val x = 1 datatype t = A" + strings.Repeat("|A", 64), api.ErrCount, 10, ""}, {"program", "datatype t = A of (int,int,int,int,int,int,int,int,int) t", api.ErrCount, 13, ""},
	} {
		check(t, x.construct, x.s, "", api.Bad{Kind: x.kind, At: x.at, Name: x.name})
	}
}

func TestP602Limits(t *testing.T) {
	for _, x := range []struct {
		construct, first, repeated, last string
		times                            int // how often the repeated part fits
		kind                             api.Errno
	}{
		{"exp", "", "raise ", "1", api.MaxDeep - 1, api.ErrDeep}, {"exp", "1", " + 1", "", api.MaxDeep - 1, api.ErrDeep}, {"exp", "f", " x", "", api.MaxDeep - 1, api.ErrDeep}, {"exp", "", "x := ", "1", api.MaxDeep - 1, api.ErrDeep},
		{"pat", "", "x as ", "_", api.MaxDeep - 1, api.ErrDeep}, {"program", "val x = ", "raise ", "1", api.MaxDeep - 2, api.ErrDeep}, {"program", "val ", "x as ", "_ = 1", api.MaxDeep - 2, api.ErrDeep}, {"program", "datatype t = A of int", " t", "", api.MaxDeep - 2, api.ErrDeep},
		{"program", "", "val A B = 1 ", "", api.MaxSize / 4, api.ErrLong}, {"exp", "(1", "; f x y", ")", (api.MaxSize - 2) / 5, api.ErrLong},
	} {
		s := x.first + strings.Repeat(x.repeated, x.times) + x.last
		if made, bad := calls[x.construct](s); bad != (api.Bad{}) || tell(made) == "" {
			t.Error(x.construct, short(s), "gives", bad)
		}
		check(t, x.construct, x.first+strings.Repeat(x.repeated, x.times+1)+x.last, "", api.Bad{Kind: x.kind})
	}
	deep := strings.Repeat("raise ", 200)
	check(t, "exp", deep+"let in 1 end", "", api.Bad{Kind: api.ErrDeep})
	check(t, "exp", "(1"+strings.Repeat("; f x y", 1700)+"; "+deep+"1)", "", api.Bad{Kind: api.ErrLong})
	check(t, "exp", deep+"(1"+strings.Repeat("; f x y", 1700)+")", "", api.Bad{Kind: api.ErrLong})
	check(t, "exp", deep+")", "", api.Bad{Kind: api.ErrToken, At: len(deep), Name: ")"})
}

func TestP602TypesOnTheirOwnAreNotChecked(t *testing.T) {
	const levels = api.MaxToks/2 - 1
	for _, x := range []struct{ s, want string }{
		{"int int", "(int int)"}, {"(int, 'a, 'b) int ref", "(ref (int int '0 '1))"}, {"(int" + strings.Repeat(", 'a", 20) + ") ref", "(ref int" + strings.Repeat(" '0", 20) + ")"},
		{"int" + strings.Repeat(" t", levels), strings.Repeat("(t ", levels) + "int" + strings.Repeat(")", levels)}, {strings.Repeat("int->", levels) + "int", strings.Repeat("(-> int ", levels) + "int" + strings.Repeat(")", levels)},
		{strings.Repeat("(", levels) + "int" + strings.Repeat(")", levels), "int"}, {"int" + strings.Repeat("*int", levels), "(* int" + strings.Repeat(" int", levels) + ")"},
	} {
		check(t, "ty", x.s, x.want, api.Bad{})
	}
}

// alphabet: a token of each kind and with each meaning.
func alphabet() []string {
	return slices.Concat([]string{"x", "f'", "A", "true", "7", "'a", "'b"}, lex.Words(), lex.Signs())
}

// TestP602EachTokenBehindEachBeginning holds the calls against the grammar: on all tokens that can follow, and all that cannot.
func TestP602EachTokenBehindEachBeginning(t *testing.T) {
	g, told := theGrammar(), 0
	var visit func(construct, s string, tokens []api.Tok, c chart, more int)
	visit = func(construct, s string, tokens []api.Tok, c chart, more int) {
		_, bad := calls[construct](s)
		if g.isWhole(c, construct) == isOfGrammar(bad) || isOfGrammar(bad) && bad != (api.Bad{Kind: api.ErrEnd, At: len(s)}) {
			t.Fatalf("%s %q gives %v", construct, s, bad)
		}
		if more == 0 {
			return
		}
		for _, text := range alphabet() {
			l, _ := lex.Scan(text)
			l[0].At = len(s)
			longer := s + text + " "
			next := g.after(c, terminal(l[0]))
			all := append(tokens[:len(tokens):len(tokens)], l[0])
			if next != nil && !(construct == "program" && isForbidden(all)) {
				visit(construct, longer, all, next, more-1)
				continue
			}
			told++
			for _, behind := range []string{"", "1 ", ") (", "val x = 'a"} {
				check(t, construct, longer+behind, "", api.Bad{Kind: api.ErrToken, At: len(s), Name: text})
			}
		}
	}
	for _, x := range []struct {
		construct, s string
		more         int
	}{
		{"program", "", 4}, {"exp", "", 3}, {"pat", "", 5}, {"ty", "", 5},
		{"program", "datatype ( 'a , 'b ) t = A of ", 3}, {"program", "datatype 'a t = A of 'a exception E ", 3}, {"program", "val x = 1 ", 3}, {"program", "fun f x = 1 ", 3}, {"program", "fun f x = let val y = 2 ", 2},
		{"exp", "x handle y => z ", 2}, {"exp", "a handle x => b = c ", 2}, {"exp", "case x of A => y ", 2}, {"exp", "fn x => case y of z => w ", 2}, {"exp", "if x then y ", 2}, {"exp", "if x then y else z ", 2}, {"exp", "x = y ", 2}, {"exp", "x + y * z ", 2}, {"exp", "x := y ", 2}, {"exp", "ref x ", 2}, {"exp", "A x ", 2}, {"exp", "f A ", 2},
		{"exp", "( x , y ", 2}, {"exp", "( x ; y ", 2}, {"exp", "( fn x => y ", 2}, {"exp", "let val x = y ", 2}, {"exp", "let fun f x = y ", 2}, {"exp", "let in x ", 2}, {"exp", "raise x ", 2}, {"exp", "x andalso y ", 2}, {"exp", "x orelse y ", 2}, {"exp", "read ( ) ", 2}, {"exp", "~ ", 2}, {"exp", "fn ( x , ", 2}, {"exp", "case x of A ", 2},
		{"pat", "A ( x ", 3}, {"pat", "( x , y ", 3}, {"pat", "x as y ", 3}, {"ty", "( int , 'a ", 3}, {"ty", "( int , 'a ) ", 3}, {"ty", "int -> 'a ", 3},
	} {
		tokens, _ := lex.Scan(x.s)
		c := g.start(x.construct)
		for _, tok := range tokens {
			c = g.after(c, terminal(tok))
		}
		visit(x.construct, x.s, tokens, c, x.more)
	}
	if told == 0 {
		t.Error("no token was refused")
	}
}

// made is a text that was made up, what it says, and what is wrong with that.
type made struct {
	construct, s string
	want         any
	bad          api.Bad
}

// madeUp: many texts of all constructs.
func madeUp(n, odd int) []made {
	var l []made
	for i := range uint32(n) {
		w := &writer{last: 4 * i, odd: odd}
		p := w.program()
		l = append(l, made{"program", string(w.text) + w.gap(), p, tree.Right(p)})
		w = &writer{last: 4*i + 1, odd: odd}
		e := w.exp(spot{}, 5)
		l = append(l, made{"exp", string(w.text) + w.gap(), e, tree.RightExp(e)})
		w = &writer{last: 4*i + 2, odd: odd}
		x := w.pat(false, 4)
		l = append(l, made{"pat", string(w.text) + w.gap(), x, tree.RightPat(x)})
		w = &writer{last: 4*i + 3, odd: odd, vars: map[string]int{}, open: true}
		l = append(l, made{"ty", "", w.ty(0, 4), api.Bad{}})
		l[len(l)-1].s = string(w.text) + w.gap()
	}
	return l
}

// nothing: what is returned beside an error.
func nothing(x any) any { return reflect.Zero(reflect.TypeOf(x)).Interface() }

func TestP603P604MadeUpTexts(t *testing.T) {
	for _, odd := range []int{0, 30} {
		rights, wrongs := 0, 0
		for _, x := range madeUp(3000, odd) {
			got, bad := calls[x.construct](x.s)
			want := x.want
			if x.bad != (api.Bad{}) {
				want = nothing(want)
				wrongs++
			} else {
				rights++
			}
			if bad != x.bad || !reflect.DeepEqual(got, want) {
				t.Fatalf("%s %q gives\n%s, %v and not\n%s, %v", x.construct, x.s, tell(got), bad, tell(want), x.bad)
			}
		}
		if rights == 0 || wrongs == 0 {
			t.Error(rights, "texts without and", wrongs, "with errors were made up")
		}
	}
}

// spoilt: the texts with a token left out, doubled, or replaced, and texts without sense.
func spoilt(l []made) []made {
	w, tokens := &writer{}, alphabet()
	var spoilt []made
	for _, x := range l {
		all, _ := lex.Scan(x.s)
		for range min(len(all), 6) {
			tok := all[w.below(len(all))]
			end, other := tok.At+len(tok.Text), tokens[w.below(len(tokens))]
			for _, between := range []string{" ", " " + tok.Text + " " + tok.Text + " ", " " + other + " ", " " + tok.Text + " " + other + " "} {
				spoilt = append(spoilt, made{construct: x.construct, s: x.s[:tok.At] + between + x.s[end:]})
			}
		}
		s := ""
		for range w.below(12) {
			s += tokens[w.below(len(tokens))] + " "
		}
		spoilt = append(spoilt, made{construct: x.construct, s: s})
	}
	return spoilt
}

func TestP602SpoiltTexts(t *testing.T) {
	g, kinds := theGrammar(), map[api.Errno]int{}
	for _, x := range spoilt(madeUp(100, 30)) {
		_, bad := calls[x.construct](x.s)
		want := g.fault(x.construct, x.s)
		if want != bad && (want != (api.Bad{}) || isOfGrammar(bad)) {
			t.Fatalf("%s %q gives %v and not %v", x.construct, x.s, bad, want)
		}
		kinds[want.Kind]++
	}
	if kinds[api.OK] == 0 || kinds[api.ErrToken] == 0 || kinds[api.ErrEnd] == 0 {
		t.Error("the errors of the texts are", kinds)
	}
}

// respaced: the same tokens with other gaps, and their offsets.
func respaced(s string, seed uint32) (string, []int) {
	all, _ := lex.Scan(s)
	w, at := &writer{last: seed}, []int{}
	for _, tok := range all {
		at = append(at, w.token(tok.Text))
	}
	return string(w.text) + w.gap(), at
}

// moved: puts the offsets of tokens of one text in place of those of another one, in all places of a tree or an error.
func moved(v reflect.Value, to map[int]int) {
	switch v.Kind() {
	case reflect.Struct:
		if at := v.FieldByName("At"); at.IsValid() {
			at.SetInt(int64(to[int(at.Int())]))
		}
		for i := range v.NumField() {
			moved(v.Field(i), to)
		}
	case reflect.Slice:
		for i := range v.Len() {
			moved(v.Index(i), to)
		}
	}
}

func TestP605WhiteSpaceChangesOnlyOffsets(t *testing.T) {
	texts := madeUp(500, 30)
	for i, x := range append(texts, spoilt(texts[:400])...) {
		all, bad := lex.Scan(x.s)
		if bad != (api.Bad{}) { // a 1073741824 that has lost its ~
			continue
		}
		s, at := respaced(x.s, uint32(i))
		to := map[int]int{len(x.s): len(s)}
		for i, tok := range all {
			to[tok.At] = at[i]
		}
		got, bad := calls[x.construct](x.s)
		other, otherBad := calls[x.construct](s)
		box := reflect.New(reflect.TypeOf(got))
		box.Elem().Set(reflect.ValueOf(got))
		if bad == (api.Bad{}) {
			moved(box.Elem(), to)
		}
		if bad.Kind != api.OK && bad.Kind != api.ErrLong && bad.Kind != api.ErrDeep {
			bad.At = to[bad.At]
		}
		if got = box.Elem().Interface(); bad != otherBad || !reflect.DeepEqual(got, other) {
			t.Fatalf("%s %q gives\n%s, %v but %q gives\n%s, %v", x.construct, x.s, tell(got), bad, s, tell(other), otherBad)
		}
	}
	for _, s := range []string{"", " \n", "(* (* *) *)\r\n\t"} {
		if l, bad := read.Program(s); len(l) > 0 || bad != (api.Bad{}) {
			t.Errorf("program %q gives %v, %v", s, l, bad)
		}
	}
}

func TestP605WithoutTheLastToken(t *testing.T) {
	for _, x := range madeUp(120, 0) {
		for s := x.s; ; {
			got, bad := calls[x.construct](s)
			all, _ := lex.Scan(s)
			if len(all) == 0 {
				break
			}
			s = s[:all[len(all)-1].At]
			less, lessBad := calls[x.construct](s)
			if bad == (api.Bad{}) && lessBad == (api.Bad{}) && tell(less) == tell(got) {
				t.Fatalf("%s %q gives the same without its last token", x.construct, s)
			}
			if lessBad.Kind == api.ErrToken {
				t.Fatalf("%s %q gives %v, but more tokens give no error", x.construct, s, lessBad)
			}
		}
	}
}

// hard: texts that are as long or as deep as texts can be, and longer, and ones that are no programs.
func hard() []string {
	l := []string{"\x00", "\xff\xfe", "é", "val x = \"s\"", "(*", "*)", "'", strings.Repeat("(*", 30000) + strings.Repeat("*)", 30000), strings.Repeat("x", 100000), strings.Repeat("a ", 20000), strings.Repeat("'a ", 9000)}
	for _, part := range []string{"(", "(1,", "(1;", "( ;", "f(", "~", "!(", "ref(", "A(", "raise ", "fn x=>", "fn(", "fn A(", "if ", "if x then ", "if x then y else ", "case ", "case x of y=>", "let val x=", "let val x=1 in ", "let fun f x=", "x:=", "x handle y=>", "x orelse ", "x andalso ", "x=", "x+", "x*(", "x ",
		"x as ", "(x as ", "A ", "int->", "int*", "(int,", "int ref ", "('a,", "val x=1", "val x=", "val ", "fun f x=", "datatype t=A", "datatype('a,", "datatype t=A of(", "exception E of ", "|", "and ", "of ", "1 ", "handle x=>"} {
		for _, n := range []int{3, 120, 5000, api.MaxToks, api.MaxText/len(part) + 1} {
			l = append(l, strings.Repeat(part, n))
		}
	}
	for _, pair := range [][2]string{{"(", ")"}, {"(1,", ")"}, {"(1;", ")"}, {"f(", ")"}, {"~(", ")"}, {"let val x=1 in ", " end"}, {"(int->", ")"}, {"A(", ")"}, {"(", ",1)"}} {
		for _, n := range []int{10, 2000, 4000, 8191} {
			l = append(l, strings.Repeat(pair[0], n)+"x"+strings.Repeat(pair[1], n), "val x = "+strings.Repeat(pair[0], n)+"x"+strings.Repeat(pair[1], n))
		}
	}
	numbered := "datatype ("
	for i := range 8000 {
		numbered += "'a" + strings.Repeat("b", i%16) + string(rune('a'+i/16%26)) + string(rune('a'+i/16/26)) + ","
	}
	return append(l, numbered, strings.ReplaceAll(strings.TrimPrefix(numbered, "datatype ("), ",", "*")+"int")
}

func TestP601NoCallPanics(t *testing.T) {
	for _, s := range hard() {
		for construct, call := range calls {
			got, bad := call(s)
			if bad != (api.Bad{}) && tell(got) != "" {
				t.Errorf("%s %q gives %v beside %v", construct, short(s), got, bad)
			}
			if bad.Kind == api.ErrEnd && (bad.At != len(s) || bad.Name != "") || bad.Kind == api.ErrToken && !strings.HasPrefix(s[bad.At:], bad.Name) {
				t.Errorf("%s %q gives %v", construct, short(s), bad)
			}
		}
	}
	const n = 8191
	for construct, call := range calls {
		if got, bad := call("val x = " + strings.Repeat("(", n-2) + "1" + strings.Repeat(")", n-2)); construct == "program" && (bad != (api.Bad{}) || tell(got) == "") {
			t.Error("a number between", n-2, "parentheses gives", bad)
		}
	}
}

func TestP601CallsArePure(t *testing.T) {
	texts := madeUp(150, 30)
	var first []string
	for _, x := range texts {
		got, bad := calls[x.construct](x.s)
		first = append(first, tell(got))
		if bad != x.bad {
			t.Fatal(x.construct, x.s, "gives", bad)
		}
		box := reflect.New(reflect.TypeOf(got)).Elem()
		box.Set(reflect.ValueOf(got))
		if !isDisjoint(box) {
			t.Fatal(x.construct, x.s, "gives two lists that share memory")
		}
		scribble(box)
	}
	for i, x := range slices.Backward(texts) {
		if got, bad := calls[x.construct](x.s); bad != x.bad || tell(got) != first[i] {
			t.Fatal("an earlier call changed the result for", x.construct, x.s, "to", tell(got), bad)
		}
	}
}

// lists: all slices inside a value, the innermost first.
func lists(v reflect.Value) []reflect.Value {
	var l []reflect.Value
	switch v.Kind() {
	case reflect.Struct:
		for i := range v.NumField() {
			l = append(l, lists(v.Field(i))...)
		}
	case reflect.Slice:
		for i := range v.Len() {
			l = append(l, lists(v.Index(i))...)
		}
		l = append(l, v)
	}
	return l
}

// scribble: empties all slices inside a value, and the room behind them.
func scribble(v reflect.Value) {
	for _, list := range lists(v) {
		for i := range list.Cap() {
			list.Slice(0, list.Cap()).Index(i).SetZero()
		}
	}
}

// isDisjoint: has each slice inside a value memory of its own, also behind its end?
func isDisjoint(v reflect.Value) bool {
	type room struct{ from, to uintptr }
	var l []room
	for _, list := range lists(v) {
		if list.Cap() > 0 {
			l = append(l, room{list.Pointer(), list.Pointer() + uintptr(list.Cap())*list.Type().Elem().Size()})
		}
	}
	slices.SortFunc(l, func(a, b room) int { return cmp.Compare(a.from, b.from) })
	for i := 1; i < len(l); i++ {
		if l[i].from < l[i-1].to {
			return false
		}
	}
	return true
}
