package show_test

import "camlet/api"

// The functions of this file make trees: of forms with holes, which are put into each other in all ways.

// form is a tree with holes for others of its sort.
type form[T any] struct {
	holes int
	make  func(kids []T) T
}

func num(n int) api.Exp { return api.Exp{Kind: api.ExInt, N: n} }

func name(s string) api.Exp { return api.Exp{Kind: api.ExVar, Name: s} }

func con(s string, kids ...api.Exp) api.Exp { return api.Exp{Kind: api.ExCon, Name: s, Kids: kids} }

func node(kind api.ExpKind, kids ...api.Exp) api.Exp { return api.Exp{Kind: kind, Kids: kids} }

func op(p api.Prim, a, b api.Exp) api.Exp {
	return api.Exp{Kind: api.ExOp, N: int(p), Kids: []api.Exp{a, b}}
}

func let(body api.Exp, decs ...api.Dec) api.Exp {
	return api.Exp{Kind: api.ExLet, Decs: decs, Kids: []api.Exp{body}}
}

func cased(kind api.ExpKind, kids []api.Exp, cases ...api.Case) api.Exp {
	return api.Exp{Kind: kind, Kids: kids, Cases: cases}
}

func of(x api.Pat, e api.Exp) api.Case { return api.Case{Pat: x, Exp: e} }

func val(x api.Pat, e api.Exp) api.Dec {
	return api.Dec{Kind: api.DcVal, Case: []api.Case{of(x, e)}}
}

func fun(l ...api.Fun) api.Dec { return api.Dec{Kind: api.DcFun, Funs: l} }

func wild() api.Pat { return api.Pat{Kind: api.PaAny} }

func pint(n int) api.Pat { return api.Pat{Kind: api.PaInt, N: n} }

func pvar(s string) api.Pat { return api.Pat{Kind: api.PaVar, Name: s} }

func pcon(s string, kids ...api.Pat) api.Pat { return api.Pat{Kind: api.PaCon, Name: s, Kids: kids} }

func tuple(kids ...api.Pat) api.Pat { return api.Pat{Kind: api.PaTuple, Kids: kids} }

func as(s string, x api.Pat) api.Pat {
	return api.Pat{Kind: api.PaAs, Name: s, Kids: []api.Pat{x}}
}

func tv(n int) api.Ty { return api.Ty{Kind: api.TyVar, N: n} }

func tc(s string, args ...api.Ty) api.Ty { return api.Ty{Kind: api.TyCon, Name: s, Args: args} }

func data(s string, params int, cons ...api.Con) api.Dec {
	return api.Dec{Kind: api.DcData, Name: s, Params: params, Cons: cons}
}

func exn(c api.Con) api.Dec { return api.Dec{Kind: api.DcExn, Cons: []api.Con{c}} }

func expForms() []form[api.Exp] {
	type exps = []api.Exp
	l := []form[api.Exp]{
		{0, func(exps) api.Exp { return name("x") }}, {0, func(exps) api.Exp { return num(7) }}, {0, func(exps) api.Exp { return num(-7) }},
		{0, func(exps) api.Exp { return con("A") }}, {0, func(exps) api.Exp { return con("()") }}, {0, func(exps) api.Exp { return node(api.ExRead) }},
		{1, func(k exps) api.Exp { return con("B", k...) }}, {1, func(k exps) api.Exp { return con("true", k...) }},
		{3, func(k exps) api.Exp { return node(api.ExTuple, k...) }}, {3, func(k exps) api.Exp { return node(api.ExSeq, k...) }}, {3, func(k exps) api.Exp { return node(api.ExIf, k...) }},
		{3, func(k exps) api.Exp {
			return cased(api.ExFn, nil, of(wild(), k[0]), of(pvar("y"), k[1]), of(as("z", pcon("A", wild())), k[2]))
		}},
		{1, func(k exps) api.Exp { return cased(api.ExFn, nil, of(pcon("A", pint(1)), k[0])) }},
		{3, func(k exps) api.Exp { return cased(api.ExCase, k[:1], of(pint(-1), k[1]), of(wild(), k[2])) }},
		{3, func(k exps) api.Exp { return cased(api.ExTry, k[:1], of(pcon("Div"), k[1]), of(wild(), k[2])) }},
		{3, func(k exps) api.Exp {
			return let(k[2], val(wild(), k[0]), fun(api.Fun{Name: "f", Case: of(pvar("y"), k[1])}))
		}},
		{2, func(k exps) api.Exp {
			return let(name("f"), fun(api.Fun{Name: "f", Case: of(pcon("A", wild()), k[0])}, api.Fun{Name: "g'", Case: of(tuple(wild(), wild()), k[1])}))
		}},
	}
	for _, kind := range []api.ExpKind{api.ExRaise, api.ExRef, api.ExGet, api.ExPrint} {
		l = append(l, form[api.Exp]{1, func(k exps) api.Exp { return node(kind, k...) }})
	}
	for _, kind := range []api.ExpKind{api.ExApp, api.ExSet, api.ExAnd, api.ExOr} {
		l = append(l, form[api.Exp]{2, func(k exps) api.Exp { return node(kind, k...) }})
	}
	for p := api.PrAdd; p <= api.PrLe; p++ {
		l = append(l, form[api.Exp]{2, func(k exps) api.Exp { return op(p, k[0], k[1]) }})
	}
	return l
}

func patForms() []form[api.Pat] {
	type pats = []api.Pat
	return []form[api.Pat]{
		{0, func(pats) api.Pat { return pvar("x") }}, {0, func(pats) api.Pat { return wild() }}, {0, func(pats) api.Pat { return pint(3) }}, {0, func(pats) api.Pat { return pint(-3) }},
		{0, func(pats) api.Pat { return pcon("A") }}, {0, func(pats) api.Pat { return pcon("()") }}, {1, func(k pats) api.Pat { return pcon("B", k...) }},
		{2, func(k pats) api.Pat { return tuple(k...) }}, {3, func(k pats) api.Pat { return tuple(k...) }}, {1, func(k pats) api.Pat { return as("y", k[0]) }},
	}
}

func tyForms() []form[api.Ty] {
	type types = []api.Ty
	return []form[api.Ty]{
		{0, func(types) api.Ty { return tv(0) }}, {0, func(types) api.Ty { return tc("int") }}, {0, func(types) api.Ty { return tc("t") }}, {0, func(types) api.Ty { return tv(2) }},
		{1, func(k types) api.Ty { return tc("ref", k...) }}, {1, func(k types) api.Ty { return tc("list", k...) }}, {2, func(k types) api.Ty { return tc("t", k...) }}, {3, func(k types) api.Ty { return tc("ofs'", k...) }},
		{2, func(k types) api.Ty { return tc("->", k...) }}, {2, func(k types) api.Ty { return tc("*", k...) }}, {3, func(k types) api.Ty { return tc("*", k...) }},
	}
}

// filled: a form with one kid, and the first form in its other holes.
func filled[T any](forms []form[T], f form[T], hole int, kid T) T {
	var kids []T
	for i := range f.holes {
		kids = append(kids, forms[0].make(nil))
		if i == hole {
			kids[i] = kid
		}
	}
	return f.make(kids)
}

// nested: all forms inside each other, so deep, with one kid at most that is no leaf.
func nested[T any](forms []form[T], deep int) []T {
	var l, kids []T
	if deep > 1 {
		kids = nested(forms, deep-1)
	}
	for _, f := range forms {
		if f.holes == 0 || deep == 1 {
			l = append(l, filled(forms, f, -1, forms[0].make(nil)))
			continue
		}
		for hole := range f.holes {
			for _, kid := range kids {
				l = append(l, filled(forms, f, hole, kid))
			}
		}
	}
	return l
}

// row is a row of numbers that look mixed, the same at each run of the tests.
type row struct{ last uint32 }

func (r *row) below(n int) int {
	r.last = r.last*1664525 + 1013904223
	return int(r.last>>8) % n
}

// mixed: forms with different kids in all holes.
func mixed[T any](r *row, forms []form[T], deep int) T {
	f := forms[r.below(len(forms))]
	if deep < 2 {
		for f.holes > 0 {
			f = forms[r.below(len(forms))]
		}
	}
	var kids []T
	for range f.holes {
		kids = append(kids, mixed(r, forms, deep-1))
	}
	return f.make(kids)
}

// mixedProgram: declarations of all kinds.
func mixedProgram(r *row) []api.Dec {
	var l []api.Dec
	newCon := func() api.Con {
		c := api.Con{Name: []string{"A", "Some", "B_'1"}[r.below(3)], At: r.below(9)}
		if r.below(3) > 0 {
			c.Has, c.Arg = true, mixed(r, tyForms(), 4)
		}
		return c
	}
	newFun := func() api.Fun {
		return api.Fun{Name: []string{"f", "g'", "_h"}[r.below(3)], At: r.below(9), Case: of(mixed(r, patForms(), 3), mixed(r, expForms(), 4))}
	}
	for range r.below(5) {
		switch r.below(4) {
		case 0:
			l = append(l, val(mixed(r, patForms(), 4), mixed(r, expForms(), 4)))
		case 1:
			funs := []api.Fun{newFun()}
			for range r.below(3) {
				funs = append(funs, newFun())
			}
			l = append(l, fun(funs...))
		case 2:
			cons := []api.Con{newCon()}
			for range r.below(3) {
				cons = append(cons, newCon())
			}
			l = append(l, data("t", 3+r.below(6), cons...))
		case 3:
			c := newCon()
			c.Arg = withoutVars(c.Arg)
			l = append(l, exn(c))
		}
	}
	return l
}

// withoutVars: a type with unit in the place of each variable.
func withoutVars(t api.Ty) api.Ty {
	if t.Kind == api.TyVar {
		return tc("unit")
	}
	var args []api.Ty
	for _, arg := range t.Args {
		args = append(args, withoutVars(arg))
	}
	t.Args = args
	return t
}
