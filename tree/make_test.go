package tree_test

import (
	"math"
	"reflect"
	"slices"
	"strings"

	"camlet/api"
)

const keywords = "and andalso as case datatype div else end exception fn fun handle if in let mod of orelse print raise read ref then val"

// unit, wild and val: an expression, a pattern and a declaration in which nothing is wrong.
var (
	unit = api.Exp{Kind: api.ExCon, Name: "()"}
	wild = api.Pat{Kind: api.PaAny}
	val  = api.Dec{Kind: api.DcVal, Case: []api.Case{{Pat: wild, Exp: unit}}}
)

// many: a slice with an element several times.
func many[E any](n int, x E) []E { return slices.Repeat([]E{x}, n) }

func dec(at int, pat api.Pat, exp api.Exp) api.Dec {
	return api.Dec{Kind: api.DcVal, At: at, Case: []api.Case{{Pat: pat, Exp: exp}}}
}

// valOf: a program of an expression.
func valOf(e api.Exp) []api.Dec { return []api.Dec{dec(0, wild, e)} }

// data: a program of a datatype with a constructor of an argument.
func data(at int, arg api.Ty) []api.Dec {
	return []api.Dec{{Kind: api.DcData, Name: "t", Params: 1, Cons: []api.Con{{Name: "C", At: at, Has: true, Arg: arg}}}}
}

func exp(kind api.ExpKind, at int, kids ...api.Exp) api.Exp {
	return api.Exp{Kind: kind, At: at, Kids: kids}
}

func number(at, n int) api.Exp { return api.Exp{Kind: api.ExInt, At: at, N: n} }

func name(at int, s string) api.Exp { return api.Exp{Kind: api.ExVar, At: at, Name: s} }

func pat(kind api.PatKind, at int, s string, kids ...api.Pat) api.Pat {
	return api.Pat{Kind: kind, At: at, Name: s, Kids: kids}
}

func ty(s string, args ...api.Ty) api.Ty { return api.Ty{Kind: api.TyCon, Name: s, Args: args} }

// sample: a valid program of all kinds of nodes, whose At rises in the order in which they are checked. It is new memory at each call.
func sample() []api.Dec {
	types := api.Dec{Kind: api.DcData, At: 1, Name: "tree'", Params: 2, Cons: []api.Con{
		{Name: "Leaf", At: 2},
		{Name: "Node", At: 3, Has: true, Arg: ty("*", ty("int"), ty("bool"), ty("unit"), ty("exn"), ty("->", ty("ref", api.Ty{Kind: api.TyVar}), ty("tree'", ty("_t"), api.Ty{Kind: api.TyVar, N: 1})))},
		{Name: "Last", At: 4, Has: true, Arg: api.Ty{Kind: api.TyVar, N: 7}},
	}}
	exception := api.Dec{Kind: api.DcExn, At: 5, Cons: []api.Con{{Name: "Bad'", At: 6, Has: true, Arg: ty("int")}}}
	pattern := pat(api.PaAs, 8, "all", pat(api.PaTuple, 9, "", pat(api.PaCon, 10, "Node", pat(api.PaVar, 11, "x")), pat(api.PaCon, 12, "()"), api.Pat{Kind: api.PaInt, At: 13, N: -1 << 30}, pat(api.PaAny, 14, "")))
	value := exp(api.ExTuple, 15, exp(api.ExApp, 16, name(17, "f"), api.Exp{Kind: api.ExCon, At: 18, Name: "Some", Kids: []api.Exp{number(19, 1<<30-1)}}),
		exp(api.ExIf, 20, exp(api.ExAnd, 21, api.Exp{Kind: api.ExCon, At: 22, Name: "true"}, exp(api.ExOr, 23, name(24, "a"), name(25, "b"))), exp(api.ExRead, 26), exp(api.ExGet, 27, exp(api.ExRef, 28, number(29, 0)))),
		exp(api.ExSeq, 30, exp(api.ExSet, 31, name(32, "_r"), number(33, -5)), exp(api.ExPrint, 34, number(35, 3)), exp(api.ExRaise, 36, name(37, "e"))))
	funs := api.Dec{Kind: api.DcFun, At: 38, Funs: []api.Fun{
		{Name: "even", At: 39, Case: api.Case{Pat: pat(api.PaVar, 40, "n"), Exp: api.Exp{Kind: api.ExFn, At: 41, Cases: []api.Case{{Pat: pat(api.PaAny, 42, ""), Exp: name(43, "odd")}, {Pat: pat(api.PaVar, 44, "y"), Exp: name(45, "y")}}}}},
		{Name: "odd", At: 46, Case: api.Case{Pat: pat(api.PaVar, 47, "m"), Exp: api.Exp{Kind: api.ExOp, At: 48, N: int(api.PrLe), Kids: []api.Exp{name(49, "m"), number(50, 9)}}}},
	}}
	let := api.Exp{Kind: api.ExLet, At: 53,
		Decs: []api.Dec{dec(54, pat(api.PaVar, 55, "z"), number(56, 1)), {Kind: api.DcFun, At: 57, Funs: []api.Fun{{Name: "g", At: 58, Case: api.Case{Pat: pat(api.PaAny, 59, ""), Exp: name(60, "z")}}}}},
		Kids: []api.Exp{{Kind: api.ExCase, At: 61, Kids: []api.Exp{{Kind: api.ExTry, At: 62, Kids: []api.Exp{name(63, "z")}, Cases: []api.Case{{Pat: pat(api.PaCon, 64, "Div"), Exp: number(65, 2)}}}}, Cases: []api.Case{{Pat: pat(api.PaVar, 66, "w"), Exp: name(67, "w")}}}}}
	return []api.Dec{types, exception, dec(7, pattern, value), funs, dec(51, pat(api.PaAny, 52, ""), let)}
}

// sampleSize: the nodes of the sample: what has a place, without the 4 constructors and 3 functions, and 13 nodes of types.
const sampleSize = 67 - 4 - 3 + 13

// gather: pointers to everything with fields inside a program or a part of one, each before those inside it.
func gather(p any) []any {
	var l []any
	var visit func(v reflect.Value)
	visit = func(v reflect.Value) {
		switch v.Kind() {
		case reflect.Struct:
			l = append(l, v.Addr().Interface())
			for i := range v.NumField() {
				visit(v.Field(i))
			}
		case reflect.Slice:
			for i := range v.Len() {
				visit(v.Index(i))
			}
		}
	}
	visit(reflect.ValueOf(p).Elem())
	return l
}

// places: pointers to all places in a program.
func places(p []api.Dec) []*int {
	var l []*int
	for _, x := range gather(&p) {
		if at := reflect.ValueOf(x).Elem().FieldByName("At"); at.IsValid() {
			l = append(l, at.Addr().Interface().(*int))
		}
	}
	return l
}

// copyOf: the same program or part of one in new memory, but with room for two more elements behind its slices.
func copyOf[T any](x T) T {
	var of func(to, from reflect.Value)
	of = func(to, from reflect.Value) {
		to.Set(from)
		switch from.Kind() {
		case reflect.Struct:
			for i := range from.NumField() {
				of(to.Field(i), from.Field(i))
			}
		case reflect.Slice:
			n := from.Len()
			if from.IsNil() {
				return
			}
			l := reflect.MakeSlice(from.Type(), n+2, n+2)
			for i := range n {
				of(l.Index(i), from.Index(i))
			}
			to.Set(l.Slice(0, n))
		}
	}
	var made T
	of(reflect.ValueOf(&made).Elem(), reflect.ValueOf(&x).Elem())
	return made
}

// maker makes trees of any form out of a row of numbers that is the same at each run of the tests.
type maker struct {
	last uint32
	odd  int // one choice in so many goes wrong; 0: none
}

func (m *maker) below(n int) int {
	m.last = m.last*1664525 + 1013904223
	return int(m.last>>8) % n
}

func (m *maker) wrong() bool { return m.odd > 0 && m.below(m.odd) == 0 }

// astray: does a node get parts that it should not have? Those at the end of a tree get none, so that the tree ends.
func (m *maker) astray(deep int) bool { return deep > 0 && m.wrong() }

// pick: one of some texts, or one that is wrong in most places.
func (m *maker) pick(l ...string) string {
	if m.wrong() {
		l = []string{"", "_", "val", "true", "x", "X", "()", "9"}
	}
	return l[m.below(len(l))]
}

// count: a number within bounds, or one that may be outside of them.
func (m *maker) count(least, most int) int {
	if m.wrong() {
		return m.below(11)
	}
	return least + m.below(most-least+1)
}

func (m *maker) number() int {
	if m.wrong() {
		return []int{1 << 30, -1<<30 - 1, math.MaxInt, math.MinInt}[m.below(4)]
	}
	return m.below(1<<31) - 1<<30
}

func (m *maker) kind(n int) int {
	if m.wrong() {
		return m.below(n+3) - 1
	}
	return 1 + m.below(n)
}

// list: as many elements as there may be, in a slice that is nil, empty, or longer than its elements.
func list[E any](m *maker, least, most int, make func() E) []E {
	var l []E
	if m.below(2) == 0 {
		l = []E{}
	}
	for range m.count(least, most) {
		l = append(l, make())
	}
	return l
}

func (m *maker) dec(deep, kinds int) api.Dec {
	d := api.Dec{Kind: api.DecKind(m.kind(kinds)), At: m.below(100)}
	if d.Kind == api.DcVal || m.astray(deep) {
		d.Case = list(m, 1, 1, func() api.Case { return m.matched(deep - 1) })
	}
	if d.Kind == api.DcFun || m.astray(deep) {
		d.Funs = list(m, 1, 3, func() api.Fun {
			return api.Fun{Name: m.pick("f", "g'", "__"), At: m.below(100), Case: m.matched(deep - 1)}
		})
	}
	if d.Kind == api.DcData || m.astray(deep) {
		d.Name, d.Params = m.pick("t", "int", "list"), m.count(0, api.MaxParams)
	}
	if d.Kind == api.DcData || d.Kind == api.DcExn || m.astray(deep) {
		most := 1
		if d.Kind == api.DcData {
			most = 4
		}
		d.Cons = list(m, 1, most, func() api.Con {
			c := api.Con{Name: m.pick("A", "B'", "C_9"), At: m.below(100), Has: m.below(2) == 0}
			if c.Has || m.astray(deep) {
				c.Arg = m.ty(deep - 1)
			}
			return c
		})
	}
	return d
}

func (m *maker) matched(deep int) api.Case { return api.Case{Pat: m.pat(deep), Exp: m.exp(deep)} }

func (m *maker) ty(deep int) api.Ty {
	if deep < 1 || m.below(3) == 0 {
		return api.Ty{Kind: api.TyKind(m.kind(1)), N: m.below(9)}
	}
	t := ty(m.pick("int", "bool", "unit", "exn", "ref", "->", "*", "t", "list"))
	kid := func() api.Ty { return m.ty(deep - 1) }
	switch t.Name {
	case "ref":
		t.Args = list(m, 1, 1, kid)
	case "->":
		t.Args = list(m, 2, 2, kid)
	case "*":
		t.Args = list(m, 2, api.MaxWidth, kid)
	case "t", "list":
		t.Args = list(m, 0, 3, kid)
	}
	return t
}

func (m *maker) pat(deep int) api.Pat {
	kinds := 6
	if deep < 1 {
		kinds = 3
	}
	p := api.Pat{Kind: api.PatKind(m.kind(kinds)), At: m.below(100)}
	kid := func() api.Pat { return m.pat(deep - 1) }
	switch p.Kind {
	case api.PaInt:
		p.N = m.number()
	case api.PaVar:
		p.Name = m.pick("x", "_y", "z'")
	case api.PaCon:
		p.Name, p.Kids = m.pick("A", "true", "()"), list(m, 0, 1, kid)
	case api.PaTuple:
		p.Kids = list(m, 2, 3, kid)
	case api.PaAs:
		p.Name, p.Kids = m.pick("x", "_y", "z'"), list(m, 1, 1, kid)
	}
	return p
}

func (m *maker) exp(deep int) api.Exp {
	e := api.Exp{Kind: api.ExpKind(m.kind(20)), At: m.below(100)}
	if deep < 1 {
		e.Kind = api.ExpKind(m.kind(2))
	}
	f := expForms[e.Kind]
	if f.name != "" {
		e.Name = m.pick(map[string]string{"lower": "x", "con": "A"}[f.name], map[string]string{"lower": "y'", "con": "()"}[f.name])
	}
	switch f.n {
	case "int":
		e.N = m.number()
	case "op":
		e.N = m.count(1, 9)
	}
	if f.most > 0 || m.astray(deep) {
		e.Kids = list(m, f.least, min(f.most, 4), func() api.Exp { return m.exp(deep - 1) })
	}
	if f.cases || m.astray(deep) {
		e.Cases = list(m, 1, 3, func() api.Case { return m.matched(deep - 1) })
	}
	if f.decs || m.astray(deep) {
		e.Decs = list(m, 1, 3, func() api.Dec { return m.dec(deep-1, 2) })
	}
	return e
}

// programs: programs with and without errors, from a row of numbers.
func programs(n, odd int) [][]api.Dec {
	l := [][]api.Dec{nil, {}, sample()}
	for i := range n {
		m := &maker{last: uint32(i), odd: odd}
		l = append(l, list(m, 0, 4, func() api.Dec { return m.dec(4, 4) }))
	}
	return l
}

// form: what the document lists for a kind of expressions.
type form struct {
	name        string // lower, con, or none
	n           string // int, op, or none
	least, most int    // Kids
	cases, decs bool   // one or more
}

var expForms = map[api.ExpKind]form{
	api.ExInt: {n: "int"}, api.ExVar: {name: "lower"}, api.ExCon: {name: "con", most: 1}, api.ExTuple: {least: 2, most: 8},
	api.ExFn: {cases: true}, api.ExApp: {least: 2, most: 2}, api.ExLet: {least: 1, most: 1, decs: true}, api.ExIf: {least: 3, most: 3},
	api.ExCase: {least: 1, most: 1, cases: true}, api.ExSeq: {least: 2, most: math.MaxInt}, api.ExTry: {least: 1, most: 1, cases: true}, api.ExRaise: {least: 1, most: 1},
	api.ExOp: {n: "op", least: 2, most: 2}, api.ExAnd: {least: 2, most: 2}, api.ExOr: {least: 2, most: 2}, api.ExRef: {least: 1, most: 1},
	api.ExGet: {least: 1, most: 1}, api.ExSet: {least: 2, most: 2}, api.ExPrint: {least: 1, most: 1}, api.ExRead: {},
}

var patForms = map[api.PatKind]form{
	api.PaAny: {}, api.PaVar: {name: "lower"}, api.PaInt: {n: "int"}, api.PaCon: {name: "con", most: 1}, api.PaTuple: {least: 2, most: 8}, api.PaAs: {name: "lower", least: 1, most: 1},
}

// fault: what a form says of a node with these fields.
func (f form) fault(known bool, name string, n, kids, cases, decs int) api.Bad {
	lower := strings.Contains(" x _y ", " "+name+" ") && name != ""
	con := strings.Contains(" X () true ", " "+name+" ") && name != ""
	switch {
	case !known, f.name == "" && name != "", f.n == "" && n != 0, f.most == 0 && kids > 0, !f.cases && cases > 0, !f.decs && decs > 0:
		return api.Bad{Kind: api.ErrKind}
	case f.name == "lower" && !lower, f.name == "con" && !con:
		return api.Bad{Kind: api.ErrName, Name: name}
	case f.n == "int" && (n < -1<<30 || n >= 1<<30), f.n == "op" && (n < 1 || n > 9):
		return api.Bad{Kind: api.ErrRange}
	case kids < f.least, kids > f.most, f.cases && cases == 0, f.decs && decs == 0:
		return api.Bad{Kind: api.ErrCount}
	}
	return api.Bad{}
}
