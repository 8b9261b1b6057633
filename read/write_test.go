package read_test

import (
	"strconv"

	"camlet/api"
	"camlet/lex"
)

// writer makes trees up and writes their texts, out of a row of numbers that is the same at each run of the tests.
type writer struct {
	last   uint32
	odd    int // one count in so many does not fit; 0: none
	text   []byte
	before string         // the last token, or one that has the same neighbours
	vars   map[string]int // the type variables that can be written, with their numbers
	open   bool           // are there others, which are numbered as they are written?
}

func (w *writer) below(n int) int {
	w.last = w.last*1664525 + 1013904223
	return int(w.last>>8) % n
}

func (w *writer) coin() bool { return w.below(2) == 0 }

func (w *writer) pick(l ...string) string { return l[w.below(len(l))] }

// count: a number within bounds, or rarely an odd one.
func (w *writer) count(least, most, odd int) int {
	if w.odd > 0 && w.below(w.odd) == 0 {
		return odd
	}
	return least + w.below(most-least+1)
}

// gap: what stands between two tokens.
func (w *writer) gap() string {
	return w.pick("", "", "", " ", " ", "\n", "\t \r\n", "(**)", " (* val (* ' *) $ ~ *)", "(*)*)")
}

// token: writes a token behind a gap, and returns its offset.
func (w *writer) token(s string) int {
	gap := w.gap()
	if l, bad := lex.Scan(w.before + gap + s); bad.Kind != api.OK || len(l) > 0 && l[len(l)-1].Text != s || len(l) != 2 && w.before != "" {
		gap = " "
	}
	w.text = append(w.text, gap...)
	at := len(w.text)
	w.text = append(w.text, s...)
	w.before = s
	if '0' <= s[0] && s[0] <= '9' {
		w.before = "9" // since a text cannot begin with 1073741824
	}
	return at
}

// number: writes an int; in some texts of negative numbers a gap follows the ~.
func (w *writer) number() (n, at int) {
	n = []int{0, 1, w.below(1000), 1<<30 - 1}[w.below(4)]
	if w.coin() {
		at = w.token(strconv.Itoa(n))
		return n, at
	}
	if n == 1<<30-1 {
		n++
	}
	at = w.token("~")
	w.token(strconv.Itoa(n))
	return -n, at
}

// several: writes some parts with a token between them.
func several[T any](w *writer, n int, between string, part func() T) []T {
	l := []T{part()}
	for len(l) < n {
		w.token(between)
		l = append(l, part())
	}
	return l
}

// within: writes something between parentheses.
func within[T any](w *writer, part func() T) T {
	w.token("(")
	x := part()
	w.token(")")
	return x
}

func (w *writer) low() string { return w.pick("x", "f'", "_y", "ofs", "int", "trueX") }

func (w *writer) cap() string { return w.pick("A", "Some", "true", "false", "B_'") }

// Levels of expressions: the constructs of the grammar that can stand for each other without parentheses.
const (
	whole = iota
	setting
	trying
	either
	both
	comparing
	adding
	multiplying
	applying
	least
)

// levels: the lowest level of each kind, and those of its operands.
var levels = map[api.ExpKind][]int{
	api.ExInt: {least}, api.ExVar: {least}, api.ExCon: {least, least}, api.ExTuple: {least}, api.ExFn: {whole}, api.ExApp: {applying, applying, least},
	api.ExLet: {least}, api.ExIf: {whole}, api.ExCase: {whole}, api.ExSeq: {least}, api.ExTry: {trying, either}, api.ExRaise: {whole},
	api.ExOp: {}, api.ExAnd: {both, comparing, both}, api.ExOr: {either, both, either}, api.ExRef: {applying, least}, api.ExGet: {applying, least},
	api.ExSet: {setting, trying, setting}, api.ExPrint: {applying, least}, api.ExRead: {least},
}

var operators = []struct {
	text   string
	prim   api.Prim
	levels []int
}{
	{"+", api.PrAdd, []int{adding, adding, multiplying}}, {"-", api.PrSub, []int{adding, adding, multiplying}},
	{"*", api.PrMul, []int{multiplying, multiplying, applying}}, {"div", api.PrDiv, []int{multiplying, multiplying, applying}}, {"mod", api.PrMod, []int{multiplying, multiplying, applying}},
	{"=", api.PrEq, []int{comparing, adding, adding}}, {"<>", api.PrNe, []int{comparing, adding, adding}}, {"<", api.PrLt, []int{comparing, adding, adding}}, {"<=", api.PrLe, []int{comparing, adding, adding}},
}

// spot is where an expression is written.
type spot struct {
	level  int
	closed bool // would what follows be taken for a part of its last cases?
	called bool // would what follows be taken for its argument, if it is a constructor?
}

// exp: writes an expression of some levels.
func (w *writer) exp(at spot, deep int) api.Exp {
	e := api.Exp{Kind: api.ExpKind(1 + w.below(20))}
	if deep < 1 {
		e.Kind = []api.ExpKind{api.ExInt, api.ExVar, api.ExCon, api.ExRead}[w.below(4)]
	}
	own, symbol := levels[e.Kind], ""
	bare := e.Kind == api.ExCon && (deep < 1 || w.coin())
	switch {
	case e.Kind == api.ExOp:
		op := operators[w.below(len(operators))]
		own, symbol, e.N = op.levels, op.text, int(op.prim)
	case bare:
		e.Name = w.pick("()", w.cap(), w.cap())
	case e.Kind == api.ExCon:
		e.Name, own = w.cap(), []int{applying, least}
	}
	dangles := e.Kind == api.ExFn || e.Kind == api.ExCase || e.Kind == api.ExTry
	if own[0] < at.level || at.closed && dangles || at.called && bare && e.Name != "()" || w.below(8) == 0 {
		return within(w, func() api.Exp { return w.inside(e, own, symbol, bare, false, deep-1) })
	}
	return w.inside(e, own, symbol, bare, at.closed, deep-1)
}

// inside: writes an expression without parentheses around it.
func (w *writer) inside(e api.Exp, own []int, symbol string, bare, closed bool, deep int) api.Exp {
	switch e.Kind {
	case api.ExInt:
		e.N, e.At = w.number()
	case api.ExVar:
		e.Name = w.low()
		e.At = w.token(e.Name)
	case api.ExRead:
		e.At = w.token("read")
		w.token("(")
		w.token(")")
	case api.ExCon:
		if e.Name == "()" {
			e.At = w.token("(")
			w.token(")")
			return e
		}
		e.At = w.token(e.Name)
		if !bare {
			e.Kids = []api.Exp{w.exp(spot{level: own[1]}, deep)}
		}
	case api.ExRef, api.ExGet, api.ExPrint:
		e.At = w.token(map[api.ExpKind]string{api.ExRef: "ref", api.ExGet: "!", api.ExPrint: "print"}[e.Kind])
		e.Kids = []api.Exp{w.exp(spot{level: own[1]}, deep)}
	case api.ExApp, api.ExOp, api.ExAnd, api.ExOr, api.ExSet:
		e = w.operands(e, own, symbol, closed, deep)
	case api.ExTuple, api.ExSeq, api.ExLet:
		e = w.bracketed(e, deep)
	default:
		e = w.keyworded(e, closed, deep)
	}
	return e
}

func (w *writer) operands(e api.Exp, own []int, symbol string, closed bool, deep int) api.Exp {
	// An assignment behind the last case of a handle would be taken for a part of it.
	left := w.exp(spot{level: own[1], closed: e.Kind == api.ExSet, called: e.Kind == api.ExApp}, deep)
	switch e.Kind {
	case api.ExAnd:
		symbol = "andalso"
	case api.ExOr:
		symbol = "orelse"
	case api.ExSet:
		symbol = ":="
	}
	if symbol != "" {
		w.token(symbol)
	}
	e.At, e.Kids = left.At, []api.Exp{left, w.exp(spot{level: own[2], closed: closed}, deep)}
	return e
}

func (w *writer) bracketed(e api.Exp, deep int) api.Exp {
	part := func() api.Exp { return w.exp(spot{}, deep) }
	switch e.Kind {
	case api.ExTuple:
		e.At = w.token("(")
		e.Kids = several(w, w.count(2, 4, api.MaxWidth+1), ",", part)
		w.token(")")
	case api.ExSeq:
		w.token("(")
		e.Kids = several(w, 2+w.below(3), ";", part)
		e.At = e.Kids[0].At
		w.token(")")
	case api.ExLet:
		e.At = w.token("let")
		for range w.count(1, 3, 0) {
			e.Decs = append(e.Decs, w.dec(2, deep))
		}
		w.token("in")
		e.Kids = []api.Exp{part()}
		w.token("end")
	}
	return e
}

func (w *writer) keyworded(e api.Exp, closed bool, deep int) api.Exp {
	part := func(keyword string, closed bool) (api.Exp, int) {
		at := w.token(keyword)
		return w.exp(spot{closed: closed}, deep), at
	}
	switch e.Kind {
	case api.ExRaise:
		kid, at := part("raise", closed)
		e.At, e.Kids = at, []api.Exp{kid}
	case api.ExIf:
		a, at := part("if", false)
		b, _ := part("then", false)
		c, _ := part("else", closed)
		e.At, e.Kids = at, []api.Exp{a, b, c}
	case api.ExCase:
		kid, at := part("case", false)
		e.At, e.Kids = at, []api.Exp{kid}
		w.token("of")
		e.Cases = w.cases(deep)
	case api.ExFn:
		e.At = w.token("fn")
		e.Cases = w.cases(deep)
	case api.ExTry:
		kid := w.exp(spot{level: either}, deep)
		e.At, e.Kids = kid.At, []api.Exp{kid}
		w.token("handle")
		e.Cases = w.cases(deep)
	}
	return e
}

func (w *writer) cases(deep int) []api.Case {
	n := 1 + w.below(3)
	return several(w, n, "|", func() api.Case {
		n--
		x := w.pat(false, deep)
		w.token("=>")
		return api.Case{Pat: x, Exp: w.exp(spot{closed: n > 0}, deep)}
	})
}

// pat: writes a pattern, or an atpat.
func (w *writer) pat(small bool, deep int) api.Pat {
	p := api.Pat{Kind: api.PatKind(1 + w.below(6))}
	if deep < 1 {
		p.Kind = api.PatKind(1 + w.below(4))
	}
	argument := p.Kind == api.PaCon && deep >= 1 && w.coin()
	if small && (argument || p.Kind == api.PaAs) || w.below(8) == 0 {
		return within(w, func() api.Pat { return w.patInside(p, argument, deep-1) })
	}
	return w.patInside(p, argument, deep-1)
}

func (w *writer) patInside(p api.Pat, argument bool, deep int) api.Pat {
	switch p.Kind {
	case api.PaAny:
		p.At = w.token("_")
	case api.PaVar:
		p.Name = w.low()
		p.At = w.token(p.Name)
	case api.PaInt:
		p.N, p.At = w.number()
	case api.PaCon:
		if !argument && w.below(3) == 0 {
			p.Name, p.At = "()", w.token("(")
			w.token(")")
			return p
		}
		p.Name = w.cap()
		p.At = w.token(p.Name)
		if argument {
			p.Kids = []api.Pat{w.pat(true, deep)}
		}
	case api.PaTuple:
		p.At = w.token("(")
		p.Kids = several(w, w.count(2, 4, api.MaxWidth+1), ",", func() api.Pat { return w.pat(false, deep) })
		w.token(")")
	case api.PaAs:
		p.Name = w.low()
		p.At = w.token(p.Name)
		w.token("as")
		p.Kids = []api.Pat{w.pat(false, deep)}
	}
	return p
}

// ty: writes a type: 0 of any form, 1 a prodty, 2 a postty.
func (w *writer) ty(level, deep int) api.Ty {
	form := w.below(6)
	if deep < 1 {
		form = 4 + w.below(2)
	}
	if form < level || w.below(8) == 0 {
		return within(w, func() api.Ty { return w.tyInside(form, deep-1) })
	}
	return w.tyInside(form, deep-1)
}

func (w *writer) tyInside(form, deep int) api.Ty {
	t := api.Ty{Kind: api.TyCon}
	switch form {
	case 0:
		left := w.ty(1, deep)
		w.token("->")
		t.Name, t.Args = "->", []api.Ty{left, w.ty(0, deep)}
	case 1:
		t.Name, t.Args = "*", several(w, w.count(2, 3, api.MaxWidth+1), "*", func() api.Ty { return w.ty(2, deep) })
	case 2:
		t.Args = []api.Ty{w.ty(2, deep)}
		t.Name = w.pick("ref", "t", "list", w.pick("t", "ref", "int"))
		w.token(t.Name)
	case 3:
		t.Args = within(w, func() []api.Ty {
			return several(w, w.count(2, 3, api.MaxParams+1), ",", func() api.Ty { return w.ty(0, deep) })
		})
		t.Name = w.pick("t", "map'", "pair", "t", "tt", w.pick("t", "ref"))
		w.token(t.Name)
	case 4:
		if v, ok := w.tyvar(); ok {
			return v
		}
		fallthrough
	default:
		t.Name = w.pick("int", "bool", "unit", "exn", "t")
		w.token(t.Name)
	}
	return t
}

// tyvar: writes a type variable, if one is allowed.
func (w *writer) tyvar() (api.Ty, bool) {
	name := w.pick(tyvars...)
	n, known := w.vars[name]
	if !known {
		if !w.open {
			return api.Ty{}, false
		}
		n = len(w.vars)
		w.vars[name] = n
	}
	w.token(name)
	return api.Ty{Kind: api.TyVar, N: n}, true
}

var tyvars = []string{"'a", "'b", "'_", "'val", "'A1", "'true", "'a'", "'c", "'d", "'e"}

func (w *writer) con(odd bool, deep int) api.Con {
	c := api.Con{Name: w.pick("A", "Some", "B_'")}
	if odd {
		c.Name = "true"
	}
	c.At = w.token(c.Name)
	if w.coin() {
		w.token("of")
		c.Has, c.Arg = true, w.ty(0, deep)
	}
	return c
}

// dec: writes a declaration of one of so many kinds.
func (w *writer) dec(kinds, deep int) api.Dec {
	d := api.Dec{Kind: api.DecKind(1 + w.below(kinds))}
	switch d.Kind {
	case api.DcVal:
		d.At = w.token("val")
		x := w.pat(false, deep)
		w.token("=")
		d.Case = []api.Case{{Pat: x, Exp: w.exp(spot{}, deep)}}
	case api.DcFun:
		d.At = w.token("fun")
		d.Funs = several(w, 1+w.below(2), "and", func() api.Fun {
			f := api.Fun{Name: w.low()}
			f.At = w.token(f.Name)
			f.Case.Pat = w.pat(true, deep)
			w.token("=")
			f.Case.Exp = w.exp(spot{}, deep)
			return f
		})
	case api.DcData:
		d.At = w.token("datatype")
		d.Params = w.declare()
		d.Name = w.pick("t", "list", "int")
		w.token(d.Name)
		w.token("=")
		d.Cons = several(w, 1+w.below(3), "|", func() api.Con { return w.con(w.count(0, 0, 1) > 0, deep) })
		w.vars = nil
	case api.DcExn:
		d.At = w.token("exception")
		d.Cons = []api.Con{w.con(false, deep)}
	}
	return d
}

// declare: writes the type variables of a datatype, and returns how many.
func (w *writer) declare() int {
	n := w.count(0, 3, api.MaxParams+1)
	w.vars = map[string]int{}
	one := func() int {
		for {
			name := tyvars[w.below(len(tyvars))]
			if _, twice := w.vars[name]; !twice {
				w.vars[name] = len(w.vars)
				return w.token(name)
			}
		}
	}
	if n == 1 && w.coin() {
		one()
	} else if n > 0 {
		within(w, func() []int { return several(w, n, ",", one) })
	}
	return n
}

func (w *writer) program() []api.Dec {
	var l []api.Dec
	for range w.below(4) {
		l = append(l, w.dec(4, 3))
	}
	return l
}
