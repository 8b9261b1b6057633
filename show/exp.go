package show

import "camlet/api"

// The levels of expressions: one of a higher level stands for one of a lower level without parentheses.
const (
	loose       = 0
	setting     = 1
	trying      = 2
	either      = 3
	both        = 4
	comparing   = 5
	adding      = 6
	multiplying = 7
	applying    = 8
	closed      = 9
)

// levels: those of all kinds but ExOp, and of an ExCon without a Kid.
var levels = [...]int{
	api.ExInt: closed, api.ExVar: closed, api.ExCon: closed, api.ExTuple: closed, api.ExLet: closed, api.ExSeq: closed, api.ExRead: closed,
	api.ExFn: loose, api.ExIf: loose, api.ExCase: loose, api.ExRaise: loose,
	api.ExSet: setting, api.ExTry: trying, api.ExOr: either, api.ExAnd: both,
	api.ExApp: applying, api.ExRef: applying, api.ExGet: applying, api.ExPrint: applying,
}

var opLevels = [...]int{
	api.PrAdd: adding, api.PrSub: adding, api.PrMul: multiplying, api.PrDiv: multiplying, api.PrMod: multiplying,
	api.PrEq: comparing, api.PrNe: comparing, api.PrLt: comparing, api.PrLe: comparing,
}

var opSigns = [...]string{
	api.PrAdd: "+", api.PrSub: "-", api.PrMul: "*", api.PrDiv: "div", api.PrMod: "mod",
	api.PrEq: "=", api.PrNe: "<>", api.PrLt: "<", api.PrLe: "<=",
}

func level(e *api.Exp) int {
	switch {
	case e.Kind == api.ExOp:
		return opLevels[e.N]
	case e.Kind == api.ExCon && len(e.Kids) > 0:
		return applying
	}
	return levels[e.Kind]
}

// isOpen: would a case that follows the expression be taken for one of its own?
func isOpen(e *api.Exp) bool {
	switch e.Kind {
	case api.ExFn, api.ExCase, api.ExTry:
		return true
	case api.ExRaise, api.ExIf:
		return isOpen(last(e))
	case api.ExSet:
		return last(e).Kind == api.ExTry || last(e).Kind == api.ExSet && isOpen(last(e))
	}
	return false
}

func last(e *api.Exp) *api.Exp { return &e.Kids[len(e.Kids)-1] }

// exp: writes an expression at a level.
func (w *writer) exp(e *api.Exp, least int) {
	w.group(level(e) < least, func() { w.bareExp(e) })
}

// bareExp: writes an expression without parentheses around it.
func (w *writer) bareExp(e *api.Exp) {
	kid := func(i int) { w.exp(&e.Kids[i], loose) }
	switch e.Kind {
	case api.ExInt:
		w.number(e.N)
	case api.ExVar:
		w.put(e.Name)
	case api.ExRead:
		w.put("read", "(", ")")
	case api.ExTuple:
		w.tuple(len(e.Kids), ",", kid)
	case api.ExSeq:
		w.tuple(len(e.Kids), ";", kid)
	case api.ExCon, api.ExRef, api.ExGet, api.ExPrint:
		w.prefix(e)
	case api.ExApp, api.ExSet, api.ExTry, api.ExOr, api.ExAnd, api.ExOp:
		w.infix(e)
	default:
		w.keyworded(e)
	}
}

// prefix: writes an expression that begins with what is done to its Kid.
func (w *writer) prefix(e *api.Exp) {
	switch e.Kind {
	case api.ExCon:
		w.con(e.Name)
	case api.ExRef:
		w.put("ref")
	case api.ExGet:
		w.put("!")
	case api.ExPrint:
		w.put("print")
	}
	for i := range e.Kids {
		w.exp(&e.Kids[i], closed)
	}
}

// infix: writes an expression that begins with its first Kid.
func (w *writer) infix(e *api.Exp) {
	binary := func(left int, sign string, right int) {
		w.exp(&e.Kids[0], left)
		w.put(sign)
		w.exp(&e.Kids[1], right)
	}
	switch e.Kind {
	case api.ExApp:
		w.called(&e.Kids[0])
		w.exp(&e.Kids[1], closed)
	case api.ExSet:
		left := trying
		if e.Kids[0].Kind == api.ExTry {
			left = closed // the last case of the handle would take the assignment
		}
		binary(left, ":=", setting)
	case api.ExTry:
		w.exp(&e.Kids[0], either)
		w.put("handle")
		w.cases(e.Cases)
	case api.ExOr:
		binary(both, "orelse", either)
	case api.ExAnd:
		binary(comparing, "andalso", both)
	default:
		own := level(e)
		binary(max(own, adding), opSigns[e.N], own+1) // comparisons do not associate
	}
}

// called: writes the function of an application.
func (w *writer) called(e *api.Exp) {
	takesMore := e.Kind == api.ExCon && len(e.Kids) == 0 && e.Name != "()"
	w.group(takesMore || level(e) < applying, func() { w.bareExp(e) })
}

// keyworded: writes an expression that begins with a keyword of its own.
func (w *writer) keyworded(e *api.Exp) {
	behind := func(keyword string, i int) {
		w.put(keyword)
		w.exp(&e.Kids[i], loose)
	}
	switch e.Kind {
	case api.ExFn:
		w.put("fn")
		w.cases(e.Cases)
	case api.ExLet:
		w.put("let")
		for i := range e.Decs {
			w.dec(&e.Decs[i])
		}
		behind("in", 0)
		w.put("end")
	case api.ExIf:
		behind("if", 0)
		behind("then", 1)
		behind("else", 2)
	case api.ExCase:
		behind("case", 0)
		w.put("of")
		w.cases(e.Cases)
	case api.ExRaise:
		behind("raise", 0)
	}
}

func (w *writer) cases(l []api.Case) {
	w.list(len(l), "|", func(i int) {
		w.pat(&l[i].Pat, looseNode)
		w.put("=>")
		e := &l[i].Exp
		w.group(i < len(l)-1 && isOpen(e), func() { w.exp(e, loose) })
	})
}
