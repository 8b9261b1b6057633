package tree

import (
	"iter"
	"math"

	"camlet/api"
	"camlet/num"
)

// firstFault: what is wrong with a tree that has these steps.
func firstFault(steps iter.Seq[step]) api.Bad {
	size, depth := 0, 0
	for s := range steps {
		if !s.isNode() {
			continue
		}
		size, depth = size+1, max(depth, s.depth)
		if size > api.MaxSize {
			return api.Bad{Kind: api.ErrLong}
		}
	}
	if depth > api.MaxDeep {
		return api.Bad{Kind: api.ErrDeep}
	}
	for s := range steps {
		if kind, name := s.fault(); kind != api.OK {
			return api.Bad{Kind: kind, At: s.at, Name: name}
		}
	}
	return api.Bad{}
}

// fault: the error of a step itself, and the name that it is about.
func (s step) fault() (api.Errno, string) {
	switch x := s.part.(type) {
	case *api.Dec:
		return decFault(x, s.local)
	case *api.Fun:
		return nameFault(x.Name, isLower(x.Name))
	case *api.Con:
		return conFault(x)
	case *api.Exp:
		return expFault(x)
	case *api.Pat:
		return patFault(x)
	case *api.Ty:
		return tyFault(x)
	}
	return api.OK, ""
}

func nameFault(name string, fits bool) (api.Errno, string) {
	if !fits {
		return api.ErrName, name
	}
	return api.OK, ""
}

func decFault(d *api.Dec, local bool) (api.Errno, string) {
	switch {
	case hasUnusedInDec(*d), local && d.Kind != api.DcVal && d.Kind != api.DcFun:
		return api.ErrKind, ""
	case d.Kind == api.DcData && !isLower(d.Name):
		return api.ErrName, d.Name
	case !countsFitDec(d):
		return api.ErrCount, ""
	}
	return api.OK, ""
}

// hasUnusedInDec: is a field set that the kind does not use, or is the kind unknown? What the kind uses is taken away, and the rest must be empty.
func hasUnusedInDec(d api.Dec) bool {
	switch d.Kind {
	case api.DcVal:
		d.Case = nil
	case api.DcFun:
		d.Funs = nil
	case api.DcData:
		d.Name, d.Params = "", 0
		fallthrough
	case api.DcExn:
		d.Cons = nil
	default:
		return true
	}
	return d.Name != "" || d.Params != 0 || len(d.Cons)+len(d.Case)+len(d.Funs) > 0
}

func countsFitDec(d *api.Dec) bool {
	switch d.Kind {
	case api.DcVal:
		return len(d.Case) == 1
	case api.DcFun:
		return len(d.Funs) > 0
	case api.DcData:
		return 0 <= d.Params && d.Params <= api.MaxParams && 1 <= len(d.Cons) && len(d.Cons) <= api.MaxCons
	}
	return len(d.Cons) == 1
}

func conFault(c *api.Con) (api.Errno, string) {
	if arg := c.Arg; !c.Has && (arg.Kind != 0 || arg.N != 0 || arg.Name != "" || len(arg.Args) > 0) {
		return api.ErrKind, ""
	}
	return nameFault(c.Name, isUpper(c.Name))
}

func expFault(e *api.Exp) (api.Errno, string) {
	switch {
	case hasUnusedInExp(*e):
		return api.ErrKind, ""
	case e.Kind == api.ExVar && !isLower(e.Name), e.Kind == api.ExCon && !isCon(e.Name):
		return api.ErrName, e.Name
	case e.Kind == api.ExInt && !isInt(e.N), e.Kind == api.ExOp && !isOperator(e.N):
		return api.ErrRange, ""
	case !countsFitExp(e):
		return api.ErrCount, ""
	}
	return api.OK, ""
}

func hasUnusedInExp(e api.Exp) bool {
	switch e.Kind {
	case api.ExRead:
	case api.ExInt:
		e.N = 0
	case api.ExVar:
		e.Name = ""
	case api.ExOp:
		e.N, e.Kids = 0, nil
	case api.ExLet:
		e.Decs, e.Kids = nil, nil
	case api.ExCase, api.ExTry:
		e.Kids = nil
		fallthrough
	case api.ExFn:
		e.Cases = nil
	case api.ExCon:
		e.Name = ""
		fallthrough
	case api.ExTuple, api.ExApp, api.ExIf, api.ExSeq, api.ExRaise, api.ExAnd, api.ExOr, api.ExRef, api.ExGet, api.ExSet, api.ExPrint:
		e.Kids = nil
	default:
		return true
	}
	return e.Name != "" || e.N != 0 || len(e.Kids)+len(e.Cases)+len(e.Decs) > 0
}

func countsFitExp(e *api.Exp) bool {
	switch e.Kind {
	case api.ExFn, api.ExCase, api.ExTry:
		if len(e.Cases) == 0 {
			return false
		}
	case api.ExLet:
		if len(e.Decs) == 0 {
			return false
		}
	}
	least, most := expKids(e.Kind)
	return least <= len(e.Kids) && len(e.Kids) <= most
}

// expKids: how many Kids an expression has at least, and at most.
func expKids(kind api.ExpKind) (least, most int) {
	switch kind {
	case api.ExCon:
		return 0, 1
	case api.ExLet, api.ExCase, api.ExTry, api.ExRaise, api.ExRef, api.ExGet, api.ExPrint:
		return 1, 1
	case api.ExApp, api.ExOp, api.ExAnd, api.ExOr, api.ExSet:
		return 2, 2
	case api.ExIf:
		return 3, 3
	case api.ExTuple:
		return 2, api.MaxWidth
	case api.ExSeq:
		return 2, math.MaxInt
	}
	return 0, 0
}

func patFault(p *api.Pat) (api.Errno, string) {
	switch {
	case hasUnusedInPat(*p):
		return api.ErrKind, ""
	case (p.Kind == api.PaVar || p.Kind == api.PaAs) && !isLower(p.Name), p.Kind == api.PaCon && !isCon(p.Name):
		return api.ErrName, p.Name
	case p.Kind == api.PaInt && !isInt(p.N):
		return api.ErrRange, ""
	}
	if least, most := patKids(p.Kind); len(p.Kids) < least || len(p.Kids) > most {
		return api.ErrCount, ""
	}
	return api.OK, ""
}

func hasUnusedInPat(p api.Pat) bool {
	switch p.Kind {
	case api.PaAny:
	case api.PaInt:
		p.N = 0
	case api.PaTuple:
		p.Kids = nil
	case api.PaCon, api.PaAs:
		p.Kids = nil
		fallthrough
	case api.PaVar:
		p.Name = ""
	default:
		return true
	}
	return p.Name != "" || p.N != 0 || len(p.Kids) > 0
}

// patKids: how many Kids a pattern has at least, and at most.
func patKids(kind api.PatKind) (least, most int) {
	switch kind {
	case api.PaCon:
		return 0, 1
	case api.PaAs:
		return 1, 1
	case api.PaTuple:
		return 2, api.MaxWidth
	}
	return 0, 0
}

func tyFault(t *api.Ty) (api.Errno, string) {
	switch t.Kind {
	case api.TyVar:
		if t.Name != "" || len(t.Args) > 0 {
			return api.ErrKind, ""
		}
		if t.N < 0 {
			return api.ErrRange, ""
		}
		return api.OK, ""
	case api.TyCon:
		if t.N != 0 {
			return api.ErrKind, ""
		}
		return tyConFault(t)
	}
	return api.ErrKind, ""
}

func tyConFault(t *api.Ty) (api.Errno, string) {
	least, most := 0, 0
	switch t.Name {
	case "int", "bool", "unit", "exn":
	case "ref":
		least, most = 1, 1
	case "->":
		least, most = 2, 2
	case "*":
		least, most = 2, api.MaxWidth
	default:
		if !isLower(t.Name) {
			return api.ErrName, t.Name
		}
		most = api.MaxParams
	}
	if len(t.Args) < least || len(t.Args) > most {
		return api.ErrCount, ""
	}
	return api.OK, ""
}

func isInt(n int) bool { return num.Least <= n && n <= num.Most }

func isOperator(n int) bool { return int(api.PrAdd) <= n && n <= int(api.PrLe) }

func isLower(s string) bool {
	return isWord(s) && (s[0] == '_' || 'a' <= s[0] && s[0] <= 'z') && !isReserved(s)
}

func isUpper(s string) bool { return isWord(s) && 'A' <= s[0] && s[0] <= 'Z' }

func isCon(s string) bool { return isUpper(s) || s == "true" || s == "false" || s == "()" }

// isWord: has a text a name's length, and only bytes that a name can go on with?
func isWord(s string) bool {
	if len(s) < 1 || len(s) > api.MaxName {
		return false
	}
	for i := range len(s) {
		b := s[i]
		if !('a' <= b && b <= 'z' || 'A' <= b && b <= 'Z' || '0' <= b && b <= '9' || b == '_' || b == '\'') {
			return false
		}
	}
	return true
}

// isReserved: does a word look like a lower-case name and is none?
func isReserved(s string) bool {
	switch s {
	case "_", "true", "false",
		"and", "andalso", "as", "case", "datatype", "div", "else", "end", "exception", "fn", "fun", "handle",
		"if", "in", "let", "mod", "of", "orelse", "print", "raise", "read", "ref", "then", "val":
		return true
	}
	return false
}
