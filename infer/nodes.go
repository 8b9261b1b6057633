package infer

import (
	"camlet/api"
	"camlet/ty"
)

// decs goes through declarations, and leaves the names visible that it returns.
func (in *inference) decs(l []api.Dec) []name {
	var all []name
	for i := range l {
		switch d := &l[i]; d.Kind {
		case api.DcVal:
			all = append(all, in.val(&d.Case[0])...)
		case api.DcFun:
			all = append(all, in.funs(d.Funs)...)
		}
	}
	return all
}

func (in *inference) val(c *api.Case) []name {
	var l []name
	in.depth++
	t := in.exp(&c.Exp)
	in.equal(in.pat(&c.Pat, &l), t, c.Pat.At)
	in.depth--
	in.settle(l, Value(c.Exp))
	in.show(l)
	return l
}

func (in *inference) funs(l []api.Fun) []name {
	var group []name
	in.depth++
	for i := range l {
		group = append(group, name{text: l[i].Name, at: l[i].At, t: ty.Fn(in.fresh(), in.fresh())})
	}
	in.show(group)
	for i, n := range group {
		in.matched(&l[i].Case, n.t.Args[0], n.t.Args[1])
	}
	for _, n := range group {
		in.sized(n.t, n.at)
	}
	in.depth--
	in.settle(group, true)
	return group
}

// matched goes through a case from one type to another.
func (in *inference) matched(c *api.Case, from, to api.Ty) {
	var l []name
	in.equal(in.pat(&c.Pat, &l), from, c.Pat.At)
	in.show(l)
	in.must(&c.Exp, to)
	in.hide(l)
}

func (in *inference) cases(l []api.Case, from, to api.Ty) {
	for i := range l {
		in.matched(&l[i], from, to)
	}
}

// must: the type of an expression must equal another type.
func (in *inference) must(e *api.Exp, t api.Ty) { in.equal(in.exp(e), t, e.At) }

// all: the types of several expressions must equal another type.
func (in *inference) all(l []api.Exp, t api.Ty) {
	for i := range l {
		in.must(&l[i], t)
	}
}

// exp: the type of an expression.
func (in *inference) exp(e *api.Exp) api.Ty {
	t := in.typeOf(e)
	in.sized(t, e.At)
	return t
}

// typeOf: the type of an expression, of any size.
func (in *inference) typeOf(e *api.Exp) api.Ty {
	switch e.Kind {
	case api.ExVar:
		return in.instance(e.Name, e.At)
	case api.ExCon:
		t := in.con(e.Name, e.At)
		if len(e.Kids) == 0 {
			return t
		}
		in.must(&e.Kids[0], t.Args[0])
		return t.Args[1]
	case api.ExTuple:
		return ty.Of("*", in.exps(e.Kids)...)
	case api.ExFn:
		t := ty.Fn(in.fresh(), in.fresh())
		in.cases(e.Cases, t.Args[0], t.Args[1])
		return t
	case api.ExApp:
		t := ty.Fn(in.fresh(), in.fresh())
		in.must(&e.Kids[0], t)
		in.must(&e.Kids[1], t.Args[0])
		return t.Args[1]
	case api.ExLet:
		l := in.decs(e.Decs)
		t := in.exp(&e.Kids[0])
		in.hide(l)
		return t
	case api.ExIf:
		in.must(&e.Kids[0], ty.Of("bool"))
		t := in.exp(&e.Kids[1])
		in.must(&e.Kids[2], t)
		return t
	case api.ExCase:
		from, to := in.exp(&e.Kids[0]), in.fresh()
		in.cases(e.Cases, from, to)
		return to
	case api.ExSeq:
		l := in.exps(e.Kids)
		return l[len(l)-1]
	case api.ExTry:
		t := in.exp(&e.Kids[0])
		in.cases(e.Cases, ty.Of("exn"), t)
		return t
	case api.ExRaise:
		in.must(&e.Kids[0], ty.Of("exn"))
		return in.fresh()
	}
	return in.ofPrim(e)
}

// ofPrim: the type of an expression that is done by a primitive or is an int.
func (in *inference) ofPrim(e *api.Exp) api.Ty {
	switch e.Kind {
	case api.ExOp:
		in.all(e.Kids, ty.Of("int"))
		if api.Prim(e.N) > api.PrMod {
			return ty.Of("bool")
		}
	case api.ExAnd, api.ExOr:
		in.all(e.Kids, ty.Of("bool"))
		return ty.Of("bool")
	case api.ExRef:
		return ty.Of("ref", in.exp(&e.Kids[0]))
	case api.ExGet:
		t := in.fresh()
		in.must(&e.Kids[0], ty.Of("ref", t))
		return t
	case api.ExSet:
		t := in.fresh()
		in.must(&e.Kids[0], ty.Of("ref", t))
		in.must(&e.Kids[1], t)
		return ty.Of("unit")
	case api.ExPrint:
		in.must(&e.Kids[0], ty.Of("int"))
		return ty.Of("unit")
	}
	return ty.Of("int")
}

// exps: the types of expressions.
func (in *inference) exps(l []api.Exp) []api.Ty {
	var types []api.Ty
	for i := range l {
		types = append(types, in.exp(&l[i]))
	}
	return types
}

// pat: the type of a pattern. Its variables are added to a list.
func (in *inference) pat(p *api.Pat, l *[]name) api.Ty {
	t := in.typeOfPat(p, l)
	in.sized(t, p.At)
	return t
}

// typeOfPat: the type of a pattern, of any size.
func (in *inference) typeOfPat(p *api.Pat, l *[]name) api.Ty {
	switch p.Kind {
	case api.PaVar:
		t := in.fresh()
		*l = append(*l, name{text: p.Name, at: p.At, t: t})
		return t
	case api.PaInt:
		return ty.Of("int")
	case api.PaCon:
		t := in.con(p.Name, p.At)
		if len(p.Kids) == 0 {
			return t
		}
		in.equal(in.pat(&p.Kids[0], l), t.Args[0], p.Kids[0].At)
		return t.Args[1]
	case api.PaTuple:
		var types []api.Ty
		for i := range p.Kids {
			types = append(types, in.pat(&p.Kids[i], l))
		}
		return ty.Of("*", types...)
	case api.PaAs:
		own := len(*l)
		*l = append(*l, name{text: p.Name, at: p.At})
		t := in.pat(&p.Kids[0], l)
		(*l)[own].t = t
		return t
	}
	return in.fresh()
}
