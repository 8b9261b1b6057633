package scope

import (
	"camlet/api"
	"camlet/decl"
	"camlet/tree"
)

// visit goes through valid trees in source order, binds the names that are visible at each place, and reports all names that are wrong there.
type visit struct {
	bound  map[string]int // how many visible bindings a variable has
	cons   map[string]int // how many arguments a constructor that is declared takes
	report func(bad api.Bad)
}

func newVisit(report func(bad api.Bad)) *visit {
	v := &visit{bound: map[string]int{}, cons: map[string]int{}, report: report}
	for _, p := range decl.Start() {
		v.declare(p.Name, p.Has)
	}
	return v
}

func (v *visit) declare(con string, hasArg bool) {
	v.cons[con] = 0
	if hasArg {
		v.cons[con] = 1
	}
}

// bind makes each of the names visible once more (by 1) or once less (by -1).
func (v *visit) bind(names []string, by int) {
	for _, name := range names {
		v.bound[name] += by
	}
}

// decs visits declarations and leaves the names bound that it returns, each as often as it stands there.
func (v *visit) decs(l []api.Dec) []string {
	var all []string
	for i := range l {
		d := &l[i]
		names := boundBy(d)
		switch d.Kind {
		case api.DcVal:
			v.pat(&d.Case[0].Pat)
			v.exp(&d.Case[0].Exp)
			v.bind(names, 1)
		case api.DcFun:
			v.bind(names, 1)
			v.funs(d.Funs)
		}
		for j := range d.Cons {
			v.declare(d.Cons[j].Name, d.Cons[j].Has)
		}
		all = append(all, names...)
	}
	return all
}

// funs visits the functions of a group, whose names are bound already.
func (v *visit) funs(l []api.Fun) {
	var group once
	for i := range l {
		f := &l[i]
		if !group.add(f.Name) {
			v.report(api.Bad{Kind: api.ErrTwice, At: f.At, Name: f.Name})
		}
		v.matched(&f.Case)
	}
}

// matched visits a pattern, and an expression in which its variables are bound.
func (v *visit) matched(c *api.Case) {
	v.pat(&c.Pat)
	names := tree.Vars(c.Pat)
	v.bind(names, 1)
	v.exp(&c.Exp)
	v.bind(names, -1)
}

// exp visits an expression.
func (v *visit) exp(e *api.Exp) {
	switch {
	case e.Kind == api.ExCon:
		v.con(e.Name, e.At, len(e.Kids))
	case e.Kind == api.ExVar && v.bound[e.Name] == 0:
		v.report(api.Bad{Kind: api.ErrVar, At: e.At, Name: e.Name})
	}
	names := v.decs(e.Decs)
	for i := range e.Kids {
		v.exp(&e.Kids[i])
	}
	for i := range e.Cases {
		v.matched(&e.Cases[i])
	}
	v.bind(names, -1)
}

// pat visits a pattern, but does not bind its variables.
func (v *visit) pat(p *api.Pat) {
	var vars once
	var each func(p *api.Pat)
	each = func(p *api.Pat) {
		switch p.Kind {
		case api.PaCon:
			v.con(p.Name, p.At, len(p.Kids))
		case api.PaVar, api.PaAs:
			if !vars.add(p.Name) {
				v.report(api.Bad{Kind: api.ErrTwice, At: p.At, Name: p.Name})
			}
		}
		for i := range p.Kids {
			each(&p.Kids[i])
		}
	}
	each(p)
}

// con visits a constructor with so many arguments.
func (v *visit) con(name string, at, args int) {
	takes, isDeclared := v.cons[name]
	switch {
	case !isDeclared:
		v.report(api.Bad{Kind: api.ErrCon, At: at, Name: name})
	case takes != args:
		v.report(api.Bad{Kind: api.ErrCount, At: at, Name: name})
	}
}
