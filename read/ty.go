package read

import "camlet/api"

// openTy: a type that can contain any type variables.
func (p *parser) openTy() api.Ty {
	p.vars, p.open = map[string]int{}, true
	return p.ty()
}

func (p *parser) ty() api.Ty {
	argument := p.prodty()
	if p.skip("->") {
		return api.Ty{Kind: api.TyCon, Name: "->", Args: []api.Ty{argument, p.ty()}}
	}
	return argument
}

func (p *parser) prodty() api.Ty {
	l := list(p, "*", (*parser).postty)
	if len(l) == 1 {
		return l[0]
	}
	return api.Ty{Kind: api.TyCon, Name: "*", Args: l}
}

func (p *parser) postty() api.Ty {
	t := p.baseTy()
	for startsName(p.next()) {
		t = api.Ty{Kind: api.TyCon, Name: p.name(), Args: []api.Ty{t}}
	}
	return t
}

// baseTy: what a postty begins with.
func (p *parser) baseTy() api.Ty {
	t := p.take()
	switch {
	case t.Kind == api.TkTyvar:
		return api.Ty{Kind: api.TyVar, N: p.number(t)}
	case t.Kind == api.TkLow:
		return api.Ty{Kind: api.TyCon, Name: t.Text}
	case t.Text != "(":
		panic(refuse(t))
	}
	l := list(p, ",", (*parser).ty)
	p.expect(")")
	if len(l) == 1 {
		return l[0]
	}
	return api.Ty{Kind: api.TyCon, Name: p.name(), Args: l}
}

// number: the number of a type variable that has been taken.
func (p *parser) number(t api.Tok) int {
	n, known := p.vars[t.Text]
	if !known {
		if !p.open {
			panic(refuse(t))
		}
		n = len(p.vars)
		p.vars[t.Text] = n
	}
	return n
}

func startsName(t api.Tok) bool { return t.Kind == api.TkLow || t.Text == "ref" }

func (p *parser) name() string {
	t := p.take()
	if !startsName(t) {
		panic(refuse(t))
	}
	return t.Text
}
