package read

import "camlet/api"

func (p *parser) program() []api.Dec {
	var l []api.Dec
	for len(p.rest) > 0 {
		l = append(l, p.dec())
	}
	return l
}

func (p *parser) dec() api.Dec {
	switch p.next().Text {
	case "datatype":
		return p.data()
	case "exception":
		at := p.take().At
		return api.Dec{Kind: api.DcExn, At: at, Cons: []api.Con{p.con()}}
	}
	return p.valOrFun()
}

// data: a datatype. Its type variables are allowed in its own constructors only.
func (p *parser) data() api.Dec {
	at := p.take().At
	p.vars = map[string]int{}
	p.tyvars()
	name := p.expectKind(api.TkLow).Text
	p.expect("=")
	d := api.Dec{Kind: api.DcData, At: at, Name: name, Params: len(p.vars), Cons: list(p, "|", (*parser).con)}
	p.vars = nil
	return d
}

func (p *parser) tyvars() {
	if p.skip("(") {
		list(p, ",", (*parser).newTyvar)
		p.expect(")")
	} else if p.next().Kind == api.TkTyvar {
		p.newTyvar()
	}
}

// newTyvar: takes a type variable, which must not be allowed yet, and is from now on.
func (p *parser) newTyvar() api.Tok {
	t := p.expectKind(api.TkTyvar)
	if _, twice := p.vars[t.Text]; twice {
		panic(refuse(t))
	}
	p.vars[t.Text] = len(p.vars)
	return t
}

func (p *parser) con() api.Con {
	name := p.expectKind(api.TkCap)
	c := api.Con{Name: name.Text, At: name.At}
	if p.skip("of") {
		c.Has, c.Arg = true, p.ty()
	}
	return c
}

func (p *parser) valOrFun() api.Dec {
	keyword := p.take()
	d := api.Dec{At: keyword.At}
	switch keyword.Text {
	case "val":
		d.Kind, d.Case = api.DcVal, []api.Case{p.match((*parser).pat, "=")}
	case "fun":
		d.Kind, d.Funs = api.DcFun, list(p, "and", (*parser).fun)
	default:
		panic(refuse(keyword))
	}
	return d
}

// fun: one function of a group.
func (p *parser) fun() api.Fun {
	name := p.expectKind(api.TkLow)
	return api.Fun{Name: name.Text, At: name.At, Case: p.match((*parser).atpat, "=")}
}

// match: a pattern, a symbol, and the expression behind it.
func (p *parser) match(pattern func(*parser) api.Pat, symbol string) api.Case {
	x := pattern(p)
	return api.Case{Pat: x, Exp: p.expAfter(symbol)}
}
