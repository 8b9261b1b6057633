package read

import "camlet/api"

func (p *parser) exp() api.Exp {
	t := p.next()
	switch t.Text {
	case "raise":
		return api.Exp{Kind: api.ExRaise, At: t.At, Kids: []api.Exp{p.expAfter("raise")}}
	case "fn":
		return api.Exp{Kind: api.ExFn, At: t.At, Cases: p.casesAfter("fn")}
	case "if":
		return api.Exp{Kind: api.ExIf, At: t.At, Kids: []api.Exp{p.expAfter("if"), p.expAfter("then"), p.expAfter("else")}}
	case "case":
		return api.Exp{Kind: api.ExCase, At: t.At, Kids: []api.Exp{p.expAfter("case")}, Cases: p.casesAfter("of")}
	}
	return p.set()
}

func (p *parser) expAfter(text string) api.Exp {
	p.expect(text)
	return p.exp()
}

func (p *parser) casesAfter(text string) []api.Case {
	p.expect(text)
	return list(p, "|", func(p *parser) api.Case { return p.match((*parser).pat, "=>") })
}

func (p *parser) set() api.Exp {
	left := p.try()
	if p.skip(":=") {
		return joined(api.ExSet, left, p.set())
	}
	return left
}

func (p *parser) try() api.Exp {
	body := p.or()
	if p.next().Text == "handle" {
		return api.Exp{Kind: api.ExTry, At: body.At, Kids: []api.Exp{body}, Cases: p.casesAfter("handle")}
	}
	return body
}

func (p *parser) or() api.Exp {
	left := p.and()
	if p.skip("orelse") {
		return joined(api.ExOr, left, p.or())
	}
	return left
}

func (p *parser) and() api.Exp {
	left := p.cmp()
	if p.skip("andalso") {
		return joined(api.ExAnd, left, p.and())
	}
	return left
}

func (p *parser) cmp() api.Exp {
	left := p.sum()
	switch p.next().Text {
	case "=":
		return p.operation(api.PrEq, left, (*parser).sum)
	case "<>":
		return p.operation(api.PrNe, left, (*parser).sum)
	case "<":
		return p.operation(api.PrLt, left, (*parser).sum)
	case "<=":
		return p.operation(api.PrLe, left, (*parser).sum)
	}
	return left
}

func (p *parser) sum() api.Exp {
	left := p.prod()
	for {
		switch p.next().Text {
		case "+":
			left = p.operation(api.PrAdd, left, (*parser).prod)
		case "-":
			left = p.operation(api.PrSub, left, (*parser).prod)
		default:
			return left
		}
	}
}

func (p *parser) prod() api.Exp {
	left := p.app()
	for {
		switch p.next().Text {
		case "*":
			left = p.operation(api.PrMul, left, (*parser).app)
		case "div":
			left = p.operation(api.PrDiv, left, (*parser).app)
		case "mod":
			left = p.operation(api.PrMod, left, (*parser).app)
		default:
			return left
		}
	}
}

// operation: takes an operator and its right operand.
func (p *parser) operation(prim api.Prim, left api.Exp, operand func(*parser) api.Exp) api.Exp {
	p.take()
	e := joined(api.ExOp, left, operand(p))
	e.N = int(prim)
	return e
}

// joined: an expression of two operands, which begins where the first one does.
func joined(kind api.ExpKind, left, right api.Exp) api.Exp {
	return api.Exp{Kind: kind, At: left.At, Kids: []api.Exp{left, right}}
}

func (p *parser) app() api.Exp {
	e := p.head()
	for startsAt(p.next()) {
		e = joined(api.ExApp, e, p.at())
	}
	return e
}

func (p *parser) head() api.Exp {
	switch p.next().Text {
	case "ref":
		return p.prefix(api.ExRef)
	case "!":
		return p.prefix(api.ExGet)
	case "print":
		return p.prefix(api.ExPrint)
	}
	isCon := p.next().Kind == api.TkCap
	e := p.at()
	if isCon && startsAt(p.next()) {
		e.Kids = []api.Exp{p.at()}
	}
	return e
}

// prefix: takes a keyword or symbol and its operand.
func (p *parser) prefix(kind api.ExpKind) api.Exp {
	at := p.take().At
	return api.Exp{Kind: kind, At: at, Kids: []api.Exp{p.at()}}
}

// startsAt: can an at begin with a token?
func startsAt(t api.Tok) bool {
	return startsAtpat(t) && t.Text != "_" || t.Text == "let" || t.Text == "read"
}

func (p *parser) at() api.Exp {
	t := p.take()
	switch t.Kind {
	case api.TkInt:
		return api.Exp{Kind: api.ExInt, At: t.At, N: t.N}
	case api.TkLow:
		return api.Exp{Kind: api.ExVar, At: t.At, Name: t.Text}
	case api.TkCap:
		return api.Exp{Kind: api.ExCon, At: t.At, Name: t.Text}
	}
	switch t.Text {
	case "~":
		return api.Exp{Kind: api.ExInt, At: t.At, N: -p.expectKind(api.TkInt).N}
	case "(":
		return p.inParens(t.At)
	case "let":
		return p.let(t.At)
	case "read":
		p.expect("(")
		p.expect(")")
		return api.Exp{Kind: api.ExRead, At: t.At}
	}
	panic(refuse(t))
}

// inParens: the rest of an expression that begins with a parenthesis at an offset.
func (p *parser) inParens(at int) api.Exp {
	if p.skip(")") {
		return api.Exp{Kind: api.ExCon, At: at, Name: "()"}
	}
	e := p.exp()
	switch p.next().Text {
	case ",":
		e = api.Exp{Kind: api.ExTuple, At: at, Kids: more(p, e, ",", (*parser).exp)}
	case ";":
		e = api.Exp{Kind: api.ExSeq, At: e.At, Kids: more(p, e, ";", (*parser).exp)}
	}
	p.expect(")")
	return e
}

// let: the rest of a let that begins at an offset.
func (p *parser) let(at int) api.Exp {
	e := api.Exp{Kind: api.ExLet, At: at}
	for p.next().Text == "val" || p.next().Text == "fun" {
		e.Decs = append(e.Decs, p.valOrFun())
	}
	e.Kids = []api.Exp{p.expAfter("in")}
	p.expect("end")
	return e
}
