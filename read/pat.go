package read

import "camlet/api"

func (p *parser) pat() api.Pat {
	t := p.next()
	if t.Kind == api.TkLow && p.ahead(1).Text == "as" {
		p.take()
		p.expect("as")
		return api.Pat{Kind: api.PaAs, At: t.At, Name: t.Text, Kids: []api.Pat{p.pat()}}
	}
	x := p.atpat()
	if t.Kind == api.TkCap && startsAtpat(p.next()) {
		x.Kids = []api.Pat{p.atpat()}
	}
	return x
}

// startsAtpat: can an atpat begin with a token?
func startsAtpat(t api.Tok) bool {
	switch t.Kind {
	case api.TkInt, api.TkLow, api.TkCap:
		return true
	}
	return t.Text == "_" || t.Text == "~" || t.Text == "("
}

func (p *parser) atpat() api.Pat {
	t := p.take()
	switch t.Kind {
	case api.TkInt:
		return api.Pat{Kind: api.PaInt, At: t.At, N: t.N}
	case api.TkLow:
		return api.Pat{Kind: api.PaVar, At: t.At, Name: t.Text}
	case api.TkCap:
		return api.Pat{Kind: api.PaCon, At: t.At, Name: t.Text}
	}
	switch t.Text {
	case "_":
		return api.Pat{Kind: api.PaAny, At: t.At}
	case "~":
		return api.Pat{Kind: api.PaInt, At: t.At, N: -p.expectKind(api.TkInt).N}
	case "(":
		return p.patInParens(t.At)
	}
	panic(refuse(t))
}

// patInParens: the rest of a pattern that begins with a parenthesis at an offset.
func (p *parser) patInParens(at int) api.Pat {
	if p.skip(")") {
		return api.Pat{Kind: api.PaCon, At: at, Name: "()"}
	}
	x := p.pat()
	if p.next().Text == "," {
		x = api.Pat{Kind: api.PaTuple, At: at, Kids: more(p, x, ",", (*parser).pat)}
	}
	p.expect(")")
	return x
}
