package read

import "camlet/api"

// parser is the tokens of a text that no construct has taken yet. Its methods take those of the construct that they are named after in the grammar; at the first token with which the grammar cannot continue they panic with a refusal.
type parser struct {
	rest []api.Tok
	end  int            // the length of the text
	vars map[string]int // the type variables that are allowed, with their numbers
	open bool           // are all other type variables allowed too, and numbered as they occur?
}

// refusal is what a parser panics with.
type refusal struct{ bad api.Bad }

func refuse(t api.Tok) refusal {
	return refusal{api.Bad{Kind: api.ErrToken, At: t.At, Name: t.Text}}
}

// next: the next token, or behind the last one the zero token, whose kind and text no other token has.
func (p *parser) next() api.Tok { return p.ahead(0) }

// ahead: the token behind so many others.
func (p *parser) ahead(n int) api.Tok {
	if n >= len(p.rest) {
		return api.Tok{}
	}
	return p.rest[n]
}

func (p *parser) take() api.Tok {
	if len(p.rest) == 0 {
		panic(refusal{api.Bad{Kind: api.ErrEnd, At: p.end}})
	}
	t := p.rest[0]
	p.rest = p.rest[1:]
	return t
}

// expect: takes the keyword or symbol with a text. (No token of another kind has its text.)
func (p *parser) expect(text string) api.Tok {
	t := p.take()
	if t.Text != text {
		panic(refuse(t))
	}
	return t
}

func (p *parser) expectKind(kind api.TokKind) api.Tok {
	t := p.take()
	if t.Kind != kind {
		panic(refuse(t))
	}
	return t
}

// skip: takes the keyword or symbol with a text if it is the next token; is it?
func (p *parser) skip(text string) bool {
	if p.next().Text != text {
		return false
	}
	p.take()
	return true
}

// list: one construct, and another one behind each separator.
func list[T any](p *parser, separator string, construct func(*parser) T) []T {
	return more(p, construct(p), separator, construct)
}

// more: a construct that has been taken, and another one behind each separator.
func more[T any](p *parser, first T, separator string, construct func(*parser) T) []T {
	l := []T{first}
	for p.skip(separator) {
		l = append(l, construct(p))
	}
	return l
}
