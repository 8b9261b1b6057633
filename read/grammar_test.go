package read_test

import (
	"regexp"
	"strings"

	"camlet/api"
	"camlet/lex"
)

// chapter: the grammar of the document, a rule a line. ("that is no CAP" is left out of head: what an at would add there, CAP [at] has already.)
const chapter = `
program: {dec}
dec: "datatype" [tyvars] LOW "=" con {"|" con} | "exception" con | val | fun
tyvars: TYVAR | "(" TYVAR {"," TYVAR} ")"
con: CAP ["of" ty]
val: "val" pat "=" exp
fun: "fun" LOW atpat "=" exp {"and" LOW atpat "=" exp}
exp: "raise" exp | "fn" cases | "if" exp "then" exp "else" exp | "case" exp "of" cases | set
cases: pat "=>" exp {"|" pat "=>" exp}
set: try [":=" set]
try: or ["handle" cases]
or: and ["orelse" or]
and: cmp ["andalso" and]
cmp: sum [("=" | "<>" | "<" | "<=") sum]
sum: prod {("+" | "-") prod}
prod: app {("*" | "div" | "mod") app}
app: head {at}
head: "ref" at | "!" at | "print" at | CAP [at] | at
at: INT | "~" INT | LOW | CAP | "(" ")" | "(" exp ")" | "(" exp "," exp {"," exp} ")" | "(" exp ";" exp {";" exp} ")" | "let" {val | fun} "in" exp "end" | "read" "(" ")"
pat: LOW "as" pat | CAP [atpat] | atpat
atpat: "_" | LOW | INT | "~" INT | CAP | "(" ")" | "(" pat ")" | "(" pat "," pat {"," pat} ")"
ty: prodty ["->" ty]
prodty: postty {"*" postty}
postty: (TYVAR | LOW | "(" ty ")" | "(" ty "," ty {"," ty} ")" name) {name}
name: LOW | "ref"`

// A grammar has for each of its rules all that it can stand for. Rules are numbered; a symbol is "INT", a quoted string, or the name of a rule.
type grammar struct {
	rules []rule
	of    map[string][]int
	empty map[string]bool // what can stand for nothing
}

type rule struct {
	name string
	body []string
}

// theGrammar: that of the chapter, with a rule of its own for each bracket.
func theGrammar() *grammar {
	g := &grammar{of: map[string][]int{}, empty: map[string]bool{}}
	for _, line := range strings.Split(strings.TrimSpace(chapter), "\n") {
		name, body, _ := strings.Cut(line, ":")
		g.alternatives(name, regexp.MustCompile(`"[^"]+"|[A-Za-z]+|[][(){}|]`).FindAllString(body, -1))
	}
	for range g.rules {
		for _, r := range g.rules {
			empty := true
			for _, s := range r.body {
				empty = empty && g.empty[s]
			}
			g.empty[r.name] = g.empty[r.name] || empty
		}
	}
	return g
}

func (g *grammar) add(name string, body []string) {
	g.of[name] = append(g.of[name], len(g.rules))
	g.rules = append(g.rules, rule{name, body})
}

// alternatives: adds the rules of a name up to a closing bracket, and returns what follows it.
func (g *grammar) alternatives(name string, words []string) []string {
	var body []string
	for len(words) > 0 {
		word := words[0]
		words = words[1:]
		switch word {
		case "|":
			g.add(name, body)
			body = nil
		case "(", "[", "{":
			inner := name + word + strings.Repeat("'", len(words))
			words = g.alternatives(inner, words)
			body = append(body, inner)
			if word != "(" {
				g.add(inner, nil)
			}
			if word == "{" {
				repeated := inner + "+"
				g.add(repeated, nil)
				g.add(repeated, []string{inner, repeated})
				body[len(body)-1] = repeated
			}
		case ")", "]", "}":
			g.add(name, body)
			return words
		default:
			body = append(body, word)
		}
	}
	g.add(name, body)
	return nil
}

// item is a rule of which a part has been found from a token on.
type item struct{ rule, dot, from int }

// A chart has for each number of tokens the items that are possible behind so many (an Earley parser).
type chart []map[item]bool

func (g *grammar) start(name string) chart {
	first := map[item]bool{}
	for _, r := range g.of[name] {
		first[item{r, 0, 0}] = true
	}
	return chart{g.closed(nil, first)}
}

// after: the chart with one more token, or nil if the grammar cannot continue with it.
func (g *grammar) after(c chart, token string) chart {
	next := map[item]bool{}
	for it := range c[len(c)-1] {
		if g.symbol(it) == token {
			next[item{it.rule, it.dot + 1, it.from}] = true
		}
	}
	if len(next) == 0 {
		return nil
	}
	return append(c[:len(c):len(c)], g.closed(c, next))
}

// symbol: what follows the found part of an item, or "".
func (g *grammar) symbol(it item) string {
	if body := g.rules[it.rule].body; it.dot < len(body) {
		return body[it.dot]
	}
	return ""
}

// closed: adds to the last items of a chart all that follow from them.
func (g *grammar) closed(c chart, last map[item]bool) map[item]bool {
	var work []item
	for it := range last {
		work = append(work, it)
	}
	add := func(it item) {
		if !last[it] {
			last[it] = true
			work = append(work, it)
		}
	}
	for len(work) > 0 {
		it := work[len(work)-1]
		work = work[:len(work)-1]
		s := g.symbol(it)
		for _, r := range g.of[s] {
			add(item{r, 0, len(c)})
		}
		if g.empty[s] {
			add(item{it.rule, it.dot + 1, it.from})
		}
		if s != "" || it.from == len(c) { // a rule that stands for nothing has been passed over above
			continue
		}
		for up := range c[it.from] {
			if g.symbol(up) == g.rules[it.rule].name {
				add(item{up.rule, up.dot + 1, up.from})
			}
		}
	}
	return last
}

func (g *grammar) isWhole(c chart, name string) bool {
	for _, r := range g.of[name] {
		if c[len(c)-1][item{r, len(g.rules[r].body), 0}] {
			return true
		}
	}
	return g.empty[name] && len(c) == 1
}

// terminal: how the grammar names a token.
func terminal(t api.Tok) string {
	switch t.Kind {
	case api.TkInt:
		return "INT"
	case api.TkLow:
		return "LOW"
	case api.TkCap:
		return "CAP"
	case api.TkTyvar:
		return "TYVAR"
	}
	return `"` + t.Text + `"`
}

// isForbidden: is the last token a type variable that must not stand there, though the grammar of programs allows it?
func isForbidden(tokens []api.Tok) bool {
	last := tokens[len(tokens)-1]
	if last.Kind != api.TkTyvar {
		return false
	}
	declared, known := false, false // are all type variables of the declaration known, and is this one?
	inData := false
	for _, t := range tokens[:len(tokens)-1] {
		switch t.Text {
		case "datatype", "exception", "val", "fun":
			inData, declared, known = t.Text == "datatype", false, false
		case "=":
			declared = true
		case last.Text:
			known = known || !declared
		}
	}
	return !inData || known != declared
}

// fault: what P602 says of a text up to its tokens.
func (g *grammar) fault(name, s string) api.Bad {
	tokens, bad := lex.Scan(s)
	if bad.Kind != api.OK {
		return bad
	}
	c := g.start(name)
	for i, t := range tokens {
		c = g.after(c, terminal(t))
		if c == nil || name == "program" && isForbidden(tokens[:i+1]) {
			return api.Bad{Kind: api.ErrToken, At: t.At, Name: t.Text}
		}
	}
	if !g.isWhole(c, name) {
		return api.Bad{Kind: api.ErrEnd, At: len(s)}
	}
	return api.Bad{}
}
