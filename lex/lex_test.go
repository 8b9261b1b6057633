package lex_test

import (
	"math"
	"regexp"
	"slices"
	"strconv"
	"strings"
	"testing"

	"camlet/api"
	"camlet/lex"
)

const (
	keywords = "and andalso as case datatype div else end exception fn fun handle if in let mod of orelse print raise read ref then val"
	symbols  = "! ( ) * + , - -> : := ; < <= <> = => _ | ~"
)

var (
	blankForm = regexp.MustCompile(`^[ \t\n\r]+`)
	edgeForm  = regexp.MustCompile(`\(\*|\*\)`)
	tokenForm = regexp.MustCompile(`^(?:[0-9]+|'?[A-Za-z_][A-Za-z0-9_']*|:=|->|=>|<=|<>|[!()*+,\-:;<=|~])`)
)

// commentEnd: the length of the comment with which a text begins, or 0 if it is not closed.
func commentEnd(s string) int {
	depth := 0
	for _, edge := range edgeForm.FindAllStringIndex(s, -1) {
		if s[edge[0]] == '(' {
			depth++
		} else {
			depth--
		}
		if depth == 0 {
			return edge[1]
		}
	}
	return 0
}

// expected: what P402 and P403 say of a text, by regular expressions.
func expected(s string) ([]api.Tok, api.Bad) {
	if len(s) > api.MaxText {
		return nil, api.Bad{Kind: api.ErrLong}
	}
	var l []api.Tok
	for at := 0; at < len(s); {
		rest := s[at:]
		if blank := blankForm.FindString(rest); blank != "" {
			at += len(blank)
			continue
		}
		if strings.HasPrefix(rest, "(*") {
			n := commentEnd(rest)
			if n == 0 {
				return nil, api.Bad{Kind: api.ErrOpen, At: at}
			}
			at += n
			continue
		}
		text := tokenForm.FindString(rest)
		after := ""
		if len(l) > 0 {
			after = l[len(l)-1].Text
		}
		tok, kind := expectedTok(text, after)
		if len(l) >= api.MaxToks {
			kind = api.ErrLong
		}
		if kind != api.OK {
			return nil, api.Bad{Kind: kind, At: at}
		}
		tok.At = at
		l = append(l, tok)
		at += len(text)
	}
	return l, api.Bad{}
}

// expectedTok: the token of a text that follows the token of another text, or its error.
func expectedTok(text, after string) (api.Tok, api.Errno) {
	if text == "" {
		return api.Tok{}, api.ErrSign
	}
	tok := api.Tok{Kind: api.TkLow, Text: text}
	switch first := text[:1]; {
	case '0' <= text[0] && text[0] <= '9':
		n, err := strconv.Atoi(text)
		if err != nil || strconv.Itoa(n) != text || n > 1<<30 || n == 1<<30 && after != "~" {
			return api.Tok{}, api.ErrNumber
		}
		tok.Kind, tok.N = api.TkInt, n
		return tok, api.OK
	case slices.Contains(strings.Fields(symbols), text):
		tok.Kind = api.TkSign
	case slices.Contains(strings.Fields(keywords), text):
		tok.Kind = api.TkWord
	case text == "true", text == "false", first != "_" && first != "'" && first == strings.ToUpper(first):
		tok.Kind = api.TkCap
	case first == "'":
		tok.Kind = api.TkTyvar
	}
	if len(strings.TrimLeft(text[:1], "'")+text[1:]) > api.MaxName {
		return api.Tok{}, api.ErrLong
	}
	return tok, api.OK
}

// joined: all strings of up to n parts out of a list.
func joined(n int, parts ...string) []string {
	all, last := []string{""}, []string{""}
	for range n {
		var longer []string
		for _, s := range last {
			for _, p := range parts {
				longer = append(longer, s+p)
			}
		}
		all, last = append(all, longer...), longer
	}
	return all
}

// texts: texts with and without errors: all short ones of the bytes that tokens and comments share, and some longer ones.
func texts() []string {
	l := []string{
		"val x'=~12(*a(*b*)*)", "fun f (x, y) = x+~3 (* no *) <= 'a _ _b", "datatype 'a list = Nil | Cons of 'a * 'a list",
		"val r = ref 3 val u = r := !r + read () val v = print (!r)", "\tlet\r\nin\nend ", "a\vb", "é", "x\x00", "x\x80", "\xff",
		"~1073741824", "~ (* 1 *) \n1073741824", "~~1073741824", "~1073741824 1073741824", "~1073741825", "- 1073741824", "x~1 1073741824",
		strings.Repeat("9", 1000), "~" + strings.Repeat("9", 1000), strings.Repeat("0", 1000), "1" + strings.Repeat("0", 64), "18446744073709551617", "4294967296", "9223372036854775808",
		strings.Repeat("(*", 500) + strings.Repeat("*)", 500), strings.Repeat("(*", 500) + strings.Repeat("*)", 499),
	}
	for _, n := range []int{31, 32, 33, 34, 100} {
		for _, first := range []string{"a", "A", "_", "'a", "'A", "'_", "'val", "a'"} {
			l = append(l, first+strings.Repeat("'", n-1), "x ~"+first+strings.Repeat("9", n-2)+"+1", first+strings.Repeat("z", n-len(first)))
		}
	}
	l = append(l, joined(4, "(", "*", ")", "a", "V", "0", "7", "'", "_", " ", "$")...)
	l = append(l, joined(4, "<", "=", ">", "-", ":", "~", "|", "*", "x", "1", "!")...)
	return append(l, joined(7, "(", "*", ")", " ")...)
}

// long: texts at and beyond the limits of texts and tokens.
func long() []string {
	var l []string
	for _, n := range []int{api.MaxToks - 1, api.MaxToks, api.MaxToks + 1} {
		for _, tail := range []string{"", " \n", "(* *)", "(* *) x", "(*", " (* (* *)", "$", "  $", "012", " 1073741824", " " + strings.Repeat("x", 40), "'", "é"} {
			l = append(l, strings.Repeat(";", n)+tail, strings.Repeat("~ 1", n/2)+tail)
		}
	}
	for _, n := range []int{api.MaxText - 1, api.MaxText, api.MaxText + 1, 2 * api.MaxText} {
		l = append(l, strings.Repeat(" ", n), strings.Repeat("$", n), strings.Repeat("0", n), strings.Repeat("9", n), strings.Repeat("x", n), strings.Repeat("(", n), strings.Repeat("'", n))
		l = append(l, "(*"+strings.Repeat("*", n-3)+")", "(*"+strings.Repeat(" ", n-2), strings.Repeat("(*", n/4)+strings.Repeat("*)", n/4)+strings.Repeat(" ", n%4))
		l = append(l, strings.Repeat("ab 7", n/8)+strings.Repeat(" ", n-4*(n/8)), strings.Repeat(" ", n-1)+"x")
	}
	return l
}

// short: a text as it is told of in a failure.
func short(s string) string {
	if len(s) > 60 {
		return strconv.Quote(s[:60]) + ".. of " + strconv.Itoa(len(s)) + " bytes"
	}
	return strconv.Quote(s)
}

func TestP401WordsAndSigns(t *testing.T) {
	for _, x := range []struct {
		call func() []string
		want string
	}{{lex.Words, keywords}, {lex.Signs, symbols}} {
		l := x.call()
		if strings.Join(l, " ") != x.want || !slices.IsSorted(l) {
			t.Error(l, "and not", x.want)
		}
		for i := range l {
			l[i] = "x"
		}
		_ = append(l[:len(l)-1], "y")
		if strings.Join(x.call(), " ") != x.want {
			t.Error("a result was shared with the next one")
		}
	}
	if l, b := lex.Scan("val x"); b != (api.Bad{}) || l[0].Kind != api.TkWord || l[1].Kind != api.TkLow {
		t.Error("a result was shared with what Scan looks words up in", l, b)
	}
}

func TestP401CallsArePure(t *testing.T) {
	l := append(texts()[:2000], long()...)
	type told struct {
		l []api.Tok
		b api.Bad
		s string
	}
	var first []told
	for _, s := range l {
		toks, b := lex.Scan(s)
		first = append(first, told{slices.Clone(toks), b, lex.Show(toks)})
		for i := range toks {
			toks[i] = api.Tok{Kind: -1, Text: "?"}
		}
	}
	for i, s := range slices.Backward(l) {
		toks, b := lex.Scan(s)
		if b != first[i].b || !slices.Equal(toks, first[i].l) || lex.Show(toks) != first[i].s {
			t.Fatal("an earlier call changed the results for", short(s))
		}
	}
}

func TestP402Tokens(t *testing.T) {
	for _, x := range []struct {
		s    string
		want []api.Tok
	}{
		{"", nil}, {" \t\n\r", nil}, {"(**)", nil}, {"(*)*)", nil}, {"(*(**)*)(*$012'*) ", nil}, {"(***)", nil}, {"(*)(**)*)", nil},
		{"val x'=~12(*a(*b*)*)", []api.Tok{
			{Kind: api.TkWord, At: 0, Text: "val"}, {Kind: api.TkLow, At: 4, Text: "x'"}, {Kind: api.TkSign, At: 6, Text: "="},
			{Kind: api.TkSign, At: 7, Text: "~"}, {Kind: api.TkInt, At: 8, Text: "12", N: 12}}},
		{"'a list", []api.Tok{{Kind: api.TkTyvar, At: 0, Text: "'a"}, {Kind: api.TkLow, At: 3, Text: "list"}}},
		{"true false True trueX", []api.Tok{
			{Kind: api.TkCap, At: 0, Text: "true"}, {Kind: api.TkCap, At: 5, Text: "false"}, {Kind: api.TkCap, At: 11, Text: "True"}, {Kind: api.TkLow, At: 16, Text: "trueX"}}},
		{"_ __ _1 _' _b", []api.Tok{
			{Kind: api.TkSign, At: 0, Text: "_"}, {Kind: api.TkLow, At: 2, Text: "__"}, {Kind: api.TkLow, At: 5, Text: "_1"}, {Kind: api.TkLow, At: 8, Text: "_'"}, {Kind: api.TkLow, At: 11, Text: "_b"}}},
		{"'_ 'val 'true 'A1' 1'b", []api.Tok{
			{Kind: api.TkTyvar, At: 0, Text: "'_"}, {Kind: api.TkTyvar, At: 3, Text: "'val"}, {Kind: api.TkTyvar, At: 8, Text: "'true"}, {Kind: api.TkTyvar, At: 14, Text: "'A1'"},
			{Kind: api.TkInt, At: 19, Text: "1", N: 1}, {Kind: api.TkTyvar, At: 20, Text: "'b"}}},
		{"12ab3x'y'", []api.Tok{{Kind: api.TkInt, At: 0, Text: "12", N: 12}, {Kind: api.TkLow, At: 2, Text: "ab3x'y'"}}},
		{"0 7 1073741823 ~1073741824", []api.Tok{
			{Kind: api.TkInt, At: 0, Text: "0"}, {Kind: api.TkInt, At: 2, Text: "7", N: 7}, {Kind: api.TkInt, At: 4, Text: "1073741823", N: 1<<30 - 1},
			{Kind: api.TkSign, At: 15, Text: "~"}, {Kind: api.TkInt, At: 16, Text: "1073741824", N: 1 << 30}}},
		{"=:=->=><><=<-:*)", []api.Tok{
			{Kind: api.TkSign, At: 0, Text: "="}, {Kind: api.TkSign, At: 1, Text: ":="}, {Kind: api.TkSign, At: 3, Text: "->"}, {Kind: api.TkSign, At: 5, Text: "=>"},
			{Kind: api.TkSign, At: 7, Text: "<>"}, {Kind: api.TkSign, At: 9, Text: "<="}, {Kind: api.TkSign, At: 11, Text: "<"}, {Kind: api.TkSign, At: 12, Text: "-"},
			{Kind: api.TkSign, At: 13, Text: ":"}, {Kind: api.TkSign, At: 14, Text: "*"}, {Kind: api.TkSign, At: 15, Text: ")"}}},
		{"val(**)ue va(* *)l", []api.Tok{{Kind: api.TkWord, At: 0, Text: "val"}, {Kind: api.TkLow, At: 7, Text: "ue"}, {Kind: api.TkLow, At: 10, Text: "va"}, {Kind: api.TkLow, At: 17, Text: "l"}}},
	} {
		if l, b := lex.Scan(x.s); b != (api.Bad{}) || !slices.Equal(l, x.want) {
			t.Errorf("%q has the tokens %v, %v and not %v", x.s, l, b, x.want)
		}
	}
}

func TestP402WordsAndSigns(t *testing.T) {
	for _, x := range []struct {
		texts string
		kind  api.TokKind
	}{
		{keywords, api.TkWord}, {symbols, api.TkSign},
		{"vals va Val_ VAL Fn andAlso and_ and' fun0 list o u", 0},
	} {
		for _, s := range strings.Fields(x.texts) {
			want := x.kind
			if want == 0 {
				want = api.TkLow
				if s != strings.ToLower(s[:1])+s[1:] {
					want = api.TkCap
				}
			}
			if l, b := lex.Scan(s); b != (api.Bad{}) || !slices.Equal(l, []api.Tok{{Kind: want, Text: s}}) {
				t.Errorf("%q has the tokens %v, %v and not one of the kind %d", s, l, b, want)
			}
		}
	}
}

func TestP402EachByte(t *testing.T) {
	for n := range 256 {
		b := string([]byte{byte(n)})
		for _, s := range []string{b, b + b, "a" + b, "a" + b + "c", "1" + b, "'" + b, b + "a", "(*" + b + "*)", "(*" + b, "=" + b, b + "="} {
			l, bad := lex.Scan(s)
			want, wantBad := expected(s)
			if !slices.Equal(l, want) || bad != wantBad {
				t.Errorf("%q has the tokens %v, %v and not %v, %v", s, l, bad, want, wantBad)
			}
		}
	}
}

func TestP402P403ManyTexts(t *testing.T) {
	for _, s := range append(texts(), long()...) {
		l, b := lex.Scan(s)
		want, wantBad := expected(s)
		if !slices.Equal(l, want) || b != wantBad {
			t.Fatalf("%s has %d tokens, %v and not %d, %v", short(s), len(l), b, len(want), wantBad)
		}
	}
}

func TestP403Errors(t *testing.T) {
	name, full := strings.Repeat("n", api.MaxName), strings.Repeat("x ", api.MaxToks)
	for _, x := range []struct {
		s    string
		kind api.Errno
		at   int
	}{
		{strings.Repeat(" ", api.MaxText), api.OK, 0}, {strings.Repeat(" ", api.MaxText+1), api.ErrLong, 0},
		{"$" + strings.Repeat(" ", api.MaxText), api.ErrLong, 0}, {"(*" + strings.Repeat(" ", api.MaxText), api.ErrLong, 0},
		{"a (* b", api.ErrOpen, 2}, {"(*", api.ErrOpen, 0}, {"(*)", api.ErrOpen, 0}, {" (* (* *)", api.ErrOpen, 1}, {"(**) (*(*(**)*)", api.ErrOpen, 5}, {"(*(*)*)", api.ErrOpen, 0}, {"(*)*)(*)", api.ErrOpen, 5},
		{full, api.OK, 0}, {full + " (* x *) \n", api.OK, 0}, {full + "x", api.ErrLong, len(full)}, {full + "(* *)  x", api.ErrLong, len(full) + 7},
		{full + "$", api.ErrLong, len(full)}, {full + "00", api.ErrLong, len(full)}, {full + name + "n", api.ErrLong, len(full)}, {full + "(* $", api.ErrOpen, len(full)}, {full + "$ (*", api.ErrLong, len(full)},
		{"012", api.ErrNumber, 0}, {"00", api.ErrNumber, 0}, {"0", api.OK, 0}, {"a 10 01", api.ErrNumber, 5}, {"~00", api.ErrNumber, 1}, {"0a", api.OK, 0},
		{"1073741823", api.OK, 0}, {"1073741824", api.ErrNumber, 0}, {"~1073741824", api.OK, 0}, {"~1073741825", api.ErrNumber, 1}, {"~ (* 1 *) 1073741824", api.OK, 0},
		{"-1073741824", api.ErrNumber, 1}, {"~ x 1073741824", api.ErrNumber, 4}, {"~1073741824 1073741824", api.ErrNumber, 12}, {"(*~*)1073741824", api.ErrNumber, 5}, {"~01073741824", api.ErrNumber, 1},
		{"2147483648", api.ErrNumber, 0}, {"4294967297", api.ErrNumber, 0}, {"18446744073709551617", api.ErrNumber, 0}, {"~" + strings.Repeat("3", 60000), api.ErrNumber, 1},
		{name, api.OK, 0}, {"+" + name + "n", api.ErrLong, 1}, {"N" + name, api.ErrLong, 0}, {"_" + name, api.ErrLong, 0}, {name + "'", api.ErrLong, 0}, {name + "0 $", api.ErrLong, 0},
		{"'" + name, api.OK, 0}, {" '" + name + "n", api.ErrLong, 1}, {"'" + name + "'", api.ErrLong, 0}, {"1" + name, api.OK, 0}, {strings.Repeat("_", api.MaxName+1), api.ErrLong, 0},
		{"a $", api.ErrSign, 2}, {"'", api.ErrSign, 0}, {"''a", api.ErrSign, 0}, {"'1", api.ErrSign, 0}, {"a '", api.ErrSign, 2}, {"' a", api.ErrSign, 0}, {"12'", api.ErrSign, 2}, {"'(**)a", api.ErrSign, 0},
		{">", api.ErrSign, 0}, {"~>", api.ErrSign, 1}, {"a >= b", api.ErrSign, 2}, {"é", api.ErrSign, 0}, {"xé", api.ErrSign, 1}, {"x\x00", api.ErrSign, 1}, {" \v", api.ErrSign, 1}, {"\f", api.ErrSign, 0}, {"\u00a0", api.ErrSign, 0}, {"x\xff", api.ErrSign, 1},
		{"$ 012 (*", api.ErrSign, 0}, {"012 $ (*", api.ErrNumber, 0}, {"(* $ 012", api.ErrOpen, 0}, {"x)(*", api.ErrOpen, 2},
	} {
		l, b := lex.Scan(x.s)
		if b != (api.Bad{Kind: x.kind, At: x.at}) {
			t.Errorf("%s gives %v and not %d at %d", short(x.s), b, x.kind, x.at)
		}
		if b.Kind != api.OK && len(l) > 0 {
			t.Errorf("%s has tokens beside an error", short(x.s))
		}
	}
}

func TestP404Show(t *testing.T) {
	for _, x := range []struct {
		l    []api.Tok
		want string
	}{
		{nil, ""}, {[]api.Tok{}, ""}, {[]api.Tok{{}}, ""}, {[]api.Tok{{}, {}, {}}, "  "},
		{[]api.Tok{{Kind: api.TkInt, Text: "12", N: 12}}, "12"},
		{[]api.Tok{{Kind: api.TkInt, N: 12}, {Kind: 99, At: -4, Text: "$ \n"}, {Text: "(*", N: math.MinInt}, {Text: "\xff"}}, " $ \n (* \xff"},
		{[]api.Tok{{Kind: api.TkSign, At: 9, Text: "("}, {Kind: api.TkSign, At: 9, Text: "*"}, {Kind: api.TkTyvar, Text: "'a"}}, "( * 'a"},
	} {
		before := slices.Clone(x.l)
		if s := lex.Show(x.l); s != x.want || !slices.Equal(x.l, before) {
			t.Errorf("%v is shown as %q and not as %q", before, s, x.want)
		}
	}
	if s := lex.Show(make([]api.Tok, 100001)); s != strings.Repeat(" ", 100000) {
		t.Error("100001 tokens without bytes are shown by", len(s), "bytes")
	}
}

func TestP405RoundTrip(t *testing.T) {
	tokens := 0
	for _, s := range append(texts(), long()...) {
		l, b := lex.Scan(s)
		shown := lex.Show(l)
		if b != (api.Bad{}) || len(shown) > api.MaxText {
			continue
		}
		again, b := lex.Scan(shown)
		if b != (api.Bad{}) || len(again) != len(l) {
			t.Fatal(short(s), "is shown as", short(shown), "which has", len(again), "tokens", b)
		}
		for i := range l {
			l[i].At, again[i].At = 0, 0
		}
		if !slices.Equal(l, again) {
			t.Fatal(short(s), "is shown as", short(shown), "which has other tokens")
		}
		tokens += len(l)
	}
	if tokens == 0 {
		t.Error("no text had a token")
	}
}

func TestP406Prefixes(t *testing.T) {
	for _, s := range append(texts(), long()...) {
		l, b := lex.Scan(s)
		end := 0
		for _, tok := range l {
			if tok.At < end || tok.Text == "" || !strings.HasPrefix(s[tok.At:], tok.Text) {
				t.Fatal(short(s), "does not have", tok, "behind", end)
			}
			end = tok.At + len(tok.Text)
		}
		if b != (api.Bad{}) || len(l) == 0 {
			continue
		}
		last := len(l) - 1
		if rest, b := lex.Scan(s[:l[last].At]); b != (api.Bad{}) || !slices.Equal(rest, l[:last]) {
			t.Fatal(short(s), "without its last token has", len(rest), "tokens", b)
		}
	}
}
