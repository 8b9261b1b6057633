package decl_test

import (
	"slices"
	"strconv"
	"strings"

	"camlet/api"
)

func tv(n int) api.Ty { return api.Ty{Kind: api.TyVar, N: n} }

func tc(s string, args ...api.Ty) api.Ty { return api.Ty{Kind: api.TyCon, Name: s, Args: args} }

// con: a constructor, with an argument if one is given.
func con(at int, name string, arg ...api.Ty) api.Con {
	c := api.Con{Name: name, At: at, Has: len(arg) > 0}
	if c.Has {
		c.Arg = arg[0]
	}
	return c
}

func data(at int, name string, params int, cons ...api.Con) api.Dec {
	return api.Dec{Kind: api.DcData, At: at, Name: name, Params: params, Cons: cons}
}

func exception(at int, name string, arg ...api.Ty) api.Dec {
	return api.Dec{Kind: api.DcExn, At: at, Cons: []api.Con{con(at+10, name, arg...)}}
}

// val and fun: declarations that add no constructors, although they use some.
func val() api.Dec {
	e := api.Exp{Kind: api.ExCon, Name: "Val"}
	return api.Dec{Kind: api.DcVal, At: 1, Case: []api.Case{{Pat: api.Pat{Kind: api.PaCon, Name: "Pat"}, Exp: e}}}
}

func fun() api.Dec {
	return api.Dec{Kind: api.DcFun, At: 1, Funs: []api.Fun{{Name: "t", Case: val().Case[0]}, {Name: "int", Case: val().Case[0]}}}
}

// list and opt: datatypes with one parameter.
func list() api.Dec {
	return data(1, "list", 1, con(2, "Nil"), con(3, "Cons", tc("*", tv(0), tc("list", tv(0)))))
}

func opt() api.Dec { return data(4, "opt", 1, con(5, "None"), con(6, "Some", tv(0))) }

// tower: a type of so many levels, at least 1, with another one at its end.
func tower(levels int, end api.Ty) api.Ty {
	for range levels - 1 {
		end = tc("ref", end)
	}
	return end
}

// large: a type of so many nodes, an odd number, without many levels.
func large(size int) api.Ty {
	if size == 1 {
		return tc("int")
	}
	half := (size - 1) / 2
	half -= (half + 1) % 2
	return tc("->", large(half), large(size-1-half))
}

// tell: a type as a text.
func tell(t api.Ty) string {
	if t.Kind == api.TyVar && t.Name == "" && len(t.Args) == 0 {
		return " '" + strconv.Itoa(t.N)
	}
	s := " " + t.Name
	if t.Kind != api.TyCon || t.N != 0 {
		s += "/" + strconv.Itoa(int(t.Kind)) + "/" + strconv.Itoa(t.N)
	}
	if len(t.Args) > 0 {
		s += " ("
		for _, arg := range t.Args {
			s += tell(arg)
		}
		s += " )"
	}
	return s
}

// tellPlace: all fields of a place as a text.
func tellPlace(p api.Place) string {
	s := p.Name + ": " + p.Data + " " + strconv.Itoa(p.Tag) + "/" + strconv.Itoa(p.Of)
	if p.Has {
		s += " has"
	}
	return s + " " + strconv.Itoa(p.Scheme.Vars) + tell(p.Scheme.Ty)
}

// tellAll: places as a text, a line each.
func tellAll(l []api.Place) string {
	s := ""
	for _, p := range l {
		s += tellPlace(p) + "\n"
	}
	return s
}

// start: what tellAll says of the constructors that are built in.
const start = `(): unit 0/1 0 unit
false: bool 0/2 0 bool
true: bool 1/2 0 bool
Div: exn 0/0 0 exn
Eof: exn 1/0 0 exn
Match: exn 2/0 0 exn
`

// nodes: a type and those inside it, from left to right.
func nodes(t *api.Ty) []*api.Ty {
	l := []*api.Ty{t}
	for i := range t.Args {
		l = append(l, nodes(&t.Args[i])...)
	}
	return l
}

// paramsOf: how many parameters the datatype of that name has, if a table has one.
func paramsOf(t []api.Place, name string) (int, bool) {
	for _, p := range t {
		if p.Data == name && !slices.Contains([]string{"bool", "unit", "exn"}, name) {
			return p.Scheme.Vars, true
		}
	}
	return 0, false
}

func isNamed(t []api.Place, name string) bool {
	return slices.ContainsFunc(t, func(p api.Place) bool { return p.Name == name })
}

func countOf(t []api.Place, data string) int {
	n := 0
	for _, p := range t {
		if p.Data == data {
			n++
		}
	}
	return n
}

// faults: all errors of a DcData or DcExn for which alone tree.Right returns none, in order.
func faults(t []api.Place, d api.Dec) []api.Bad {
	var l []api.Bad
	if d.Kind == api.DcData {
		_, isKnown := paramsOf(t, d.Name)
		if isKnown || slices.Contains([]string{"int", "bool", "unit", "exn"}, d.Name) {
			l = append(l, api.Bad{Kind: api.ErrTwice, At: d.At, Name: d.Name})
		}
	}
	for i, c := range d.Cons {
		isOther := func(other api.Con) bool { return other.Name == c.Name }
		if isNamed(t, c.Name) || slices.ContainsFunc(d.Cons[:i], isOther) {
			l = append(l, api.Bad{Kind: api.ErrTwice, At: c.At, Name: c.Name})
		}
		if d.Kind == api.DcExn && countOf(t, "exn") > api.MaxTag {
			l = append(l, api.Bad{Kind: api.ErrCount, At: c.At, Name: c.Name})
		}
		if c.Has {
			l = append(l, argFaults(t, d, c)...)
		}
	}
	return l
}

// argFaults: all errors in the argument of a constructor.
func argFaults(t []api.Place, d api.Dec, c api.Con) []api.Bad {
	var l []api.Bad
	for _, node := range nodes(&c.Arg) {
		if node.Kind == api.TyVar {
			if node.N >= d.Params {
				l = append(l, api.Bad{Kind: api.ErrVar, At: c.At})
			}
			continue
		}
		if slices.Contains([]string{"int", "bool", "unit", "exn", "ref", "->", "*"}, node.Name) {
			continue
		}
		params, isKnown := paramsOf(t, node.Name)
		if d.Kind == api.DcData && node.Name == d.Name {
			params, isKnown = d.Params, true
		}
		if !isKnown {
			l = append(l, api.Bad{Kind: api.ErrName, At: c.At, Name: node.Name})
		} else if params != len(node.Args) {
			l = append(l, api.Bad{Kind: api.ErrCount, At: c.At, Name: node.Name})
		}
	}
	return l
}

// extended: what tellAll says of a table with the places of a declaration without errors.
func extended(t []api.Place, d api.Dec) string {
	s := tellAll(t)
	exns := countOf(t, "exn")
	for i, c := range d.Cons {
		name, tag, of, vars := "exn", exns+i, 0, 0
		if d.Kind == api.DcData {
			name, tag, of, vars = d.Name, i, len(d.Cons), d.Params
		}
		result := name
		if vars > 0 {
			result += " ("
			for n := range vars {
				result += " '" + strconv.Itoa(n)
			}
			result += " )"
		}
		s += c.Name + ": " + name + " " + strconv.Itoa(tag) + "/" + strconv.Itoa(of)
		if c.Has {
			s += " has"
			result = "-> (" + tell(c.Arg) + " " + result + " )"
		}
		s += " " + strconv.Itoa(vars) + " " + result + "\n"
	}
	return s
}

// isUpper: is it an upper-case name?
func isUpper(s string) bool {
	return len(s) >= 1 && len(s) <= api.MaxName && 'A' <= s[0] && s[0] <= 'Z' && strings.Trim(s, letters) == ""
}

// isLower: is it a lower-case name? Of the words that are none only those count with which the tests try it.
func isLower(s string) bool {
	return len(s) >= 1 && len(s) <= api.MaxName && ('a' <= s[0] && s[0] <= 'z' || s[0] == '_' && s != "_") && strings.Trim(s, letters) == "" && s != "ref" && s != "val" && s != "true"
}

const letters = "abcdefghijklmnopqrstuvwxyzABCDEFGHIJKLMNOPQRSTUVWXYZ0123456789_'"

// isTable: what Right says of a table without large types, place by place.
func isTable(t []api.Place) bool {
	if len(t) < 6 || tellAll(t[:6]) != start {
		return false
	}
	for i := 6; i < len(t); i++ {
		p := t[i]
		isFine := isUpper(p.Name) && !isNamed(t[:i], p.Name) && p.Of == 0 && p.Tag == countOf(t[:i], "exn") && p.Tag <= api.MaxTag && p.Scheme.Vars == 0
		if p.Data != "exn" {
			isFine = isUpper(p.Name) && !isNamed(t[:i], p.Name) && isPlaceOfData(t, i)
		}
		if !isFine || !isSchemeOf(t[:i+1], p) {
			return false
		}
	}
	return true
}

// isPlaceOfData: is a place one of a datatype, apart from its name and its scheme?
func isPlaceOfData(t []api.Place, i int) bool {
	p := t[i]
	first := slices.IndexFunc(t, func(q api.Place) bool { return q.Data == p.Data })
	return isLower(p.Data) && p.Data != "int" && first >= 6 && i-first == p.Tag &&
		p.Of == countOf(t, p.Data) && p.Of <= api.MaxCons && p.Scheme.Vars == t[first].Scheme.Vars && 0 <= p.Scheme.Vars && p.Scheme.Vars <= api.MaxParams
}

// isSchemeOf: is the type of a place right, if t is the table up to it?
func isSchemeOf(t []api.Place, p api.Place) bool {
	result := p.Scheme.Ty
	if p.Has {
		if result.Kind != api.TyCon || result.N != 0 || result.Name != "->" || len(result.Args) != 2 {
			return false
		}
		for _, node := range nodes(&result.Args[0]) {
			if !isArgNode(t, p, node) {
				return false
			}
		}
		result = result.Args[1]
	}
	var vars []api.Ty
	for n := range p.Scheme.Vars {
		vars = append(vars, tv(n))
	}
	return tell(result) == tell(tc(p.Data, vars...))
}

func isArgNode(t []api.Place, p api.Place, node *api.Ty) bool {
	n := len(node.Args)
	if node.Kind == api.TyVar {
		return node.Name == "" && n == 0 && 0 <= node.N && node.N < p.Scheme.Vars
	}
	if node.Kind != api.TyCon || node.N != 0 {
		return false
	}
	switch node.Name {
	case "int", "bool", "unit", "exn":
		return n == 0
	case "ref":
		return n == 1
	case "->":
		return n == 2
	case "*":
		return 2 <= n && n <= api.MaxWidth
	}
	params, isKnown := paramsOf(t, node.Name)
	return isKnown && params == n
}

// row is a row of numbers that look mixed, the same at each run of the tests.
type row struct{ last uint32 }

func (r *row) below(n int) int {
	r.last = r.last*1664525 + 1013904223
	return int(r.last>>8) % n
}

// typeNames: the names of datatypes in mixed declarations. A datatype has mostly as many parameters as its name says.
func typeNames() []string { return []string{"t0", "t1", "t2", "u0", "u1", "u2"} }

// ty: a type for which tree.Right returns no error, so deep at most, with variables mostly less than vars and types mostly from known.
func (r *row) ty(deep, vars int, known []string) api.Ty {
	several := func(n int) []api.Ty {
		var l []api.Ty
		for range n {
			l = append(l, r.ty(deep-1, vars, known))
		}
		return l
	}
	form := r.below(8)
	if deep < 2 {
		form = 5 + r.below(3)
	}
	switch form {
	case 0:
		return tc("->", several(2)...)
	case 1:
		return tc("*", several(2+r.below(3))...)
	case 2:
		return tc("ref", several(1)...)
	case 3, 4:
		if r.below(40) == 0 {
			known = typeNames()
		}
		if len(known) > 0 {
			name := known[r.below(len(known))]
			params := int(name[1] - '0')
			if r.below(40) == 0 {
				params = r.below(4)
			}
			return tc(name, several(params)...)
		}
	case 5, 6:
		if r.below(40) == 0 {
			vars++
		}
		if vars > 0 {
			return tv(r.below(vars))
		}
	}
	return tc([]string{"int", "bool", "unit", "exn"}[r.below(4)])
}

// conName: the name of a constructor.
func (r *row) conName(from int) string {
	if r.below(30) == 0 {
		return []string{"Div", "Eof", "Match"}[r.below(3)]
	}
	return "C" + strconv.Itoa(from+r.below(60))
}

// dec: a declaration for which tree.Right returns no error, after some for which the table is t.
func (r *row) dec(t api.Table) api.Dec {
	var known []string
	for _, name := range typeNames() {
		if _, isKnown := paramsOf(t, name); isKnown {
			known = append(known, name)
		}
	}
	from := 100 * len(t)
	if r.below(20) == 0 {
		from = 600
	}
	at := r.below(50)
	switch r.below(8) {
	case 0:
		return val()
	case 1:
		return fun()
	case 2, 3:
		d := exception(at, r.conName(from))
		if r.below(2) == 0 {
			d.Cons[0] = con(at+1, d.Cons[0].Name, r.ty(3, 0, known))
		}
		return d
	}
	name := typeNames()[r.below(6)]
	d := data(at, name, int(name[1]-'0'))
	if r.below(25) == 0 {
		d.Name = []string{"int", "bool", "unit", "exn"}[r.below(4)]
	}
	for i := range 1 + r.below(4) {
		c := con(at+2+i, r.conName(from+100*i))
		if r.below(3) > 0 {
			c = con(at+3+i, c.Name, r.ty(3, d.Params, append(known, name)))
		}
		d.Cons = append(d.Cons, c)
	}
	return d
}

// roomyTy: the same type in new memory, with room behind all Args that is not empty.
func roomyTy(t api.Ty) api.Ty {
	args := make([]api.Ty, 0, len(t.Args)+2)
	for _, arg := range t.Args {
		args = append(args, roomyTy(arg))
	}
	t.Args = append(append(args, tc("behind")), tv(77))[:len(args)]
	return t
}

// roomyTable: the same places in new memory, with room behind them.
func roomyTable(t []api.Place) api.Table {
	l := make(api.Table, 0, len(t)+2)
	for _, p := range t {
		p.Scheme.Ty = roomyTy(p.Scheme.Ty)
		l = append(l, p)
	}
	return append(append(l, api.Place{Name: "Behind"}), api.Place{Tag: 77})[:len(t)]
}

// roomyDec: the same declaration in new memory, with room behind its constructors.
func roomyDec(d api.Dec) api.Dec {
	l := make([]api.Con, 0, len(d.Cons)+1)
	for _, c := range d.Cons {
		c.Arg = roomyTy(c.Arg)
		l = append(l, c)
	}
	d.Cons = append(l, con(77, "Behind"))[:len(l)]
	return d
}

// tellDec: the constructors of a declaration as a text, also behind their ends.
func tellDec(d api.Dec) string {
	s := d.Name + " " + strconv.Itoa(d.At) + " " + strconv.Itoa(d.Params)
	for _, c := range d.Cons[:cap(d.Cons)] {
		s += "\n" + c.Name + " " + strconv.Itoa(c.At) + tell(c.Arg)
		for _, room := range rooms(c.Arg) {
			for _, t := range room {
				s += tell(t)
			}
		}
	}
	return s
}

// tellRoom: places as a text, also behind their ends.
func tellRoom(l []api.Place) string {
	l = l[:cap(l)]
	s := tellAll(l)
	for _, p := range l {
		for _, room := range rooms(p.Scheme.Ty) {
			for _, t := range room {
				s += tell(t)
			}
		}
	}
	return s
}

// rooms: all memory of the Args of a type, also behind their ends.
func rooms(t api.Ty) [][]api.Ty {
	all := [][]api.Ty{t.Args[:cap(t.Args)]}
	for _, arg := range t.Args[:cap(t.Args)] {
		all = append(all, rooms(arg)...)
	}
	return all
}

// areApart: does nothing in some lists of places, nor a type beside them, share memory with anything else there? Each piece of memory gets a number of its own, and must still have it in the end.
func areApart(lists [][]api.Place, types []api.Ty) bool {
	var args [][]api.Ty
	for _, t := range types {
		args = append(args, rooms(t)...)
	}
	for _, l := range lists {
		for _, p := range l[:cap(l)] {
			args = append(args, rooms(p.Scheme.Ty)...)
		}
	}
	numbers := func(hold func(place *int, n int)) {
		n := 0
		next := func(place *int) {
			n++
			hold(place, n)
		}
		for _, room := range args {
			for i := range room {
				next(&room[i].N)
			}
		}
		for _, l := range lists {
			for i := range l[:cap(l)] {
				next(&l[:cap(l)][i].Tag)
			}
		}
	}
	numbers(func(place *int, n int) { *place = n })
	areAll := true
	numbers(func(place *int, n int) { areAll = areAll && *place == n })
	return areAll
}
