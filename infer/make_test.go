package infer_test

import (
	"reflect"
	"slices"
	"strconv"
	"strings"
	"testing"

	"camlet/api"
	"camlet/decl"
	"camlet/read"
	"camlet/scheme"
	"camlet/scope"
	"camlet/show"
	"camlet/ty"
	"camlet/unify"
)

// program: the tree of a text.
func program(t *testing.T, text string) []api.Dec {
	t.Helper()
	p, bad := read.Program(text)
	if bad != (api.Bad{}) {
		t.Fatalf("read.Program of %.300q gives %v", text, bad)
	}
	return p
}

// expr: the tree of a text.
func expr(t *testing.T, text string) api.Exp {
	t.Helper()
	e, bad := read.Expr(text)
	if bad != (api.Bad{}) {
		t.Fatalf("read.Expr of %.300q gives %v", text, bad)
	}
	return e
}

// told: names with their schemes, as a text.
func told(l []api.Named) string {
	var all []string
	for _, n := range l {
		all = append(all, n.Name+": "+scheme.Show(n.Scheme))
	}
	return strings.Join(all, "; ")
}

// structs: everything with fields inside a program or a part of one, each before those inside it.
func structs(p any) []reflect.Value {
	var l []reflect.Value
	var visit func(v reflect.Value)
	visit = func(v reflect.Value) {
		switch v.Kind() {
		case reflect.Struct:
			l = append(l, v)
			for i := range v.NumField() {
				visit(v.Field(i))
			}
		case reflect.Slice:
			for i := range v.Len() {
				visit(v.Index(i))
			}
		}
	}
	visit(reflect.ValueOf(p).Elem())
	return l
}

// gather: pointers to everything of one type inside a program or a part of one, each before those inside it.
func gather[T any](p any) []*T {
	var l []*T
	for _, v := range structs(p) {
		if x, ok := v.Addr().Interface().(*T); ok {
			l = append(l, x)
		}
	}
	return l
}

// roomy: the same program, or something else, in new memory, with room for two elements, which are not empty, behind all its slices.
func roomy[T any](x T) T {
	var of func(to, from reflect.Value)
	of = func(to, from reflect.Value) {
		to.Set(from)
		switch from.Kind() {
		case reflect.Struct:
			for i := range from.NumField() {
				of(to.Field(i), from.Field(i))
			}
		case reflect.Slice:
			n := from.Len()
			l := reflect.MakeSlice(from.Type(), n+2, n+2)
			for i := range n {
				of(l.Index(i), from.Index(i))
			}
			for i := n; i < n+2 && n > 0; i++ {
				l.Index(i).Set(l.Index(0))
			}
			to.Set(l.Slice(0, n))
		}
	}
	var made T
	of(reflect.ValueOf(&made).Elem(), reflect.ValueOf(&x).Elem())
	return made
}

// whole: a program, or something else, with what lies behind its slices.
func whole[T any](x T) T {
	var open func(v reflect.Value)
	open = func(v reflect.Value) {
		switch v.Kind() {
		case reflect.Struct:
			for i := range v.NumField() {
				open(v.Field(i))
			}
		case reflect.Slice:
			l := reflect.MakeSlice(v.Type(), v.Cap(), v.Cap())
			reflect.Copy(l, v.Slice(0, v.Cap()))
			v.Set(l)
			for i := range l.Len() {
				open(l.Index(i))
			}
		}
	}
	open(reflect.ValueOf(&x).Elem())
	return x
}

// entry is a name of the model that is visible.
type entry struct {
	name string
	at   int
	t    api.Ty
	all  []int // the variables over which its type is quantified
}

// model infers types as the chapter says it word for word: for each declaration it looks at all names that are visible there. It passes on what is visible, and panics with an api.Bad.
type model struct {
	sub   *unify.Sub
	table api.Table
}

// modelled: what Program must return for a program without errors of its names, as a text, or an error; and which of the names have variables that are not quantified.
func modelled(p []api.Dec) (text string, open []bool, bad api.Bad) {
	defer func() {
		if cause := recover(); cause != nil {
			text, open, bad = "", nil, cause.(api.Bad)
		}
	}()
	m := &model{sub: unify.New()}
	m.table, _ = decl.Of(p)
	var l []api.Named
	for _, x := range m.decs(nil, p) {
		instead := map[int]api.Ty{}
		for _, v := range m.vars(x.t) {
			if !slices.Contains(x.all, v) {
				instead[v] = tc("unit")
			}
		}
		open = append(open, len(instead) > 0)
		l = append(l, api.Named{Name: x.name, Scheme: scheme.Of(replaced(m.put(x.t, x.at), instead), nil)})
	}
	return told(l), open, api.Bad{}
}

func tv(n int) api.Ty { return api.Ty{Kind: api.TyVar, N: n} }

func tc(s string, args ...api.Ty) api.Ty { return api.Ty{Kind: api.TyCon, Name: s, Args: args} }

func fn(a, b api.Ty) api.Ty { return tc("->", a, b) }

// replaced: a type with others in the place of some variables.
func replaced(t api.Ty, instead map[int]api.Ty) api.Ty {
	if other, ok := instead[t.N]; ok && t.Kind == api.TyVar {
		return other
	}
	args := t.Args
	t.Args = nil
	for _, arg := range args {
		t.Args = append(t.Args, replaced(arg, instead))
	}
	return t
}

func (m *model) put(t api.Ty, at int) api.Ty {
	form, e := m.sub.Put(t)
	if e != api.OK {
		panic(api.Bad{Kind: api.ErrLong, At: at})
	}
	return form
}

// vars: the variables of a type that can be too long for Put.
func (m *model) vars(t api.Ty) []int {
	if t.Kind == api.TyVar {
		return ty.Vars(m.put(t, 0))
	}
	var l []int
	for _, arg := range t.Args {
		l = append(l, m.vars(arg)...)
	}
	return l
}

func (m *model) equal(t, u api.Ty, at int) {
	switch e := m.sub.Unify(t, u); e {
	case api.OK:
	case api.ErrClash:
		panic(api.Bad{Kind: api.ErrType, At: at})
	case api.ErrLoop, api.ErrLong:
		panic(api.Bad{Kind: e, At: at})
	default:
		panic(e)
	}
}

// quantified: names with their schemes, where others are visible.
func (m *model) quantified(l, visible []entry) []entry {
	free := map[int]bool{}
	seen := map[string]bool{}
	for _, x := range slices.Backward(visible) {
		if seen[x.name] {
			continue
		}
		seen[x.name] = true
		for _, v := range m.vars(x.t) {
			if !slices.Contains(x.all, v) {
				free[v] = true
			}
		}
	}
	var made []entry
	for _, x := range l {
		for _, v := range m.vars(x.t) {
			if !free[v] {
				x.all = append(x.all, v)
			}
		}
		made = append(made, x)
	}
	return made
}

// decs: what declarations bind.
func (m *model) decs(visible []entry, l []api.Dec) []entry {
	var all []entry
	for _, d := range l {
		here := slices.Concat(visible, all)
		for _, c := range d.Case {
			t := m.exp(here, c.Exp)
			p, names := m.pat(c.Pat)
			m.equal(p, t, c.Pat.At)
			if mayBeMany(c.Exp) {
				names = m.quantified(names, here)
			}
			all = append(all, names...)
		}
		var group []entry
		for _, f := range d.Funs {
			group = append(group, entry{name: f.Name, at: f.At, t: fn(m.sub.Fresh(), m.sub.Fresh())})
		}
		for i, f := range d.Funs {
			m.matched(slices.Concat(here, group), f.Case, group[i].t.Args[0], group[i].t.Args[1])
		}
		for i, f := range d.Funs {
			m.put(group[i].t, f.At)
		}
		all = append(all, m.quantified(group, here)...)
	}
	return all
}

// mayBeMany: is it a syntactic value?
func mayBeMany(e api.Exp) bool {
	many := e.Kind == api.ExInt || e.Kind == api.ExVar || e.Kind == api.ExFn
	if e.Kind == api.ExCon || e.Kind == api.ExTuple {
		many = true
		for _, kid := range e.Kids {
			many = many && mayBeMany(kid)
		}
	}
	return many
}

func (m *model) matched(visible []entry, c api.Case, a, b api.Ty) {
	t, names := m.pat(c.Pat)
	m.equal(t, a, c.Pat.At)
	m.equal(m.exp(slices.Concat(visible, names), c.Exp), b, c.Exp.At)
}

func (m *model) con(name string, at int) api.Ty {
	place, _ := decl.Find(m.table, name)
	if ty.Size(place.Scheme.Ty) > api.MaxTySize {
		panic(api.Bad{Kind: api.ErrLong, At: at})
	}
	instead := map[int]api.Ty{}
	for v := range place.Scheme.Vars {
		instead[v] = m.sub.Fresh()
	}
	return replaced(place.Scheme.Ty, instead)
}

func (m *model) pat(p api.Pat) (api.Ty, []entry) {
	var names []entry
	var kids []api.Ty
	if p.Kind == api.PaVar || p.Kind == api.PaAs {
		names = []entry{{name: p.Name, at: p.At}}
	}
	t := tc("int")
	if p.Kind == api.PaCon {
		t = m.con(p.Name, p.At)
	}
	for _, kid := range p.Kids {
		k, l := m.pat(kid)
		kids = append(kids, k)
		names = append(names, l...)
	}
	switch {
	case p.Kind == api.PaAny || p.Kind == api.PaVar:
		t = m.sub.Fresh()
	case p.Kind == api.PaCon && len(kids) > 0:
		m.equal(kids[0], t.Args[0], p.Kids[0].At)
		t = t.Args[1]
	case p.Kind == api.PaTuple:
		t = tc("*", kids...)
	case p.Kind == api.PaAs:
		t = kids[0]
	}
	if p.Kind == api.PaVar || p.Kind == api.PaAs {
		names[0].t = t
	}
	m.put(t, p.At)
	return t, names
}

func (m *model) exp(visible []entry, e api.Exp) api.Ty {
	t := m.ofExp(visible, e)
	m.put(t, e.At)
	return t
}

func (m *model) name(visible []entry, e api.Exp) api.Ty {
	for _, x := range slices.Backward(visible) {
		if x.name == e.Name {
			instead := map[int]api.Ty{}
			for _, v := range x.all {
				if _, ok := instead[v]; !ok {
					instead[v] = m.sub.Fresh()
				}
			}
			return replaced(m.put(x.t, e.At), instead)
		}
	}
	panic("not visible: " + e.Name)
}

func (m *model) ofExp(visible []entry, e api.Exp) api.Ty {
	kid := func(i int) api.Ty { return m.exp(visible, e.Kids[i]) }
	must := func(i int, t api.Ty) { m.equal(kid(i), t, e.Kids[i].At) }
	cases := func(a, b api.Ty) {
		for _, c := range e.Cases {
			m.matched(visible, c, a, b)
		}
	}
	// for kinds of expressions of which that is all: the types of their Kids, and their own
	type rule struct{ kids, own string }
	rules := map[api.ExpKind]rule{api.ExInt: {"", "int"}, api.ExRead: {"", "int"}, api.ExPrint: {"int", "unit"}, api.ExAnd: {"bool bool", "bool"}, api.ExOr: {"bool bool", "bool"}, api.ExOp: {"int int", "bool"}}
	if e.Kind == api.ExOp && e.N <= int(api.PrMod) {
		rules[api.ExOp] = rule{"int int", "int"}
	}
	if r, ok := rules[e.Kind]; ok {
		for i, name := range strings.Fields(r.kids) {
			must(i, tc(name))
		}
		return tc(r.own)
	}
	switch e.Kind {
	case api.ExVar:
		return m.name(visible, e)
	case api.ExCon:
		t := m.con(e.Name, e.At)
		if len(e.Kids) > 0 {
			must(0, t.Args[0])
			t = t.Args[1]
		}
		return t
	case api.ExTuple, api.ExSeq:
		var l []api.Ty
		for i := range e.Kids {
			l = append(l, kid(i))
		}
		if e.Kind == api.ExSeq {
			return l[len(l)-1]
		}
		return tc("*", l...)
	case api.ExFn:
		a, b := m.sub.Fresh(), m.sub.Fresh()
		cases(a, b)
		return fn(a, b)
	case api.ExApp:
		a, b := m.sub.Fresh(), m.sub.Fresh()
		must(0, fn(a, b))
		must(1, a)
		return b
	case api.ExLet:
		return m.exp(slices.Concat(visible, m.decs(visible, e.Decs)), e.Kids[0])
	case api.ExIf:
		must(0, tc("bool"))
		a := kid(1)
		must(2, a)
		return a
	case api.ExCase:
		a := kid(0)
		b := m.sub.Fresh()
		cases(a, b)
		return b
	case api.ExTry:
		b := kid(0)
		cases(tc("exn"), b)
		return b
	case api.ExRaise:
		must(0, tc("exn"))
		return m.sub.Fresh()
	case api.ExRef:
		return tc("ref", kid(0))
	}
	a := m.sub.Fresh()
	must(0, tc("ref", a))
	if e.Kind == api.ExGet {
		return a
	}
	must(1, a)
	return tc("unit")
}

// row is a row of numbers that look mixed, the same at each run of the tests.
type row struct{ last uint32 }

func (r *row) below(n int) int {
	r.last = r.last*1664525 + 1013904223
	return int(r.last>>8) % n
}

// known is a name that a maker can use, and what it is known to stand for.
type known struct {
	name   string
	scheme api.Scheme
}

// maker makes programs without errors of their names, and of their types only if so many choices of a type are wrong. Their places rise in source order.
type maker struct {
	row
	odd  int // one choice of a type in so many can be wrong; 0: none
	at   int
	vars []known
}

// front is what stands before all programs of makers.
const front = "datatype 'a list = Nil | Cons of 'a * 'a list datatype ('a, 'b) sum = Left of 'a | Right of 'b exception Fail exception Code of int "

func newMaker(seed, odd int) *maker { return &maker{row: row{uint32(seed)}, odd: odd, at: len(front)} }

func (m *maker) next() int {
	m.at++
	return m.at
}

// low: a name, mostly a new one.
func (m *maker) low() string {
	if m.below(3) == 0 {
		return string(rune('a' + m.below(4)))
	}
	return "x" + strconv.Itoa(m.next())
}

// ty: a type without variables.
func (m *maker) ty(deep int) api.Ty {
	names := []string{"int", "bool", "int", "unit", "exn", "->", "->", "*", "ref", "list", "sum"}
	form := m.below(len(names))
	if deep < 2 {
		form = m.below(5)
	}
	t := tc(names[form])
	for range []int{0, 0, 0, 0, 0, 2, 2, 2 + m.below(2), 1, 1, 2}[form] {
		t.Args = append(t.Args, m.ty(deep-1))
	}
	return t
}

// known makes names usable.
func (m *maker) knows(name string, t api.Ty) {
	m.vars = append(m.vars, known{name, scheme.Of(t, nil)})
}

// fitting: the names that are visible and stand for a type.
func (m *maker) fitting(t api.Ty) []string {
	var l []string
	seen := map[string]bool{}
	for _, x := range slices.Backward(m.vars) {
		if !seen[x.name] && scheme.More(x.scheme, scheme.Of(t, nil)) {
			l = append(l, x.name)
		}
		seen[x.name] = true
	}
	return l
}

func (m *maker) dec(deep int) api.Dec {
	d := api.Dec{Kind: api.DcVal, At: m.next()}
	switch m.below(4) {
	case 0:
		d.Kind = api.DcFun
		var types []api.Ty
		for i := range 1 + m.below(3) {
			types = append(types, fn(m.ty(2), m.ty(2)))
			d.Funs = append(d.Funs, api.Fun{Name: string(rune('f'+i)) + strconv.Itoa(m.below(3)), At: m.next()})
			m.knows(d.Funs[i].Name, types[i])
		}
		for i, t := range types {
			d.Funs[i].Case = m.matched(t.Args[0], t.Args[1], deep-1)
		}
	case 1:
		d.Case = []api.Case{m.general()}
	default:
		t := m.ty(3)
		pat, names := m.pat(t, 3)
		d.Case = []api.Case{{Pat: pat, Exp: m.exp(t, deep-1)}}
		m.vars = append(m.vars, names...)
	}
	return d
}

// general: a name for something that stands for many types, or at least for a type that is not determined yet.
func (m *maker) general() api.Case {
	forms := [][2]string{{"fn x => x", "'a -> 'a"}, {"fn x => fn y => x", "'a -> 'b -> 'a"}, {"fn (x, y) => (y, x)", "'a * 'b -> 'b * 'a"}, {"fn f => fn x => f x", "('a -> 'b) -> 'a -> 'b"},
		{"Nil", "'a list"}, {"(Nil, fn x => x)", "'b list * ('a -> 'a)"}, {"fn x => raise x", "exn -> 'a"}, {"fn x => ref x", "'a -> 'a ref"}, {"fn x => Cons (x, Nil)", "'a -> 'a list"}, {"Left 1", "(int, 'a) sum"},
		{"ref Nil", ""}, {"(fn x => x) (fn x => x)", ""}, {"raise Fail", ""}}
	i := m.below(len(forms))
	e, _ := read.Expr(forms[i][0])
	c := api.Case{Pat: api.Pat{Kind: api.PaVar, At: m.next(), Name: m.low()}, Exp: e}
	for _, v := range structs(&c.Exp) {
		if at := v.FieldByName("At"); at.IsValid() {
			at.SetInt(int64(m.next()))
		}
	}
	own := m.ty(2)
	t, _ := read.Type(forms[i][1])
	switch forms[i][0] {
	case "ref Nil":
		t = tc("ref", tc("list", own))
	case "(fn x => x) (fn x => x)":
		t = fn(own, own)
	case "raise Fail":
		t = own
	}
	m.knows(c.Pat.Name, t)
	return c
}

// pat: a pattern of a type, and its variables.
func (m *maker) pat(t api.Ty, deep int) (api.Pat, []known) {
	if m.odd > 0 && m.below(m.odd) == 0 {
		t = m.ty(2)
	}
	var names []known
	p := api.Pat{Kind: api.PaVar, At: m.next()}
	kid := func(t api.Ty) {
		k, l := m.pat(t, deep-1)
		l = slices.DeleteFunc(l, func(x known) bool {
			return slices.ContainsFunc(names, func(y known) bool { return x.name == y.name })
		})
		p.Kids = append(p.Kids, k)
		names = append(names, l...)
	}
	con := func(name string, arg ...api.Ty) {
		p.Kind, p.Name = api.PaCon, name
		for _, t := range arg {
			kid(t)
		}
	}
	form := m.below(8)
	if deep < 2 {
		form = m.below(3)
	}
	switch {
	case form == 0:
		p.Kind = api.PaAny
	case form < 3 || t.Name == "->" || t.Name == "ref":
		p.Name = "y" + strconv.Itoa(p.At)
		names = []known{{p.Name, scheme.Of(t, nil)}}
	case form == 3:
		p.Kind, p.Name = api.PaAs, "y"+strconv.Itoa(p.At)
		names = []known{{p.Name, scheme.Of(t, nil)}}
		kid(t)
	default:
		switch t.Name {
		case "int":
			p.Kind, p.N = api.PaInt, m.below(9)
		case "bool":
			con([]string{"true", "false"}[m.below(2)])
		case "unit":
			con("()")
		case "exn":
			if m.below(3) == 0 {
				con("Code", tc("int"))
			} else {
				con([]string{"Fail", "Div", "Eof", "Match"}[m.below(4)])
			}
		case "list":
			if m.below(2) == 0 {
				con("Cons", tc("*", t.Args[0], t))
			} else {
				con("Nil")
			}
		case "sum":
			i := m.below(2)
			con([]string{"Left", "Right"}[i], t.Args[i])
		case "*":
			p.Kind = api.PaTuple
			for _, arg := range t.Args {
				kid(arg)
			}
		}
	}
	return p, names
}

// matched: a case, whose variables can be used inside it only.
func (m *maker) matched(a, b api.Ty, deep int) api.Case {
	pat, names := m.pat(a, 3)
	outer := slices.Clone(m.vars)
	m.vars = append(m.vars, names...)
	c := api.Case{Pat: pat, Exp: m.exp(b, deep)}
	m.vars = outer
	return c
}

func (m *maker) cases(a, b api.Ty, deep int) []api.Case {
	var l []api.Case
	for range 1 + m.below(2) {
		l = append(l, m.matched(a, b, deep-1))
	}
	return l
}

// exp: an expression of a type, about so deep at most.
func (m *maker) exp(t api.Ty, deep int) api.Exp {
	if m.odd > 0 && m.below(m.odd) == 0 {
		t = m.ty(2)
	}
	e := api.Exp{At: m.next()}
	kids := func(kind api.ExpKind, types ...api.Ty) {
		e.Kind = kind
		for _, t := range types {
			e.Kids = append(e.Kids, m.exp(t, deep-1))
		}
	}
	form := m.below(16)
	if names := m.fitting(t); len(names) > 0 && (deep < 2 || form < 4) {
		e.Kind, e.Name = api.ExVar, names[m.below(len(names))]
		return e
	}
	if deep < 2 {
		form = 0
	}
	switch form {
	case 4:
		kids(api.ExIf, tc("bool"), t, t)
	case 5:
		a := m.ty(3)
		kids(api.ExCase, a)
		e.Cases = m.cases(a, t, deep)
	case 6, 7:
		outer := slices.Clone(m.vars)
		for range 1 + m.below(3) {
			e.Decs = append(e.Decs, m.dec(deep-1))
		}
		kids(api.ExLet, t)
		m.vars = outer
	case 8:
		kids(api.ExSeq, m.ty(2), t)
	case 9:
		kids(api.ExTry, t)
		e.Cases = m.cases(tc("exn"), t, deep)
	case 10:
		kids(api.ExRaise, tc("exn"))
	case 11, 12:
		a := m.ty(2)
		kids(api.ExApp, fn(a, t), a)
	case 13:
		kids(api.ExGet, tc("ref", t))
	default:
		m.own(&e, t, deep, kids)
	}
	return e
}

// own makes an expression of a type by what is there for this type.
func (m *maker) own(e *api.Exp, t api.Ty, deep int, kids func(kind api.ExpKind, types ...api.Ty)) {
	con := func(name string, arg ...api.Ty) {
		e.Name = name
		kids(api.ExCon, arg...)
	}
	i := m.below(4)
	if deep < 2 {
		i = 0
	}
	switch t.Name {
	case "int":
		switch i {
		case 0, 1:
			e.Kind, e.N = api.ExInt, m.below(9)
		case 2:
			e.N = 1 + m.below(5)
			kids(api.ExOp, t, t)
		default:
			e.Kind = api.ExRead
		}
	case "bool":
		switch i {
		case 0:
			con([]string{"true", "false"}[m.below(2)])
		case 1:
			e.N = 6 + m.below(4)
			kids(api.ExOp, tc("int"), tc("int"))
		default:
			kids([]api.ExpKind{api.ExAnd, api.ExOr}[i-2], t, t)
		}
	case "unit":
		switch i {
		case 0, 1:
			con("()")
		case 2:
			kids(api.ExPrint, tc("int"))
		default:
			a := m.ty(2)
			kids(api.ExSet, tc("ref", a), a)
		}
	case "exn":
		if i == 0 {
			con([]string{"Fail", "Div", "Eof", "Match"}[m.below(4)])
		} else {
			con("Code", tc("int"))
		}
	case "->":
		e.Kind = api.ExFn
		e.Cases = m.cases(t.Args[0], t.Args[1], deep)
	case "*":
		kids(api.ExTuple, t.Args...)
	case "ref":
		kids(api.ExRef, t.Args...)
	case "list":
		if i < 2 {
			con("Nil")
		} else {
			con("Cons", tc("*", t.Args[0], t))
		}
	case "sum":
		i = i % 2
		con([]string{"Left", "Right"}[i], t.Args[i])
	}
}

// program: some declarations behind those of front.
func (m *maker) program(count, deep int) []api.Dec {
	p, _ := read.Program(front)
	for range count {
		p = append(p, m.dec(deep))
	}
	return p
}

// spoil puts parts of a program into the place of others, until its names are right.
func (m *maker) spoil(p []api.Dec) ([]api.Dec, bool) {
	for range 20 {
		q := roomy(p)
		l := gather[api.Exp](&q)
		*l[m.below(len(l))] = roomy(*l[m.below(len(l))])
		if scope.Check(q) == (api.Bad{}) {
			return q, true
		}
	}
	return p, false
}

// growth: the text of a declaration that makes types larger, with a number, out of names x0, x1, .. with smaller numbers. Its types can be wrong.
func (r *row) growth(n int) string {
	forms := []string{"val N = (A, B)", "val N = (A, B, A)", "val N as (yN, _) = (raise Fail, A)", "val (_, N as (_, _)) = (A, (raise Fail, raise Fail))", "val _ = if true then A else B val N = A", "fun N y = (y, A)", "fun N y = (A, y, N)",
		"val N = A B", "val N = fn (y, z) => (y, A)", "val N = raise Fail", "val N = let val (v, w) = (raise Fail, raise Fail) val u = (v, w) in ((if true then w else A); u) end", "val N = let val w as (v, u) = (raise Fail, A) in (v := B; w) end",
		"val N = case (A, B) of (y as (u, v), w) => (w, v)", "val N = ref A", "val N = !A", "val N = A val _ = N := B", "val (N as (_, _)) = A", "fun N y = (yN y; A) and yN z = (N z; B)", "val N as _ = fn _ => A",
		"val N = (raise A handle _ => B; A)", "val N = fn y => let fun f z = (y, z) val g = f in (f, g, A) end", "val N = Cons (A, B)", "val Cons (N, _) = Cons (A, Nil)"}
	name := func() string { return "x" + strconv.Itoa(max(0, n-1-r.below(4))) }
	return strings.NewReplacer("Nil", "Nil", "N", "x"+strconv.Itoa(n), "A", name(), "B", name()).Replace(forms[r.below(len(forms))]) + " "
}

// sized: the text of a value, and of a pattern, whose type has so many nodes. There is none of 2 nodes.
func sized(n int) string {
	switch n {
	case 1:
		return "1"
	case 4:
		return "(1, 1, 1)"
	}
	left := (n - 1) / 2
	if n < 7 {
		left = 1
	}
	return "(" + sized(left) + ", " + sized(n-1-left) + ")"
}

// sizedType: the text of that type.
func sizedType(n int) string { return strings.NewReplacer("1", "int", ",", " *").Replace(sized(n)) }

// spoilers: functions that put an error into the form of an expression that is a constructor of an int.
func spoilers() []func(e *api.Exp) {
	return []func(e *api.Exp){
		func(e *api.Exp) { e.Kind = 0 },
		func(e *api.Exp) { e.Kind = 21 },
		func(e *api.Exp) { e.N = 1 },
		func(e *api.Exp) { e.Name = "c" },
		func(e *api.Exp) { e.Name = "" },
		func(e *api.Exp) { e.Cases = make([]api.Case, 1) },
		func(e *api.Exp) { e.Decs = make([]api.Dec, 1) },
		func(e *api.Exp) { e.Kids[0].N = 1 << 30 },
		func(e *api.Exp) { e.Kids[0].Name = "x" },
		func(e *api.Exp) { e.Kids = make([]api.Exp, 2) },
		func(e *api.Exp) {
			*e = api.Exp{Kind: api.ExSeq, Kids: slices.Repeat([]api.Exp{{Kind: api.ExRead}}, api.MaxSize)}
		},
		func(e *api.Exp) {
			for range api.MaxDeep {
				*e = api.Exp{Kind: api.ExRef, Kids: []api.Exp{*e}}
			}
		},
	}
}

// terms: all terms of some nodes (of which patterns are none) in which the variables v0, v1, .. are free, as many as are given.
func terms(nodes, vars int) []api.Exp {
	name := func(n int) api.Pat { return api.Pat{Kind: api.PaVar, Name: "v" + strconv.Itoa(n)} }
	var l []api.Exp
	if nodes == 1 {
		l = append(l, api.Exp{Kind: api.ExInt}, api.Exp{Kind: api.ExCon, Name: "true"})
		for v := range vars {
			l = append(l, api.Exp{Kind: api.ExVar, Name: name(v).Name})
		}
		return l
	}
	for _, body := range terms(nodes-1, vars+1) {
		l = append(l, api.Exp{Kind: api.ExFn, Cases: []api.Case{{Pat: name(vars), Exp: body}}})
	}
	if nodes > 2 {
		pair := api.Pat{Kind: api.PaTuple, Kids: []api.Pat{name(vars), name(vars + 1)}}
		for _, body := range terms(nodes-2, vars+2) {
			l = append(l, api.Exp{Kind: api.ExFn, Cases: []api.Case{{Pat: pair, Exp: body}}})
		}
	}
	for left := 1; left < nodes-1; left++ {
		for _, a := range terms(left, vars) {
			for _, b := range terms(nodes-1-left, vars) {
				l = append(l, api.Exp{Kind: api.ExApp, Kids: []api.Exp{a, b}}, api.Exp{Kind: api.ExTuple, Kids: []api.Exp{a, b}})
			}
			d := api.Dec{Kind: api.DcVal, Case: []api.Case{{Pat: name(vars), Exp: a}}}
			for _, b := range terms(nodes-1-left, vars+1) {
				l = append(l, api.Exp{Kind: api.ExLet, Decs: []api.Dec{d}, Kids: []api.Exp{b}})
			}
		}
	}
	return l
}

// universe: all types of up to so many nodes without variables, of int, bool, functions and pairs.
func universe(nodes int) []api.Ty {
	of := make([][]api.Ty, nodes+1)
	for n := 1; n <= nodes; n++ {
		if n == 1 {
			of[n] = []api.Ty{tc("int"), tc("bool")}
		}
		for left := 1; left < n-1; left++ {
			for _, a := range of[left] {
				for _, b := range of[n-1-left] {
					of[n] = append(of[n], fn(a, b), tc("*", a, b))
				}
			}
		}
	}
	return slices.Concat(of...)
}

// meaning is what a variable stands for in a proof that a term has a type: a type, or a value that stands in its place.
type meaning struct {
	t     api.Ty
	value *api.Exp
	outer []meaning // for the variables of the value
}

// proofs finds out which types terms have, by trying all types of a universe.
type proofs struct {
	universe []api.Ty
	known    map[string]bool
}

// has: is there a proof that a term has a type, for the meanings of v0, v1, ..?
func (p *proofs) has(e api.Exp, t api.Ty, l []meaning) bool {
	if e.Kind == api.ExApp || e.Kind == api.ExLet {
		key := show.Expr(e) + " : " + show.Type(t)
		for _, x := range l {
			if x.value != nil {
				return p.isProved(e, t, l)
			}
			key += ", " + show.Type(x.t)
		}
		if _, ok := p.known[key]; !ok {
			p.known[key] = p.isProved(e, t, l)
		}
		return p.known[key]
	}
	return p.isProved(e, t, l)
}

func (p *proofs) isProved(e api.Exp, t api.Ty, l []meaning) bool {
	some := func(holds func(a api.Ty) bool) bool { return slices.ContainsFunc(p.universe, holds) }
	with := func(more ...meaning) []meaning { return slices.Concat(l, more) }
	switch e.Kind {
	case api.ExInt:
		return t.Name == "int"
	case api.ExCon:
		return t.Name == "bool"
	case api.ExVar:
		n, _ := strconv.Atoi(e.Name[1:])
		if l[n].value != nil {
			return p.has(*l[n].value, t, l[n].outer)
		}
		return ty.Same(l[n].t, t)
	case api.ExFn:
		if t.Name != "->" {
			return false
		}
		c, a := e.Cases[0], t.Args[0]
		if c.Pat.Kind == api.PaVar {
			return p.has(c.Exp, t.Args[1], with(meaning{t: a}))
		}
		return a.Name == "*" && p.has(c.Exp, t.Args[1], with(meaning{t: a.Args[0]}, meaning{t: a.Args[1]}))
	case api.ExTuple:
		return t.Name == "*" && p.has(e.Kids[0], t.Args[0], l) && p.has(e.Kids[1], t.Args[1], l)
	case api.ExApp:
		return some(func(a api.Ty) bool { return p.has(e.Kids[1], a, l) && p.has(e.Kids[0], fn(a, t), l) })
	}
	value := e.Decs[0].Case[0].Exp
	if mayBeMany(value) {
		return some(func(a api.Ty) bool { return p.has(value, a, l) }) && p.has(e.Kids[0], t, with(meaning{value: &value, outer: l}))
	}
	return some(func(a api.Ty) bool { return p.has(value, a, l) && p.has(e.Kids[0], t, with(meaning{t: a})) })
}
