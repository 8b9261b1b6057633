package scope_test

import (
	"cmp"
	"reflect"
	"slices"
	"strconv"
	"strings"
	"testing"

	"camlet/api"
	"camlet/decl"
	"camlet/read"
)

// program: the tree of a text.
func program(t *testing.T, text string) []api.Dec {
	t.Helper()
	p, bad := read.Program(text)
	if bad != (api.Bad{}) {
		t.Fatalf("read.Program of %q gives %v", text, bad)
	}
	return p
}

// expr: the tree of a text.
func expr(t *testing.T, text string) api.Exp {
	t.Helper()
	e, bad := read.Expr(text)
	if bad != (api.Bad{}) {
		t.Fatalf("read.Expr of %q gives %v", text, bad)
	}
	return e
}

// structs: everything with fields inside a program or a part of one, each before those inside it.
func structs(p any) []reflect.Value {
	var l []reflect.Value
	var visit func(v reflect.Value)
	visit = func(v reflect.Value) {
		switch v.Kind() {
		case reflect.Struct:
			l = append(l, v)
			for i := range v.NumField() {
				visit(v.Field(i))
			}
		case reflect.Slice:
			for i := range v.Len() {
				visit(v.Index(i))
			}
		}
	}
	visit(reflect.ValueOf(p).Elem())
	return l
}

// gather: pointers to everything of one type inside a program or a part of one, each before those inside it.
func gather[T any](p any) []*T {
	var l []*T
	for _, v := range structs(p) {
		if x, ok := v.Addr().Interface().(*T); ok {
			l = append(l, x)
		}
	}
	return l
}

// mirror turns the order of all places in a program or a part of one around.
func mirror(p any) {
	for _, v := range structs(p) {
		if at := v.FieldByName("At"); at.IsValid() {
			at.SetInt(-at.Int())
		}
	}
}

// valOf: a program of an expression.
func valOf(e api.Exp) []api.Dec {
	return []api.Dec{{Kind: api.DcVal, Case: []api.Case{{Pat: api.Pat{Kind: api.PaAny}, Exp: e}}}}
}

// roomy: the same program or part of one in new memory, with room for two elements, which are not empty, behind all its slices.
func roomy[T any](x T) T {
	var of func(to, from reflect.Value)
	of = func(to, from reflect.Value) {
		to.Set(from)
		switch from.Kind() {
		case reflect.Struct:
			for i := range from.NumField() {
				of(to.Field(i), from.Field(i))
			}
		case reflect.Slice:
			n := from.Len()
			l := reflect.MakeSlice(from.Type(), n+2, n+2)
			for i := range n {
				of(l.Index(i), from.Index(i))
			}
			for i := n; i < n+2 && n > 0; i++ {
				l.Index(i).Set(l.Index(0))
			}
			to.Set(l.Slice(0, n))
		}
	}
	var made T
	of(reflect.ValueOf(&made).Elem(), reflect.ValueOf(&x).Elem())
	return made
}

// whole: a program or a part of one with what lies behind its slices.
func whole[T any](x T) T {
	var open func(v reflect.Value)
	open = func(v reflect.Value) {
		switch v.Kind() {
		case reflect.Struct:
			for i := range v.NumField() {
				open(v.Field(i))
			}
		case reflect.Slice:
			l := reflect.MakeSlice(v.Type(), v.Cap(), v.Cap())
			reflect.Copy(l, v.Slice(0, v.Cap()))
			v.Set(l)
			for i := range l.Len() {
				open(l.Index(i))
			}
		}
	}
	open(reflect.ValueOf(&x).Elem())
	return x
}

// patNames: the variables of a pattern, with their places, as errors ErrTwice.
func patNames(p api.Pat) []api.Bad {
	var l []api.Bad
	for _, x := range gather[api.Pat](&p) {
		if x.Kind == api.PaVar || x.Kind == api.PaAs {
			l = append(l, api.Bad{Kind: api.ErrTwice, At: x.At, Name: x.Name})
		}
	}
	return l
}

// decNames: the names that a declaration binds, with their places, as errors ErrTwice.
func decNames(d api.Dec) []api.Bad {
	var l []api.Bad
	for _, c := range d.Case {
		l = append(l, patNames(c.Pat)...)
	}
	for _, f := range d.Funs {
		l = append(l, api.Bad{Kind: api.ErrTwice, At: f.At, Name: f.Name})
	}
	return l
}

// without: errors that are not about certain names.
func without(l, names []api.Bad) []api.Bad {
	return slices.DeleteFunc(l, func(bad api.Bad) bool { return hasName(names, bad.Name) })
}

func hasName(l []api.Bad, name string) bool {
	return slices.ContainsFunc(l, func(bad api.Bad) bool { return bad.Name == name })
}

// unbound: the variables of an expression that it does not bind, as errors in any order. This goes from the inside of trees to their outside: a binding takes away what is found in its scope.
func unbound(e api.Exp) []api.Bad {
	var l []api.Bad
	if e.Kind == api.ExVar {
		l = append(l, api.Bad{Kind: api.ErrVar, At: e.At, Name: e.Name})
	}
	for _, kid := range e.Kids {
		l = append(l, unbound(kid)...)
	}
	for _, c := range e.Cases {
		l = append(l, unboundCase(c)...)
	}
	return unboundBefore(e.Decs, l)
}

func unboundCase(c api.Case) []api.Bad { return without(unbound(c.Exp), patNames(c.Pat)) }

// unboundBefore: the unbound variables of declarations and of what stands behind them, of which l are unbound.
func unboundBefore(decs []api.Dec, l []api.Bad) []api.Bad {
	for _, d := range slices.Backward(decs) {
		l = without(l, decNames(d))
		for _, c := range d.Case {
			l = append(l, unbound(c.Exp)...)
		}
		var group []api.Bad
		for _, f := range d.Funs {
			group = append(group, unboundCase(f.Case)...)
		}
		l = append(l, without(group, decNames(d))...)
	}
	return l
}

// repeated: all but the first ones of each name.
func repeated(l []api.Bad) []api.Bad {
	var again []api.Bad
	for i, bad := range l {
		if hasName(l[:i], bad.Name) {
			again = append(again, bad)
		}
	}
	return again
}

// misusedCons: the errors of the constructors in a declaration that comes after certain others.
func misusedCons(before []api.Dec, d api.Dec) []api.Bad {
	table, _ := decl.Of(before)
	var l []api.Bad
	check := func(at int, name string, kids int) {
		place, isKnown := decl.Find(table, name)
		switch {
		case !isKnown:
			l = append(l, api.Bad{Kind: api.ErrCon, At: at, Name: name})
		case place.Has != (kids == 1):
			l = append(l, api.Bad{Kind: api.ErrCount, At: at, Name: name})
		}
	}
	for _, e := range gather[api.Exp](&d) {
		if e.Kind == api.ExCon {
			check(e.At, e.Name, len(e.Kids))
		}
	}
	for _, p := range gather[api.Pat](&d) {
		if p.Kind == api.PaCon {
			check(p.At, p.Name, len(p.Kids))
		}
	}
	return l
}

// faults: all errors of the names of a program, in the order of their places, in which the places must rise in source order.
func faults(p []api.Dec) []api.Bad {
	l := unboundBefore(p, nil)
	for i, d := range p {
		l = append(l, misusedCons(p[:i], d)...)
	}
	for _, c := range gather[api.Case](&p) {
		l = append(l, repeated(patNames(c.Pat))...)
	}
	for _, d := range gather[api.Dec](&p) {
		if d.Kind == api.DcFun {
			l = append(l, repeated(decNames(*d))...)
		}
	}
	return inOrder(l)
}

func inOrder(l []api.Bad) []api.Bad {
	slices.SortFunc(l, func(a, b api.Bad) int { return cmp.Compare(a.At, b.At) })
	return l
}

// namesOf: the names that errors are about, each once.
func namesOf(l []api.Bad) []string {
	var names []string
	for _, bad := range l {
		if !slices.Contains(names, bad.Name) {
			names = append(names, bad.Name)
		}
	}
	return names
}

// maker makes programs whose form is right, out of a row of numbers that is the same at each run of the tests. Their places rise in source order.
type maker struct {
	last uint32
	odd  int // one choice of a name in so many can be wrong; 0: none
	at   int
	vars []string  // what can be used
	cons []api.Con // what can be used
}

func newMaker(seed, odd int) *maker {
	m := &maker{last: uint32(seed), odd: odd}
	for _, p := range decl.Start() {
		m.cons = append(m.cons, api.Con{Name: p.Name})
	}
	return m
}

func (m *maker) below(n int) int {
	m.last = m.last*1664525 + 1013904223
	return int(m.last>>8) % n
}

func (m *maker) isWrong() bool { return m.odd > 0 && m.below(m.odd) == 0 }

func (m *maker) next() int {
	m.at += 1 + m.below(3)
	return m.at
}

func (m *maker) low() string { return string(rune('a' + m.below(8))) }

// newName: a name that is not taken, if nothing goes wrong.
func (m *maker) newName(taken []string) string {
	if len(taken) > 0 && m.isWrong() {
		return taken[m.below(len(taken))]
	}
	name := m.low()
	for slices.Contains(taken, name) {
		name = m.low()
	}
	return name
}

func (m *maker) program(count, deep int) []api.Dec {
	var p []api.Dec
	for range count {
		p = append(p, m.dec(deep, 4))
	}
	return p
}

// dec: a declaration of one of the first kinds, whose names can be used from then on.
func (m *maker) dec(deep, kinds int) api.Dec {
	d := api.Dec{Kind: api.DecKind(1 + m.below(kinds)), At: m.next()}
	switch d.Kind {
	case api.DcVal:
		pat, names := m.pat()
		d.Case = []api.Case{{Pat: pat, Exp: m.exp(deep - 1)}}
		m.vars = append(m.vars, names...)
	case api.DcFun:
		var names []string
		for range 1 + m.below(3) {
			names = append(names, m.newName(names))
		}
		m.vars = append(m.vars, names...)
		for _, name := range names {
			d.Funs = append(d.Funs, api.Fun{Name: name, At: m.next(), Case: m.matched(deep - 1)})
		}
	case api.DcData:
		d.Name = "t" + strconv.Itoa(d.At)
		for range 1 + m.below(3) {
			d.Cons = append(d.Cons, m.con())
		}
	case api.DcExn:
		d.Cons = []api.Con{m.con()}
	}
	return d
}

// con: a constructor with a new name, which can be used from then on.
func (m *maker) con() api.Con {
	c := api.Con{Name: "C" + strconv.Itoa(len(m.cons)), At: m.next(), Has: m.below(2) == 0}
	if c.Has {
		c.Arg = api.Ty{Kind: api.TyCon, Name: "int"}
	}
	m.cons = append(m.cons, c)
	return c
}

// picked: a constructor, and whether it gets an argument. A wrong one can be one that comes later.
func (m *maker) picked() (string, bool) {
	c := m.cons[m.below(len(m.cons))]
	if m.isWrong() {
		c.Name = "C" + strconv.Itoa(len(m.cons)+m.below(3))
	}
	return c.Name, c.Has != m.isWrong()
}

// pat: a pattern, and its variables.
func (m *maker) pat() (api.Pat, []string) {
	var names []string
	var make func(deep int) api.Pat
	make = func(deep int) api.Pat {
		p := api.Pat{Kind: api.PatKind(1 + m.below(6)), At: m.next()}
		if deep < 2 && p.Kind > api.PaInt {
			p.Kind -= 3
		}
		if len(names) > 5 && (p.Kind == api.PaVar || p.Kind == api.PaAs) {
			p.Kind = api.PaAny
		}
		kids, has := 0, false
		switch p.Kind {
		case api.PaAs:
			kids = 1
			fallthrough
		case api.PaVar:
			p.Name = m.newName(names)
			names = append(names, p.Name)
		case api.PaInt:
			p.N = m.below(100)
		case api.PaCon:
			if p.Name, has = m.picked(); has {
				kids = 1
			}
		case api.PaTuple:
			kids = 2 + m.below(2)
		}
		for range kids {
			p.Kids = append(p.Kids, make(deep-1))
		}
		return p
	}
	return make(3), names
}

// matched: a case, whose variables can be used inside it only.
func (m *maker) matched(deep int) api.Case {
	pat, names := m.pat()
	outer := slices.Clone(m.vars)
	m.vars = append(m.vars, names...)
	c := api.Case{Pat: pat, Exp: m.exp(deep)}
	m.vars = outer
	return c
}

// exp: an expression, so deep at most.
func (m *maker) exp(deep int) api.Exp {
	e := api.Exp{Kind: api.ExpKind(1 + m.below(20)), At: m.next()}
	if deep < 2 || m.below(4) == 0 {
		e.Kind = api.ExVar
	}
	if deep > 0 && m.below(6) == 0 {
		e.Kind = api.ExCon
	}
	switch e.Kind {
	case api.ExVar:
		if len(m.vars) == 0 && m.odd > 0 || m.isWrong() {
			e.Name = m.low()
		} else if len(m.vars) > 0 {
			e.Name = m.vars[m.below(len(m.vars))]
		} else {
			e.Kind = api.ExInt
		}
	case api.ExCon:
		var has bool
		if e.Name, has = m.picked(); has {
			e.Kids = m.exps(1, deep)
		}
	case api.ExLet:
		outer := slices.Clone(m.vars)
		for range 1 + m.below(3) {
			e.Decs = append(e.Decs, m.dec(deep-1, 2))
		}
		e.Kids = m.exps(1, deep)
		m.vars = outer
	case api.ExFn:
		e.Cases = m.casesOf(deep)
	case api.ExCase, api.ExTry:
		e.Kids = m.exps(1, deep)
		e.Cases = m.casesOf(deep)
	case api.ExOp:
		e.N, e.Kids = 1+m.below(9), m.exps(2, deep)
	default:
		e.Kids = m.exps(kidsOf()[e.Kind], deep)
	}
	return e
}

// kidsOf: how many Kids expressions can have for which there is nothing else to choose.
func kidsOf() map[api.ExpKind]int {
	return map[api.ExpKind]int{api.ExTuple: 3, api.ExApp: 2, api.ExIf: 3, api.ExSeq: 4, api.ExRaise: 1, api.ExAnd: 2, api.ExOr: 2, api.ExRef: 1, api.ExGet: 1, api.ExSet: 2, api.ExPrint: 1}
}

func (m *maker) exps(count, deep int) []api.Exp {
	var l []api.Exp
	for range count {
		l = append(l, m.exp(deep-1))
	}
	return l
}

func (m *maker) casesOf(deep int) []api.Case {
	var l []api.Case
	for range 1 + m.below(2) {
		l = append(l, m.matched(deep-1))
	}
	return l
}

// spoil changes one field of a program, mostly to what cannot be right.
func (m *maker) spoil(p *[]api.Dec) {
	l := structs(p)
	v := l[m.below(len(l))]
	field := v.Field(m.below(v.NumField()))
	switch field.Kind() {
	case reflect.Int:
		numbers := []int64{-1 << 63, -1, 0, 1, 2, 3, 4, 5, 6, 10, 20, 21, 1 << 30, 1<<63 - 1}
		field.SetInt(numbers[m.below(len(numbers))])
	case reflect.String:
		names := []string{"", "_", "a", "val", "A", "Div", "true", "()", "int", "é", strings.Repeat("a", api.MaxName+1), strings.Repeat("A", 1<<16)}
		field.SetString(names[m.below(len(names))])
	case reflect.Bool:
		field.SetBool(!field.Bool())
	case reflect.Slice:
		l := reflect.MakeSlice(field.Type(), m.below(3), 9)
		if n := field.Len(); n > 0 && m.below(2) == 0 {
			l = reflect.Append(field.Slice(0, m.below(n)), field.Index(0))
		}
		field.Set(l)
	}
}

// spoilers: functions that put an error into the form of an expression that is a constructor of an int.
func spoilers() []func(e *api.Exp) {
	return []func(e *api.Exp){
		func(e *api.Exp) { e.Kind = 0 },
		func(e *api.Exp) { e.Kind = 21 },
		func(e *api.Exp) { e.N = 1 },
		func(e *api.Exp) { e.Name = "c" },
		func(e *api.Exp) { e.Name = "" },
		func(e *api.Exp) { e.Decs = valOf(*e) },
		func(e *api.Exp) { e.Cases = valOf(*e)[0].Case },
		func(e *api.Exp) { e.Kids[0].N = 1 << 30 },
		func(e *api.Exp) { e.Kids[0].Name = "x" },
		func(e *api.Exp) { e.Kids = make([]api.Exp, 2) },
		func(e *api.Exp) {
			*e = api.Exp{Kind: api.ExSeq, Kids: slices.Repeat([]api.Exp{{Kind: api.ExRead}}, api.MaxSize)}
		},
		func(e *api.Exp) {
			for range api.MaxDeep {
				*e = api.Exp{Kind: api.ExRef, Kids: []api.Exp{*e}}
			}
		},
	}
}
