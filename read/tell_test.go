package read_test

import (
	"reflect"
	"strconv"
	"strings"

	"camlet/api"
	"camlet/read"
)

// The functions of this file write trees for the tables of the tests: (kind@offset fields), without the parentheses where there is only a name or a number.

var expKinds = [...]string{"0", "int", "var", "con", "tuple", "fn", "app", "let", "if", "case", "seq", "try", "raise", "op", "and", "or", "ref", "get", "set", "print", "read"}

var patKinds = [...]string{"0", "any", "var", "int", "con", "tuple", "as"}

var decKinds = [...]string{"0", "val", "fun", "data", "exn"}

func node(kind string, at int, name string, n int, parts ...string) string {
	head := kind + "@" + strconv.Itoa(at)
	switch {
	case name != "" && (kind == "var" || kind == "con"):
		head = name + "@" + strconv.Itoa(at)
	case name != "":
		head += " " + name
	}
	switch {
	case kind == "int":
		head = strconv.Itoa(n) + "@" + strconv.Itoa(at)
	case n != 0:
		head += " " + strconv.Itoa(n)
	}
	if len(parts) == 0 {
		return head
	}
	return "(" + head + " " + strings.Join(parts, " ") + ")"
}

func tellExp(e api.Exp) string {
	var parts []string
	for _, d := range e.Decs {
		parts = append(parts, tellDec(d))
	}
	for _, kid := range e.Kids {
		parts = append(parts, tellExp(kid))
	}
	for _, c := range e.Cases {
		parts = append(parts, tellPat(c.Pat)+"=>"+tellExp(c.Exp))
	}
	return node(expKinds[e.Kind], e.At, e.Name, e.N, parts...)
}

func tellPat(p api.Pat) string {
	var parts []string
	for _, kid := range p.Kids {
		parts = append(parts, tellPat(kid))
	}
	return node(patKinds[p.Kind], p.At, p.Name, p.N, parts...)
}

func tellTy(t api.Ty) string {
	if t.Kind == api.TyVar {
		return "'" + strconv.Itoa(t.N)
	}
	parts := []string{t.Name}
	for _, arg := range t.Args {
		parts = append(parts, tellTy(arg))
	}
	if len(parts) == 1 {
		return t.Name
	}
	return "(" + strings.Join(parts, " ") + ")"
}

func tellDec(d api.Dec) string {
	var parts []string
	for _, c := range d.Case {
		parts = append(parts, tellPat(c.Pat)+"="+tellExp(c.Exp))
	}
	for _, f := range d.Funs {
		parts = append(parts, f.Name+"@"+strconv.Itoa(f.At)+":"+tellPat(f.Case.Pat)+"="+tellExp(f.Case.Exp))
	}
	for _, c := range d.Cons {
		part := c.Name + "@" + strconv.Itoa(c.At)
		if c.Has {
			part += ":" + tellTy(c.Arg)
		}
		parts = append(parts, part)
	}
	return node(decKinds[d.Kind], d.At, d.Name, d.Params, parts...)
}

func tellProgram(l []api.Dec) string {
	var parts []string
	for _, d := range l {
		parts = append(parts, tellDec(d))
	}
	return strings.Join(parts, " ")
}

// tell: what a call has returned, or "" for nothing.
func tell(x any) string {
	switch x := x.(type) {
	case []api.Dec:
		return tellProgram(x)
	case api.Exp:
		if !reflect.ValueOf(x).IsZero() {
			return tellExp(x)
		}
	case api.Pat:
		if !reflect.ValueOf(x).IsZero() {
			return tellPat(x)
		}
	case api.Ty:
		if !reflect.ValueOf(x).IsZero() {
			return tellTy(x)
		}
	}
	return ""
}

// calls: the four calls, by the names of their constructs in the grammar.
var calls = map[string]func(s string) (any, api.Bad){
	"program": boxed(read.Program), "exp": boxed(read.Expr), "pat": boxed(read.Pattern), "ty": boxed(read.Type),
}

func boxed[T any](call func(string) (T, api.Bad)) func(string) (any, api.Bad) {
	return func(s string) (any, api.Bad) {
		x, bad := call(s)
		return x, bad
	}
}
