package show

import (
	"camlet/api"
	"camlet/lex"
	"camlet/num"
)

func tyLevel(t *api.Ty) int {
	switch t.Name {
	case "->":
		return looseNode
	case "*":
		return middleNode
	}
	return closedNode
}

// ty: writes a type at a level.
func (w *writer) ty(t *api.Ty, least int) {
	w.group(tyLevel(t) < least, func() { w.bareTy(t) })
}

// bareTy: writes a type without parentheses around it.
func (w *writer) bareTy(t *api.Ty) {
	arg := func(i, least int) { w.ty(&t.Args[i], least) }
	switch {
	case t.Kind == api.TyVar:
		w.put(tyvar(t.N))
		return
	case t.Name == "->":
		arg(0, middleNode)
		w.put("->")
		arg(1, looseNode)
		return
	case t.Name == "*":
		w.list(len(t.Args), "*", func(i int) { arg(i, closedNode) })
		return
	case len(t.Args) == 1:
		arg(0, closedNode)
	case len(t.Args) > 1:
		w.tuple(len(t.Args), ",", func(i int) { arg(i, looseNode) })
	}
	w.put(t.Name)
}

const letters = "abcdefghijklmnopqrstuvwxyz"

// tyvar: the text of the type variable with a number.
func tyvar(n int) string {
	letter := n % len(letters)
	text := "'" + letters[letter:letter+1]
	if n >= len(letters) {
		text += num.Show(n / len(letters))
	}
	return text
}

// mostTyvar is the greatest number of a type variable in a type on its own.
const mostTyvar = 1000

// isRight: can a type on its own be written?
func isRight(t api.Ty) bool {
	size := 0
	var isRightNode func(t *api.Ty) bool
	isRightNode = func(t *api.Ty) bool {
		size++
		if size > api.MaxTySize || !fits(t) {
			return false
		}
		for i := range t.Args {
			if !isRightNode(&t.Args[i]) {
				return false
			}
		}
		return true
	}
	return isRightNode(&t)
}

// fits: is a node of a type right, apart from its Args?
func fits(t *api.Ty) bool {
	n := len(t.Args)
	switch {
	case t.Kind == api.TyVar:
		return 0 <= t.N && t.N <= mostTyvar && t.Name == "" && n == 0
	case t.Kind != api.TyCon || t.N != 0:
		return false
	}
	switch t.Name {
	case "int", "bool", "unit", "exn":
		return n == 0
	case "ref":
		return n == 1
	case "->":
		return n == 2
	case "*":
		return 2 <= n && n <= api.MaxWidth
	}
	return n <= api.MaxParams && isLow(t.Name)
}

func isLow(name string) bool {
	l, bad := lex.Scan(name)
	return bad == (api.Bad{}) && len(l) == 1 && l[0].Kind == api.TkLow && l[0].Text == name
}
