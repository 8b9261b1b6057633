package show

import "camlet/api"

func (w *writer) dec(d *api.Dec) {
	switch d.Kind {
	case api.DcVal:
		w.put("val")
		w.binding(&d.Case[0], looseNode)
	case api.DcFun:
		w.put("fun")
		w.list(len(d.Funs), "and", func(i int) {
			w.put(d.Funs[i].Name)
			w.binding(&d.Funs[i].Case, closedNode)
		})
	case api.DcData:
		w.put("datatype")
		w.params(d.Params)
		w.put(d.Name, "=")
		w.list(len(d.Cons), "|", func(i int) { w.newCon(&d.Cons[i]) })
	case api.DcExn:
		w.put("exception")
		w.newCon(&d.Cons[0])
	}
}

// binding: writes a pattern at a level, and the expression that is matched with it.
func (w *writer) binding(c *api.Case, least int) {
	w.pat(&c.Pat, least)
	w.put("=")
	w.exp(&c.Exp, loose)
}

// params: writes the parameters of a datatype.
func (w *writer) params(n int) {
	param := func(i int) { w.put(tyvar(i)) }
	switch {
	case n == 1:
		param(0)
	case n > 1:
		w.tuple(n, ",", param)
	}
}

// newCon: writes a constructor that is declared.
func (w *writer) newCon(c *api.Con) {
	w.put(c.Name)
	if c.Has {
		w.put("of")
		w.ty(&c.Arg, looseNode)
	}
}
