package decl

import (
	"camlet/api"
	"camlet/ty"
)

// declared: the declarations whose table can be this one, if any table of declarations can. They share the types of its places.
func declared(t api.Table) []api.Dec {
	var p []api.Dec
	for rest := t[min(len(Start()), len(t)):]; len(rest) > 0; {
		count := 1
		if rest[0].Data != exn {
			// where Of cannot be true, it will differ from that of the places that are made
			count = min(max(1, rest[0].Of), len(rest))
		}
		p = append(p, declaration(rest[:count]))
		rest = rest[count:]
	}
	return p
}

// declaration: what can have declared these places, of which there is at least one.
func declaration(l []api.Place) api.Dec {
	d := api.Dec{Kind: api.DcData, Name: l[0].Data, Params: l[0].Scheme.Vars}
	if d.Name == exn {
		d = api.Dec{Kind: api.DcExn}
	}
	for i := range l {
		c := api.Con{Name: l[i].Name, Has: l[i].Has}
		if args := l[i].Scheme.Ty.Args; c.Has && len(args) > 0 {
			c.Arg = args[0]
		}
		d.Cons = append(d.Cons, c)
	}
	return d
}

// areSame: are all fields of all places equal?
func areSame(a, b api.Table) bool {
	if len(a) != len(b) {
		return false
	}
	for i := range a {
		p, q := &a[i], &b[i]
		if p.Name != q.Name || p.Data != q.Data || p.Tag != q.Tag || p.Of != q.Of || p.Has != q.Has || p.Scheme.Vars != q.Scheme.Vars || !ty.Same(p.Scheme.Ty, q.Scheme.Ty) {
			return false
		}
	}
	return true
}
