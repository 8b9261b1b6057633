package decl

import (
	"camlet/api"
	"camlet/tree"
	"camlet/ty"
)

// growing is a table to which declarations are added, and what is known by its names, so that a program takes no time in the square of its length.
type growing struct {
	table api.Table
	types map[string]int      // how many Args a known type has, or uncounted
	cons  map[string]struct{} // the names of the constructors
	exns  int                 // how many exceptions there are
}

// uncounted: the Args of the types that are built in are counted by tree.Right.
const uncounted = -1

func newGrowing(t api.Table) *growing {
	g := &growing{
		types: map[string]int{"int": uncounted, "bool": uncounted, "unit": uncounted, exn: uncounted, "ref": uncounted, "->": uncounted, "*": uncounted},
		cons:  map[string]struct{}{},
	}
	for i := range t {
		g.put(copied(&t[i]))
	}
	return g
}

// put appends a place.
func (g *growing) put(p api.Place) {
	g.table = append(g.table, p)
	g.cons[p.Name] = struct{}{}
	if p.Data == exn {
		g.exns++
	}
	if _, isKnown := g.types[p.Data]; !isKnown {
		g.types[p.Data] = p.Scheme.Vars
	}
}

// add appends the places of a declaration. After an error the table is of no use any more.
func (g *growing) add(d *api.Dec) api.Bad {
	if d.Kind == api.DcVal || d.Kind == api.DcFun {
		return api.Bad{}
	}
	// the promises begin behind this error, but without it the Params could be too many to go through
	if bad := tree.Right([]api.Dec{*d}); bad.Kind != api.OK {
		return bad
	}
	if d.Kind == api.DcData {
		if _, isKnown := g.types[d.Name]; isKnown {
			return api.Bad{Kind: api.ErrTwice, At: d.At, Name: d.Name}
		}
		g.types[d.Name] = d.Params
	}
	return g.addCons(d)
}

// addCons appends the places of the constructors of a declaration, up to the first error.
func (g *growing) addCons(d *api.Dec) api.Bad {
	bad := api.Bad{}
cons:
	for i := range d.Cons {
		c := &d.Cons[i]
		_, isTaken := g.cons[c.Name]
		switch {
		case isTaken:
			bad = api.Bad{Kind: api.ErrTwice, At: c.At, Name: c.Name}
			break cons
		case d.Kind == api.DcExn && g.exns > api.MaxTag:
			bad = api.Bad{Kind: api.ErrCount, At: c.At, Name: c.Name}
			break cons
		case c.Has:
			bad = g.argFault(c, d.Params)
			if bad.Kind != api.OK {
				break cons
			}
		}
		g.put(g.place(d, i))
	}
	return bad
}

// argFault: the first error in the type of the argument of a constructor.
func (g *growing) argFault(c *api.Con, params int) api.Bad {
	bad := api.Bad{}
	var check func(t *api.Ty)
	check = func(t *api.Ty) {
		count, isKnown := g.types[t.Name]
		switch {
		case t.Kind == api.TyVar && t.N < params:
		case t.Kind == api.TyVar:
			bad = api.Bad{Kind: api.ErrVar, At: c.At}
		case !isKnown:
			bad = api.Bad{Kind: api.ErrName, At: c.At, Name: t.Name}
		case count != uncounted && count != len(t.Args):
			bad = api.Bad{Kind: api.ErrCount, At: c.At, Name: t.Name}
		}
		for i := range t.Args {
			if bad.Kind == api.OK {
				check(&t.Args[i])
			}
		}
	}
	check(&c.Arg)
	return bad
}

// place: what is known of the constructor of a declaration with an index.
func (g *growing) place(d *api.Dec, i int) api.Place {
	c := &d.Cons[i]
	p := api.Place{Name: c.Name, Data: exn, Tag: g.exns, Has: c.Has}
	if d.Kind == api.DcData {
		p.Data, p.Tag, p.Of, p.Scheme.Vars = d.Name, i, len(d.Cons), d.Params
	}
	var params []api.Ty
	for n := range p.Scheme.Vars {
		params = append(params, api.Ty{Kind: api.TyVar, N: n})
	}
	p.Scheme.Ty = ty.Of(p.Data, params...)
	if c.Has {
		p.Scheme.Ty = ty.Fn(c.Arg, p.Scheme.Ty)
	}
	return p
}
