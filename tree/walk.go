package tree

import (
	"iter"

	"camlet/api"
)

// step is what a walk comes to: a node, or a function or constructor of a declaration, which comes directly before its own parts.
type step struct {
	part  any // *api.Dec, *api.Exp, *api.Pat or *api.Ty of a node, *api.Fun or *api.Con otherwise
	at    int
	depth int  // 1 for what the walk begins with; of a node only
	local bool // is it a declaration inside an expression?
}

func (s step) isNode() bool {
	switch s.part.(type) {
	case *api.Fun, *api.Con:
		return false
	}
	return true
}

// programSteps: the steps of a program, each before those of its parts. A loop that stops early ends also on trees that are far too large.
func programSteps(p []api.Dec) iter.Seq[step] {
	return func(yield func(step) bool) {
		each(p, func(d *api.Dec) bool { return walk(yield).dec(d, 1, false) })
	}
}

func expSteps(e *api.Exp) iter.Seq[step] {
	return func(yield func(step) bool) { walk(yield).exp(e, 1) }
}

func patSteps(p *api.Pat) iter.Seq[step] {
	return func(yield func(step) bool) { walk(yield).pat(p, 1) }
}

// walk is what receives the steps. All levels of a tree hand theirs to the same one: iterators that passed on those of other iterators would take time in the square of the depth.
// It returns whether the walk goes on, and so do its methods.
type walk func(step) bool

func (w walk) dec(d *api.Dec, depth int, local bool) bool {
	below := depth + 1
	return w(step{part: d, at: d.At, depth: depth, local: local}) &&
		w.cases(d.Case, below) &&
		each(d.Funs, func(f *api.Fun) bool {
			return w(step{part: f, at: f.At}) && w.matched(&f.Case, below)
		}) &&
		each(d.Cons, func(c *api.Con) bool {
			return w(step{part: c, at: c.At}) && (!c.Has || w.ty(&c.Arg, c.At, below))
		})
}

func (w walk) exp(e *api.Exp, depth int) bool {
	below := depth + 1
	return w(step{part: e, at: e.At, depth: depth}) &&
		each(e.Decs, func(d *api.Dec) bool { return w.dec(d, below, true) }) &&
		each(e.Kids, func(kid *api.Exp) bool { return w.exp(kid, below) }) &&
		w.cases(e.Cases, below)
}

func (w walk) cases(l []api.Case, depth int) bool {
	return each(l, func(c *api.Case) bool { return w.matched(c, depth) })
}

func (w walk) matched(c *api.Case, depth int) bool {
	return w.pat(&c.Pat, depth) && w.exp(&c.Exp, depth)
}

func (w walk) pat(p *api.Pat, depth int) bool {
	return w(step{part: p, at: p.At, depth: depth}) &&
		each(p.Kids, func(kid *api.Pat) bool { return w.pat(kid, depth+1) })
}

// ty: the steps of a type, which has no place of its own but that of its constructor.
func (w walk) ty(t *api.Ty, at, depth int) bool {
	return w(step{part: t, at: at, depth: depth}) &&
		each(t.Args, func(arg *api.Ty) bool { return w.ty(arg, at, depth+1) })
}

// each: calls a function with one element after another until it returns false; does it never?
func each[E any](l []E, call func(*E) bool) bool {
	for i := range l {
		if !call(&l[i]) {
			return false
		}
	}
	return true
}
