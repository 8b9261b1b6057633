package unify

import (
	"camlet/api"
	"camlet/ty"
)

// pairing is the work of one call of Unify. It numbers the nodes that it meets and notes which of them have become equal, since bindings that are found in one call can give a type so many equal parts that it would take too long to go through each of them.
type pairing struct {
	sub    *Sub
	nodes  []node
	nodeOf map[int]int // the node of a variable that is the smallest of those with which it is identified
	found  []binding
	checks int
}

type node struct {
	t     *api.Ty // a variable only if it was unbound before the call
	args  []int   // the nodes of its Args, from the time on at which they are needed
	equal int     // a node to which it has been made equal, or itself
	check int     // the last check for loops that has seen it
}

type binding struct {
	v int
	t api.Ty
}

// node: the number of the node of a type.
func (p *pairing) node(t *api.Ty) int {
	n := len(p.nodes)
	if t.Kind == api.TyVar {
		root := p.sub.root(t.N)
		if known, isKnown := p.nodeOf[root]; isKnown {
			return known
		}
		p.nodeOf[root] = n
		own, isBound := p.sub.bound[root]
		if !isBound {
			own = variable(root)
		}
		t = &own
	}
	p.nodes = append(p.nodes, node{t: t, equal: n})
	return n
}

// args: the nodes of the Args of a node.
func (p *pairing) args(n int) []int {
	t := p.nodes[n].t
	if len(p.nodes[n].args) == 0 {
		var l []int
		for i := range t.Args {
			l = append(l, p.node(&t.Args[i]))
		}
		p.nodes[n].args = l
	}
	return p.nodes[n].args
}

// last: the node that now stands for a node and all that are equal to it.
func (p *pairing) last(n int) int {
	for p.nodes[n].equal != n {
		p.nodes[n].equal = p.nodes[p.nodes[n].equal].equal
		n = p.nodes[n].equal
	}
	return n
}

// pair makes two nodes equal.
func (p *pairing) pair(m, n int) api.Errno {
	m, n = p.last(m), p.last(n)
	if m == n {
		return api.OK
	}
	a, b := p.nodes[m].t, p.nodes[n].t
	switch {
	case b.Kind == api.TyVar && (a.Kind != api.TyVar || a.N < b.N):
		return p.put(n, m)
	case a.Kind == api.TyVar:
		return p.put(m, n)
	case a.Name != b.Name || len(a.Args) != len(b.Args):
		return api.ErrClash
	}
	left, right := p.args(m), p.args(n)
	for i := range left {
		if e := p.pair(left[i], right[i]); e != api.OK {
			return e
		}
	}
	p.nodes[m].equal = n
	return api.OK
}

// put finds a binding: the second node in the place of the first one, an unbound variable.
func (p *pairing) put(m, n int) api.Errno {
	p.checks++
	if p.contains(n, m) {
		return api.ErrLoop
	}
	p.nodes[m].equal = n
	p.found = append(p.found, binding{v: p.nodes[m].t.N, t: ty.Put(*p.nodes[n].t, nil)})
	return api.OK
}

// contains: does a node contain another one, an unbound variable? A node that the check has seen already isn't looked at again.
func (p *pairing) contains(n, m int) bool {
	n = p.last(n)
	if n == m || p.nodes[n].check == p.checks {
		return n == m
	}
	p.nodes[n].check = p.checks
	for _, arg := range p.args(n) {
		if p.contains(arg, m) {
			return true
		}
	}
	return false
}
