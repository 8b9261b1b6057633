package show

import "camlet/api"

// The levels of patterns and types.
const (
	looseNode  = 0
	middleNode = 1
	closedNode = 2
)

func patLevel(p *api.Pat) int {
	switch {
	case p.Kind == api.PaAs:
		return looseNode
	case p.Kind == api.PaCon && len(p.Kids) > 0:
		return middleNode
	}
	return closedNode
}

// pat: writes a pattern at a level.
func (w *writer) pat(p *api.Pat, least int) {
	w.group(patLevel(p) < least, func() { w.barePat(p) })
}

// barePat: writes a pattern without parentheses around it.
func (w *writer) barePat(p *api.Pat) {
	switch p.Kind {
	case api.PaAny:
		w.put("_")
	case api.PaVar:
		w.put(p.Name)
	case api.PaInt:
		w.number(p.N)
	case api.PaCon:
		w.con(p.Name)
		for i := range p.Kids {
			w.pat(&p.Kids[i], closedNode)
		}
	case api.PaTuple:
		w.tuple(len(p.Kids), ",", func(i int) { w.pat(&p.Kids[i], looseNode) })
	case api.PaAs:
		w.put(p.Name, "as")
		w.pat(&p.Kids[0], looseNode)
	}
}
