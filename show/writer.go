package show

import "camlet/num"

// writer writes tokens one behind the other.
type writer struct {
	text []byte
	glue bool // does the next token follow the last one without a blank?
}

// written: the text that a part writes.
func written(part func(*writer)) string {
	w := &writer{glue: true}
	part(w)
	return string(w.text)
}

func (w *writer) put(tokens ...string) {
	for _, t := range tokens {
		if !w.glue && t != ")" && t != "," && t != ";" {
			w.text = append(w.text, ' ')
		}
		w.text = append(w.text, t...)
		w.glue = t == "(" || t == "~" || t == "!"
	}
}

func (w *writer) endLine() {
	w.text = append(w.text, '\n')
	w.glue = true
}

// group: writes a part, in parentheses if it needs them.
func (w *writer) group(needed bool, part func()) {
	if !needed {
		part()
		return
	}
	w.put("(")
	part()
	w.put(")")
}

// list: writes n parts with a token between any two.
func (w *writer) list(n int, between string, part func(i int)) {
	for i := range n {
		if i > 0 {
			w.put(between)
		}
		part(i)
	}
}

// tuple: writes a list in parentheses.
func (w *writer) tuple(n int, between string, part func(i int)) {
	w.group(true, func() { w.list(n, between, part) })
}

func (w *writer) number(n int) {
	if n < 0 {
		w.put("~")
		n = -n
	}
	w.put(num.Show(n))
}

// con: writes the name of a constructor.
func (w *writer) con(name string) {
	if name == "()" {
		w.put("(", ")")
		return
	}
	w.put(name)
}
