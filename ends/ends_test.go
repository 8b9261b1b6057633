package ends_test

import (
	"math"
	"slices"
	"strings"
	"testing"

	"camlet/api"
	"camlet/ends"
	"camlet/num"
)

// outs: outputs, many of which begin with others, or begin as others do and then go on differently.
func outs() [][]int {
	return [][]int{
		nil, {}, {0}, {1}, {-1}, {2}, {12}, {0, 0}, {1, -2}, {1, 2}, {2, 1}, {1, -2, 5}, {1, -2, 6}, {1, 2, 5}, {-2, 5},
		{num.Least}, {num.Most}, {num.Least, num.Most}, {num.Most, num.Least}, slices.Repeat([]int{7}, 300), slices.Repeat([]int{7}, 301),
	}
}

// heads: ends without output, all of them valid.
func heads() []api.End {
	l := []api.End{{Kind: api.EndRaise, N: 1}, {Kind: api.EndRaise, N: 2}, {Kind: api.EndRaise, N: 1 << 40}, {Kind: api.EndRaise, N: math.MaxInt}}
	for kind := api.EndDone; kind <= api.EndStack; kind++ {
		l = append(l, api.End{Kind: kind}, api.End{Kind: kind, Steps: math.MaxInt})
	}
	return l
}

// valid: each of the heads with each of the outputs, which no two ends share.
func valid() []api.End {
	var l []api.End
	for _, e := range heads() {
		for _, out := range outs() {
			e.Out = slices.Clone(out)
			l = append(l, e)
		}
	}
	return l
}

// invalid: ends with one thing wrong, and ends with more than one.
func invalid() []api.End {
	l := []api.End{{}, {Kind: math.MinInt, N: math.MinInt, Out: []int{math.MinInt}, Steps: math.MinInt}}
	for _, kind := range []api.EndKind{0, -1, 7, 8, math.MinInt, math.MaxInt} {
		l = append(l, api.End{Kind: kind}, api.End{Kind: kind, N: 1, Out: []int{1}})
	}
	for kind := api.EndDone; kind <= api.EndStack; kind++ {
		l = append(l, api.End{Kind: kind, Steps: -1}, api.End{Kind: kind, Steps: math.MinInt})
		l = append(l, api.End{Kind: kind, N: -1}, api.End{Kind: kind, N: math.MinInt})
		if kind != api.EndRaise {
			l = append(l, api.End{Kind: kind, N: 1}, api.End{Kind: kind, N: math.MaxInt, Out: []int{1}})
		}
		for _, n := range []int{num.Most + 1, num.Least - 1, 1 << 31, 1 << 32, math.MaxInt, math.MinInt} {
			l = append(l, api.End{Kind: kind, Out: []int{n}}, api.End{Kind: kind, Out: []int{n, 1}}, api.End{Kind: kind, Out: []int{1, 2, n}})
		}
	}
	return l
}

// letters: an output as a text such that one output begins with another exactly if its text does.
func letters(out []int) string {
	var s strings.Builder
	for _, n := range out {
		s.WriteString(num.Show(n) + ",")
	}
	return s.String()
}

func cutOff(e api.End) bool {
	return slices.Contains([]api.EndKind{api.EndFuel, api.EndHeap, api.EndStack}, e.Kind)
}

func TestP201NoCallPanics(t *testing.T) {
	for _, a := range invalid() {
		if ends.Right(a) || ends.Show(a) != "" {
			t.Error(a, "is right, or shown as", ends.Show(a))
		}
		for _, b := range slices.Concat(invalid(), valid()) {
			ends.Same(a, b)
			if ends.Agree(a, b) || ends.Agree(b, a) {
				t.Fatal(a, "and", b, "agree")
			}
		}
	}
}

func TestP201ArgumentsStay(t *testing.T) {
	for _, e := range slices.Concat(valid(), invalid()) {
		whole := slices.Concat(e.Out, []int{-5, 6, -7})
		before := slices.Clone(whole)
		a, b := e, e
		a.Out, b.Out = whole[:len(e.Out)], whole[:len(e.Out)+1]
		for _, x := range [][2]api.End{{a, b}, {b, a}, {a, a}} {
			ends.Right(x[0])
			ends.Same(x[0], x[1])
			ends.Agree(x[0], x[1])
			ends.Show(x[0])
		}
		if !slices.Equal(whole, before) {
			t.Fatal("the output", before, "has become", whole)
		}
	}
}

func TestP201CallsArePure(t *testing.T) {
	type told struct {
		right, same, agree bool
		text               string
	}
	l := slices.Concat(valid(), invalid())
	tell := func(i int) told {
		other := l[(i+len(outs()))%len(l)]
		return told{ends.Right(l[i]), ends.Same(l[i], other), ends.Agree(l[i], other), ends.Show(l[i])}
	}
	var first []told
	for i := range l {
		first = append(first, tell(i))
	}
	for i := len(l) - 1; i >= 0; i-- {
		if tell(i) != first[i] {
			t.Error("an earlier call changed the results for", l[i])
		}
	}
}

func TestP202Right(t *testing.T) {
	for _, e := range valid() {
		if !ends.Right(e) {
			t.Error(e, "is not right")
		}
	}
	for _, e := range invalid() {
		if ends.Right(e) {
			t.Error(e, "is right")
		}
	}
}

func TestP202Same(t *testing.T) {
	for _, a := range valid() {
		for _, b := range valid() {
			want := a.Kind == b.Kind && a.N == b.N && letters(a.Out) == letters(b.Out)
			if ends.Same(a, b) != want {
				t.Fatal("Same of", a, b, "is not", want)
			}
		}
	}
}

func TestP202SameOfInvalidEnds(t *testing.T) {
	for i, a := range invalid() {
		b := a
		b.Steps, b.Out = 17, slices.Clone(a.Out)
		if !ends.Same(a, b) {
			t.Error(i, a, "is not the same with other steps")
		}
		c, d, f := a, a, a
		c.Kind, d.N = a.Kind^1, a.N^1
		f.Out = append(slices.Clone(a.Out), 3)
		for _, x := range []api.End{c, d, f} {
			if ends.Same(a, x) || ends.Same(x, a) {
				t.Error(i, a, "is the same as", x)
			}
		}
	}
	if !ends.Same(api.End{}, api.End{Out: []int{}}) {
		t.Error("nil and empty outputs are not the same")
	}
}

func TestP202Agree(t *testing.T) {
	end := func(kind api.EndKind, out ...int) api.End { return api.End{Kind: kind, Out: out} }
	raise := func(n int, out ...int) api.End { return api.End{Kind: api.EndRaise, N: n, Out: out} }
	for _, x := range []struct {
		a, b api.End
		want bool
	}{
		{end(api.EndDone), end(api.EndDone), true},
		{end(api.EndDone, 1, -2), end(api.EndDone, 1, -2), true},
		{end(api.EndDone, 1), end(api.EndDone, 1, -2), false},
		{end(api.EndDone, 1), end(api.EndDone, 2), false},
		{end(api.EndDone), raise(0), false},
		{raise(0, 1), raise(0, 1), true},
		{raise(0, 1), raise(1, 1), false},
		{raise(2), raise(2, 1), false},
		{end(api.EndFuel), end(api.EndDone, 1), true},
		{end(api.EndFuel, 1), end(api.EndDone, 1), true},
		{end(api.EndFuel, 1, 2), end(api.EndDone, 1), false},
		{end(api.EndHeap, 1), raise(3, 1, 2), true},
		{end(api.EndHeap, 2), raise(3, 1, 2), false},
		{end(api.EndStack, 1), end(api.EndFuel, 1, 2), true},
		{end(api.EndStack, 1, 2), end(api.EndFuel, 1), true},
		{end(api.EndStack, 1, 3), end(api.EndFuel, 1, 2), false},
		{end(api.EndStack, 1, 3), end(api.EndHeap, 2), false},
		{end(api.EndHeap, 5), end(api.EndHeap, 5, 6), true},
		{end(api.EndStuck, 1), end(api.EndStuck, 1), true},
		{end(api.EndStuck, 1), end(api.EndStuck, 1, 2), false},
		{end(api.EndStuck), end(api.EndDone), false},
		{end(api.EndStuck), raise(0), false},
		{end(api.EndStuck), end(api.EndFuel), false},
		{end(api.EndStuck, 1), end(api.EndHeap), false},
		{end(api.EndStuck, 1), end(api.EndStack, 1), false},
	} {
		if ends.Agree(x.a, x.b) != x.want || ends.Agree(x.b, x.a) != x.want {
			t.Error("Agree of", x.a, x.b, "is not", x.want)
		}
	}
}

func TestP202AgreeDoesNotCountSteps(t *testing.T) {
	for _, e := range valid() {
		other := e
		other.Steps, other.Out = e.Steps/2+9, slices.Clone(e.Out)
		if !ends.Agree(e, other) || !ends.Same(e, other) {
			t.Error(e, "and", other, "do not agree, or are not the same")
		}
	}
}

func TestP202AgreeOfInvalidEnds(t *testing.T) {
	for _, a := range invalid() {
		for _, b := range []api.End{a, {Kind: a.Kind, N: a.N, Out: a.Out}, {Kind: api.EndFuel}, {Kind: api.EndStack, Out: []int{1}}, {Kind: api.EndDone}} {
			if ends.Agree(a, b) || ends.Agree(b, a) {
				t.Error(a, "and", b, "agree")
			}
		}
	}
}

func TestP202Show(t *testing.T) {
	for _, x := range []struct {
		e    api.End
		want string
	}{
		{api.End{Kind: api.EndRaise, N: 2, Out: []int{7, 8}}, "raise 2: 7 8"},
		{api.End{Kind: api.EndDone}, "done"},
		{api.End{Kind: api.EndDone, Out: []int{}, Steps: 5}, "done"},
		{api.End{Kind: api.EndRaise}, "raise 0"},
		{api.End{Kind: api.EndRaise, N: math.MaxInt}, "raise 9223372036854775807"},
		{api.End{Kind: api.EndFuel}, "fuel"},
		{api.End{Kind: api.EndStuck}, "stuck"},
		{api.End{Kind: api.EndHeap}, "heap"},
		{api.End{Kind: api.EndStack}, "stack"},
		{api.End{Kind: api.EndDone, Out: []int{-3}}, "done: -3"},
		{api.End{Kind: api.EndRaise, N: 1, Out: []int{0}}, "raise 1: 0"},
		{api.End{Kind: api.EndFuel, Out: []int{num.Least, num.Most}}, "fuel: -1073741824 1073741823"},
		{api.End{Kind: api.EndStuck, Out: []int{1, 2, 3}}, "stuck: 1 2 3"},
		{api.End{Kind: api.EndHeap, Out: []int{10, -10}}, "heap: 10 -10"},
		{api.End{Kind: api.EndStack, Out: slices.Repeat([]int{7}, 1000)}, "stack:" + strings.Repeat(" 7", 1000)},
	} {
		if s := ends.Show(x.e); s != x.want {
			t.Error(x.e, "is shown as", s, "and not as", x.want)
		}
	}
	for _, e := range invalid() {
		if s := ends.Show(e); s != "" {
			t.Error(e, "is shown as", s)
		}
	}
}

func TestP203Agreement(t *testing.T) {
	complete := func(e api.End) bool { return e.Kind == api.EndDone || e.Kind == api.EndRaise }
	for _, a := range valid() {
		if !ends.Agree(a, a) {
			t.Error(a, "does not agree with itself")
		}
		for _, b := range valid() {
			if ends.Agree(a, b) != ends.Agree(b, a) {
				t.Fatal("agreement of", a, b, "is not symmetric")
			}
			if complete(a) && complete(b) && ends.Agree(a, b) != ends.Same(a, b) {
				t.Fatal("agreement of", a, b, "is not sameness")
			}
		}
	}
}

func TestP204TruncatedRuns(t *testing.T) {
	for _, a := range valid() {
		if !cutOff(a) {
			continue
		}
		for _, b := range valid() {
			want := b.Kind != api.EndStuck && strings.HasPrefix(letters(b.Out), letters(a.Out))
			if cutOff(b) && strings.HasPrefix(letters(a.Out), letters(b.Out)) {
				want = true
			}
			if ends.Agree(a, b) != want {
				t.Fatal("Agree of", a, b, "is not", want)
			}
		}
	}
}
