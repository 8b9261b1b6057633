package pos_test

import (
	"math"
	"slices"
	"strings"
	"testing"

	"camlet/api"
	"camlet/pos"
)

// texts: strings with no, some and only bytes 10, at their ends too, and with bytes that one could take for them or for more or less than a byte.
func texts() []string {
	l := []string{
		"", "a", "ab\nc", "ab\n\nc", "\r", "\r\n", "a\r\nb\rc\n", "\x00\n\x00", "\t\n\t", "\v\f\u0085\u2028\u2029\n",
		"é\nλx\n€", "😀\n😀", "\xff\n\xfe\xff", "\xe2\x82\n\xac", "\u010a\n\u0a0a",
		strings.Repeat("x", 1000), strings.Repeat("\n", 1000), strings.Repeat("line\n", 300), strings.Repeat("\nline", 300),
	}
	for n := range 64 {
		var s strings.Builder
		for bit := range 6 {
			s.WriteByte("a\n"[n>>bit&1])
		}
		l = append(l, s.String())
	}
	return l
}

// expected: what P302 says of an offset in the range.
func expected(s string, at int) api.Spot {
	before := s[:at]
	return api.Spot{Line: 1 + strings.Count(before, "\n"), Col: at - strings.LastIndex(before, "\n")}
}

// strange: numbers that are no place, no line and no column of any of the texts.
func strange() []int {
	return []int{-1, -2, -1000, 5000, 1 << 16, 1 << 31, 1 << 32, 1<<32 + 1, 1 << 62, math.MaxInt - 1, math.MaxInt, math.MinInt, math.MinInt + 1}
}

func TestP301NoCallPanics(t *testing.T) {
	for _, s := range texts() {
		for _, n := range strange() {
			if p, is := pos.At(s, n); is || p != (api.Spot{}) {
				t.Error("At", n, "is", p, is)
			}
			for _, m := range append(strange(), 0, 1, 2) {
				for _, p := range []api.Spot{{Line: n, Col: m}, {Line: m, Col: n}} {
					if at, is := pos.Of(s, p); is || at != 0 {
						t.Error("Of", p, "is", at, is)
					}
					pos.Show(p)
				}
			}
		}
	}
}

func TestP301CallsArePure(t *testing.T) {
	type told struct {
		spot    api.Spot
		is, has bool
		at      int
		text    string
	}
	type asked struct {
		s  string
		at int
	}
	tell := func(a asked) told {
		var x told
		x.spot, x.is = pos.At(a.s, a.at)
		x.at, x.has = pos.Of(a.s, api.Spot{Line: a.at, Col: 2})
		x.text = pos.Show(api.Spot{Line: a.at, Col: len(a.s)})
		return x
	}
	var all []asked
	var first []told
	for _, s := range texts() {
		for at := -1; at < 12; at++ {
			all = append(all, asked{s, at})
			first = append(first, tell(asked{s, at}))
		}
	}
	for i, a := range slices.Backward(all) {
		if tell(a) != first[i] {
			t.Errorf("an earlier call changed the results for %q, %d", a.s, a.at)
		}
	}
}

func TestP302At(t *testing.T) {
	for _, x := range []struct {
		s         string
		at        int
		line, col int
	}{
		{"", 0, 1, 1},
		{"a", 0, 1, 1}, {"a", 1, 1, 2},
		{"\n", 0, 1, 1}, {"\n", 1, 2, 1},
		{"ab\nc", 0, 1, 1}, {"ab\nc", 1, 1, 2}, {"ab\nc", 2, 1, 3}, {"ab\nc", 3, 2, 1}, {"ab\nc", 4, 2, 2},
		{"\n\n\n", 2, 3, 1}, {"\n\n\n", 3, 4, 1},
		{"a\n", 1, 1, 2}, {"a\n", 2, 2, 1},
		{"a\r\nb", 1, 1, 2}, {"a\r\nb", 2, 1, 3}, {"a\r\nb", 3, 2, 1}, {"a\rb", 2, 1, 3},
		{"é\tx\nλ", 2, 1, 3}, {"é\tx\nλ", 3, 1, 4}, {"é\tx\nλ", 5, 2, 1}, {"é\tx\nλ", 6, 2, 2}, {"é\tx\nλ", 7, 2, 3},
		{"\xff\n\xff", 3, 2, 2},
		{strings.Repeat("ab\n", 100000), 299999, 100000, 3}, {strings.Repeat("ab\n", 100000), 300000, 100001, 1},
		{strings.Repeat("a", 100000), 100000, 1, 100001},
	} {
		if p, is := pos.At(x.s, x.at); !is || p != (api.Spot{Line: x.line, Col: x.col}) {
			t.Errorf("%d of %.20q is at %v, %v and not at %d:%d", x.at, x.s, p, is, x.line, x.col)
		}
	}
}

func TestP302AtOfEachOffset(t *testing.T) {
	for _, s := range texts() {
		for at := range len(s) + 1 {
			if p, is := pos.At(s, at); !is || p != expected(s, at) {
				t.Fatalf("%d of %q is at %v, %v and not at %v", at, s, p, is, expected(s, at))
			}
		}
	}
}

func TestP302AtRejects(t *testing.T) {
	for _, s := range texts() {
		for _, at := range append(strange(), len(s)+1, len(s)+2, -len(s)-1) {
			if p, is := pos.At(s, at); is || p != (api.Spot{}) {
				t.Errorf("%d of %q is at %v, %v", at, s, p, is)
			}
		}
	}
}

func TestP303Of(t *testing.T) {
	for _, x := range []struct {
		s             string
		line, col, at int
	}{
		{"", 1, 1, 0},
		{"ab\nc", 1, 1, 0}, {"ab\nc", 1, 2, 1}, {"ab\nc", 1, 3, 2}, {"ab\nc", 2, 1, 3}, {"ab\nc", 2, 2, 4},
		{"\n", 1, 1, 0}, {"\n", 2, 1, 1}, {"a\n\n", 3, 1, 3}, {"\r\nb", 1, 2, 1}, {"é\nλ", 1, 3, 2}, {"é\nλ", 2, 2, 4},
		{strings.Repeat("ab\n", 100000), 100000, 3, 299999}, {strings.Repeat("a", 100000), 1, 100001, 100000},
	} {
		if at, is := pos.Of(x.s, api.Spot{Line: x.line, Col: x.col}); !is || at != x.at {
			t.Errorf("%d:%d of %.20q is %d, %v and not %d", x.line, x.col, x.s, at, is, x.at)
		}
	}
}

func TestP303OfRejects(t *testing.T) {
	for _, x := range []struct {
		s         string
		line, col int
	}{
		{"", 0, 0}, {"", 1, 0}, {"", 0, 1}, {"", 1, 2}, {"", 2, 1},
		{"ab\nc", 1, 4}, {"ab\nc", 1, 5}, {"ab\nc", 2, 3}, {"ab\nc", 3, 1}, {"ab\nc", 2, 0}, {"ab\nc", 3, 0}, {"ab\nc", 0, 3}, {"ab\nc", 2, -1}, {"ab\nc", -1, 1}, {"ab\nc", -2, -2},
		{"\n", 1, 2}, {"\n", 2, 2}, {"\n", 3, 1}, {"a\r", 2, 1},
		{"ab\nc", 1, math.MaxInt}, {"ab\nc", 2, math.MaxInt}, {"ab\nc", 2, math.MaxInt - 1}, {"ab\nc", 2, math.MinInt}, {"ab\nc", math.MaxInt, 1}, {"ab\nc", math.MinInt, 1},
		{"ab\nc", 1<<32 + 1, 1}, {"ab\nc", 1, 1<<32 + 1},
	} {
		if at, is := pos.Of(x.s, api.Spot{Line: x.line, Col: x.col}); is || at != 0 {
			t.Errorf("%d:%d of %q is %d, %v", x.line, x.col, x.s, at, is)
		}
	}
}

func TestP303OfEachPosition(t *testing.T) {
	for _, s := range texts() {
		if len(s) > 100 {
			continue
		}
		places := map[api.Spot]int{}
		for at := range len(s) + 1 {
			places[expected(s, at)] = at
		}
		for line := -2; line < len(s)+4; line++ {
			for col := -2; col < len(s)+4; col++ {
				p := api.Spot{Line: line, Col: col}
				want, has := places[p]
				if at, is := pos.Of(s, p); is != has || at != want {
					t.Fatalf("%v of %q is %d, %v and not %d, %v", p, s, at, is, want, has)
				}
			}
		}
	}
}

func TestP303Show(t *testing.T) {
	for p, want := range map[api.Spot]string{
		{}:                                    "0:0",
		{Line: 1, Col: 1}:                     "1:1",
		{Line: 2, Col: 13}:                    "2:13",
		{Line: 13, Col: 2}:                    "13:2",
		{Line: -3, Col: 70}:                   "-3:70",
		{Line: 100, Col: -1}:                  "100:-1",
		{Line: -10, Col: -10}:                 "-10:-10",
		{Line: 1 << 31, Col: 1000}:            "2147483648:1000",
		{Line: math.MaxInt, Col: math.MinInt}: "9223372036854775807:-9223372036854775808",
		{Line: math.MinInt, Col: math.MaxInt}: "-9223372036854775808:9223372036854775807",
	} {
		if s := pos.Show(p); s != want {
			t.Error(p, "is shown as", s, "and not as", want)
		}
	}
}

func TestP304RoundTrip(t *testing.T) {
	for _, s := range texts() {
		for at := range len(s) + 1 {
			p, is := pos.At(s, at)
			if back, has := pos.Of(s, p); !is || !has || back != at {
				t.Fatalf("%d of %q is at %v, %v, and that is %d, %v", at, s, p, is, back, has)
			}
		}
		for line := range 8 {
			for col := range 8 {
				p := api.Spot{Line: line, Col: col}
				at, has := pos.Of(s, p)
				if back, is := pos.At(s, at); has && (!is || back != p) {
					t.Fatalf("%v of %q is %d, and that is at %v, %v", p, s, at, back, is)
				}
			}
		}
	}
}

func TestP304Order(t *testing.T) {
	for _, s := range texts() {
		last, _ := pos.At(s, 0)
		for at := 1; at <= len(s); at++ {
			p, _ := pos.At(s, at)
			if p.Line < last.Line || p.Line == last.Line && p.Col <= last.Col {
				t.Fatalf("%d of %q is at %v, which is not after %v", at, s, p, last)
			}
			last = p
		}
	}
}
