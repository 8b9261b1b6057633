package num_test

import (
	"math"
	"math/big"
	"strings"
	"testing"

	"camlet/api"
	"camlet/num"
)

// samples: numbers at and beside the bounds of ints, of words and of 64 bits, and some far from them.
func samples() []int {
	var l []int
	for _, n := range []int{0, 7, 1 << 15, 1 << 16, 1 << 29, 1 << 30, 1 << 31, 3 << 30, 1 << 32, 1 << 62, math.MinInt, 12345678987654321} {
		for d := -2; d <= 2; d++ {
			l = append(l, n+d, -n+d)
		}
	}
	n := 1
	for range 30 {
		n = n*6364136223846793005 + 1442695040888963407
		l = append(l, n, n>>20, n>>33, n>>50)
	}
	return l
}

// wrapped: what P102 says, over integers without bounds.
func wrapped(n *big.Int) int {
	m := new(big.Int).Mod(n, big.NewInt(1<<31)).Int64()
	if m >= 1<<30 {
		m -= 1 << 31
	}
	return int(m)
}

func TestP101NoCallPanics(t *testing.T) {
	for p := api.Prim(-3); p < 20; p++ {
		for _, a := range samples() {
			for _, b := range []int{0, 1, -1, math.MinInt, math.MaxInt, num.Least, num.Most, 1 << 31} {
				if n, e := num.Do(p, a, b); e != api.OK && n != 0 {
					t.Fatal("a result beside an error", p, a, b, n, e)
				}
			}
		}
	}
	for _, s := range []string{"", "-", "+", "\x00", "\xff", "9\xff", strings.Repeat("0", 1000)} {
		for _, most := range []int{math.MinInt, -1, 0, math.MaxInt} {
			if n, e := num.Read(s, most); n != 0 || e != api.ErrForm {
				t.Error("Read", s, most, n, e)
			}
		}
	}
}

func TestP101CallsArePure(t *testing.T) {
	tell := func(n int) [8]int {
		sum, e := num.Do(api.PrAdd, n, 5)
		none, f := num.Do(api.PrDiv, n, 0)
		read, g := num.Read(num.Show(n), math.MaxInt)
		return [8]int{num.Wrap(n), sum, int(e), none, int(f), read, int(g), int(num.Box(n))}
	}
	l := samples()
	first := map[int][8]int{}
	for _, n := range l {
		first[n] = tell(n)
	}
	for i := len(l) - 1; i >= 0; i-- {
		if tell(l[i]) != first[l[i]] {
			t.Error("an earlier call changed the results for", l[i])
		}
	}
}

func TestP102Wrap(t *testing.T) {
	if num.Most != 1073741823 || num.Least != -1073741824 {
		t.Error("bounds", num.Most, num.Least)
	}
	for _, x := range [][2]int{
		{0, 0}, {-1, -1}, {num.Most, num.Most}, {num.Least, num.Least},
		{1 << 30, num.Least}, {-1<<30 - 1, num.Most}, {1<<31 - 1, -1}, {1 << 31, 0}, {1<<32 + 9, 9},
		{math.MaxInt, -1}, {math.MinInt, 0}, {math.MinInt + 1<<30, num.Least},
	} {
		if n := num.Wrap(x[0]); n != x[1] {
			t.Error(x[0], "wraps to", n, "and not to", x[1])
		}
	}
	for _, n := range samples() {
		if want := wrapped(big.NewInt(int64(n))); num.Wrap(n) != want {
			t.Error(n, "wraps to", num.Wrap(n), "and not to", want)
		}
	}
}

func TestP103Operations(t *testing.T) {
	for _, x := range []struct {
		p          api.Prim
		a, b, want int
	}{
		{api.PrAdd, 2, 3, 5}, {api.PrAdd, num.Most, 1, num.Least}, {api.PrAdd, num.Least, -1, num.Most},
		{api.PrSub, 2, 3, -1}, {api.PrSub, num.Least, 1, num.Most}, {api.PrSub, 0, num.Least, num.Least},
		{api.PrMul, -4, 6, -24}, {api.PrMul, 1 << 15, 1 << 15, num.Least}, {api.PrMul, num.Most, num.Most, 1}, {api.PrMul, num.Least, -1, num.Least},
		{api.PrDiv, 7, 2, 3}, {api.PrDiv, -7, 2, -3}, {api.PrDiv, 7, -2, -3}, {api.PrDiv, -7, -2, 3}, {api.PrDiv, num.Least, -1, num.Least}, {api.PrDiv, 0, 5, 0},
		{api.PrDiv, 1 << 30, 2, -1 << 29}, {api.PrDiv, 6, 1<<31 + 3, 2},
		{api.PrMod, 7, 2, 1}, {api.PrMod, -7, 2, -1}, {api.PrMod, 7, -2, 1}, {api.PrMod, -7, -2, -1}, {api.PrMod, num.Least, -1, 0}, {api.PrMod, 0, 5, 0},
		{api.PrMod, 1 << 30, 3, -1}, {api.PrMod, 7, 1<<31 + 3, 1},
		{api.PrEq, 4, 4, 1}, {api.PrEq, 4, 5, 0}, {api.PrEq, 1 << 31, 0, 1}, {api.PrEq, 0, 1 << 30, 0},
		{api.PrNe, 4, 4, 0}, {api.PrNe, 4, 5, 1}, {api.PrNe, -1, math.MaxInt, 0},
		{api.PrLt, -1, 0, 1}, {api.PrLt, 0, 0, 0}, {api.PrLt, 1, 0, 0}, {api.PrLt, 1 << 30, 0, 1}, {api.PrLt, num.Least, num.Most, 1},
		{api.PrLe, -1, 0, 1}, {api.PrLe, 0, 0, 1}, {api.PrLe, 1, 0, 0}, {api.PrLe, 0, 1 << 30, 0}, {api.PrLe, 1 << 31, 0, 1},
	} {
		if n, e := num.Do(x.p, x.a, x.b); n != x.want || e != api.OK {
			t.Error("Do", x.p, x.a, x.b, "is", n, e, "and not", x.want)
		}
	}
}

func TestP103OperationsOfManyInts(t *testing.T) {
	one := map[bool]int{true: 1}
	for _, a := range samples() {
		for _, b := range samples() {
			x, y := wrapped(big.NewInt(int64(a))), wrapped(big.NewInt(int64(b)))
			v, w := big.NewInt(int64(x)), big.NewInt(int64(y))
			want := map[api.Prim]int{
				api.PrAdd: wrapped(new(big.Int).Add(v, w)),
				api.PrSub: wrapped(new(big.Int).Sub(v, w)),
				api.PrMul: wrapped(new(big.Int).Mul(v, w)),
				api.PrEq:  one[x == y],
				api.PrNe:  one[x != y],
				api.PrLt:  one[x < y],
				api.PrLe:  one[x <= y],
			}
			if y != 0 {
				want[api.PrDiv] = wrapped(new(big.Int).Quo(v, w))
				want[api.PrMod] = wrapped(new(big.Int).Rem(v, w))
			}
			for p, n := range want {
				if got, e := num.Do(p, a, b); got != n || e != api.OK {
					t.Fatal("Do", p, a, b, "is", got, e, "and not", n)
				}
			}
		}
	}
}

func TestP103Errors(t *testing.T) {
	for _, p := range []api.Prim{0, -1, math.MinInt, api.PrLe + 1, api.PrRef, api.PrPrint, api.PrRaise, api.PrTry, 17, math.MaxInt} {
		for _, b := range []int{0, 1} {
			if n, e := num.Do(p, 3, b); n != 0 || e != api.ErrPrim {
				t.Error("Do", p, 3, b, "is", n, e)
			}
		}
	}
	for _, p := range []api.Prim{api.PrDiv, api.PrMod} {
		for _, b := range []int{0, 1 << 31, -1 << 31, math.MinInt} {
			for _, a := range []int{0, 1, num.Least} {
				if n, e := num.Do(p, a, b); n != 0 || e != api.ErrRange {
					t.Error("Do", p, a, b, "is", n, e)
				}
			}
		}
	}
	for _, p := range []api.Prim{api.PrAdd, api.PrSub, api.PrMul, api.PrEq, api.PrNe, api.PrLt, api.PrLe} {
		if _, e := num.Do(p, 1, 0); e != api.OK {
			t.Error("Do", p, 1, 0, "is the error", e)
		}
	}
}

func TestP104Show(t *testing.T) {
	for n, want := range map[int]string{
		0: "0", 7: "7", -7: "-7", 10: "10", 1000: "1000", num.Most: "1073741823", num.Least: "-1073741824", 1 << 32: "4294967296",
		math.MaxInt: "9223372036854775807", math.MinInt: "-9223372036854775808",
	} {
		if s := num.Show(n); s != want {
			t.Error(n, "is shown as", s)
		}
	}
}

func TestP104Read(t *testing.T) {
	for _, n := range []int{0, 1, 9, 10, 105, num.Most, 1 << 30, 1 << 40, math.MaxInt - 7, math.MaxInt} {
		s := num.Show(n)
		for _, most := range []int{n, math.MaxInt} {
			if got, e := num.Read(s, most); got != n || e != api.OK {
				t.Error("Read", s, most, "is", got, e)
			}
		}
		for _, most := range []int{n - 1, -1, math.MinInt} {
			if got, e := num.Read(s, most); got != 0 || e != api.ErrRange {
				t.Error("Read", s, most, "is", got, e)
			}
		}
	}
}

func TestP104ReadRejects(t *testing.T) {
	for _, s := range []string{
		"", "-", "-1", "-0", "+1", "~1", "00", "01", "007", " 1", "1 ", "1\n", "1_000", "1.0", "1e3", "0x1", "x", "1a", "a1", "1/", "1:", "/", ":", "\x00", "\u0663", "1\u0663", "99999999999999999999x",
		strings.Repeat("9", 5000) + "-", "0" + strings.Repeat("9", 5000),
	} {
		for _, most := range []int{math.MaxInt, 5, -1} {
			if n, e := num.Read(s, most); n != 0 || e != api.ErrForm {
				t.Error("Read", s, most, "is", n, e)
			}
		}
	}
	for _, s := range []string{"9223372036854775808", "9223372036854775810", "18446744073709551615", "18446744073709551616", "18446744073709551617", "36893488147419103232", "1" + strings.Repeat("0", 5000)} {
		for _, most := range []int{math.MaxInt, 5, -1} {
			if n, e := num.Read(s, most); n != 0 || e != api.ErrRange {
				t.Error("Read", s, most, "is", n, e)
			}
		}
	}
}

func TestP105Words(t *testing.T) {
	for n, want := range map[int]uint32{
		0: 1, 1: 3, 3: 7, -1: 1<<32 - 1, -2: 1<<32 - 3, num.Most: 1<<31 - 1, num.Least: 1<<31 + 1,
		1 << 30: 1<<31 + 1, 1 << 31: 1, math.MaxInt: 1<<32 - 1, math.MinInt: 1,
	} {
		if w := num.Box(n); w != want {
			t.Error(n, "is boxed as", w, "and not as", want)
		}
	}
	for w, want := range map[uint32]int{
		0: 0, 1: 0, 2: 1, 3: 1, 7: 3, 8: 4, 1<<31 - 1: num.Most, 1<<31 - 2: num.Most, 1 << 31: num.Least, 1<<31 + 1: num.Least, 1<<32 - 1: -1, 1<<32 - 2: -1,
	} {
		if n := num.Unbox(w); n != want {
			t.Error(w, "is unboxed as", n, "and not as", want)
		}
	}
	for _, w := range []uint32{0, 2, 8, 1 << 31, 1<<32 - 2} {
		if num.IsInt(w) || !num.IsInt(w+1) {
			t.Error("IsInt of", w, "or of the word after it")
		}
	}
}

func TestP106RoundTrip(t *testing.T) {
	for _, n := range samples() {
		if w := num.Box(n); num.Unbox(w) != num.Wrap(n) || !num.IsInt(w) {
			t.Error(n, "is boxed as", w, "and that is", num.Unbox(w))
		}
		if w := uint32(n) | 1; num.Box(num.Unbox(w)) != w {
			t.Error(w, "is unboxed as", num.Unbox(w), "and boxed as", num.Box(num.Unbox(w)))
		}
	}
}

func TestP107Ring(t *testing.T) {
	do := func(p api.Prim, a, b int) int {
		n, e := num.Do(p, a, b)
		if e != api.OK {
			t.Fatal("Do", p, a, b, "is the error", e)
		}
		return n
	}
	for _, a := range samples() {
		for _, b := range samples() {
			// Go's own operations lose multiples of 2^64 only, which are multiples of 2^31.
			for p, late := range map[api.Prim]int{api.PrAdd: num.Wrap(a + b), api.PrSub: num.Wrap(a - b), api.PrMul: num.Wrap(a * b)} {
				if soon := do(p, num.Wrap(a), num.Wrap(b)); soon != late || do(p, a, b) != late {
					t.Fatal("operation", p, "of", a, b, "is", soon, do(p, a, b), "and not", late)
				}
			}
			if num.Wrap(b) == 0 {
				continue
			}
			quotient, rest := do(api.PrDiv, a, b), do(api.PrMod, a, b)
			if do(api.PrAdd, do(api.PrMul, quotient, b), rest) != num.Wrap(a) {
				t.Fatal("the quotient", quotient, "and the remainder", rest, "do not make up", a, b)
			}
			if rest != 0 && (rest < 0) != (num.Wrap(a) < 0) {
				t.Fatal("the remainder", rest, "does not have the sign of", a)
			}
		}
	}
}
