// Package num is layer 1: see shared/doc/01-num.md.
package num

import (
	"math"
	"strconv"

	"camlet/api"
)

// Most is the greatest int, Least the least one.
const (
	Most  = 1<<30 - 1
	Least = -1 << 30
)

// Wrap: a number brought into 31 bits.
func Wrap(n int) int { return Unbox(uint32(n) << 1) }

// Do: what a primitive from PrAdd to PrLe makes of two ints.
func Do(p api.Prim, a, b int) (int, api.Errno) {
	if p < api.PrAdd || p > api.PrLe {
		return 0, api.ErrPrim
	}
	a, b = Wrap(a), Wrap(b)
	if b == 0 && (p == api.PrDiv || p == api.PrMod) {
		return 0, api.ErrRange
	}
	return Wrap(operations()[p](a, b)), api.OK
}

// operations: the functions of the primitives, whose operands are ints and whose results need not be.
// The literals hold no variables, so that the array costs no memory on the heap at each call of Do.
func operations() [api.PrLe + 1]func(a, b int) int {
	return [api.PrLe + 1]func(a, b int) int{
		api.PrAdd: func(a, b int) int { return a + b },
		api.PrSub: func(a, b int) int { return a - b },
		api.PrMul: func(a, b int) int { return a * b },
		api.PrDiv: func(a, b int) int { return a / b },
		api.PrMod: func(a, b int) int { return a % b },
		api.PrEq:  func(a, b int) int { return truth(a == b) },
		api.PrNe:  func(a, b int) int { return truth(a != b) },
		api.PrLt:  func(a, b int) int { return truth(a < b) },
		api.PrLe:  func(a, b int) int { return truth(a <= b) },
	}
}

func truth(b bool) int {
	if b {
		return 1
	}
	return 0
}

// Show: a number's digits.
func Show(n int) string { return strconv.Itoa(n) }

// Read: the number of digits.
func Read(s string, most int) (int, api.Errno) {
	// The form counts before the range, so all of the text is looked at before a digit's worth is.
	if !areDigits(s) {
		return 0, api.ErrForm
	}
	n := 0
	for i := range len(s) {
		digit := int(s[i] - '0')
		if n > (math.MaxInt-digit)/10 {
			return 0, api.ErrRange
		}
		n = 10*n + digit
	}
	if n > most {
		return 0, api.ErrRange
	}
	return n, api.OK
}

// areDigits: is a text what Show makes of a number that is not negative?
func areDigits(s string) bool {
	for i := range len(s) {
		if s[i] < '0' || s[i] > '9' {
			return false
		}
	}
	return s == "0" || s != "" && s[0] != '0'
}

// Box: an int as a word.
func Box(n int) uint32 { return uint32(n)<<1 | 1 }

// Unbox: the int of a word.
func Unbox(w uint32) int { return int(int32(w) >> 1) }

// IsInt: is a word an int's?
func IsInt(w uint32) bool { return w&1 == 1 }
