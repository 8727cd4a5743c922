package impl

import "strconv"

const MaxValue = 1000000000000

// A numeral is what a text is found to be when it is read as a number.
type numeral interface {
	// spelling returns the text by which the numeral is written.
	spelling() string
}

// A number is a text that names an int, in whatever spelling.
type number int

func (n number) spelling() string {
	return FormatInt(int(n))
}

// A word is a text that names no int.
type word string

func (w word) spelling() string {
	return string(w)
}

func readNumeral(s string) numeral {
	n, err := strconv.Atoi(s)
	if err != nil {
		return word(s)
	}
	return number(n)
}

func FormatInt(n int) string {
	return strconv.Itoa(n)
}

func ParseInt(s string) (int, bool) {
	read := readNumeral(s)
	// A plus sign and leading zeros are read, but FormatInt never writes them.
	if read.spelling() != s {
		return 0, false
	}
	switch kind := read.(type) {
	case number:
		return carried(int(kind))
	default:
		return 0, false
	}
}

func carried(n int) (int, bool) {
	if !InRange(n, 0, MaxValue) {
		return 0, false
	}
	return n, true
}

// extreme returns the one of its numbers that stands before all others.
func extreme(before func(a int, b int) bool, first int, others ...int) int {
	best := first
	for _, n := range others {
		if before(n, best) {
			best = n
		}
	}
	return best
}

func isLess(a int, b int) bool {
	return a < b
}

func isGreater(a int, b int) bool {
	return a > b
}

func Min(a int, b int) int {
	return extreme(isLess, a, b)
}

func Max(a int, b int) int {
	return extreme(isGreater, a, b)
}

func CeilDiv(a int, b int) int {
	if !InRange(a, 0, MaxValue) || !InRange(b, 1, MaxValue) {
		return 0
	}
	return (a + b - 1) / b
}

func Mod(p int, q int) int {
	if !InRange(q, 1, MaxValue) {
		return 0
	}
	// Go's remainder has the sign of p.
	remainder := p % q
	if remainder < 0 {
		return remainder + q
	}
	return remainder
}

func InRange(n int, low int, high int) bool {
	return low <= n && n <= high
}
