package tests

import (
	"math"
	"strconv"
	"strings"
	"testing"

	"loop.example/g03002/impl"
)

// Promise 1: integers are parsed from their decimal form.

func TestMaxValue(t *testing.T) {
	if impl.MaxValue != 1000000000000 {
		t.Errorf("MaxValue = %d", impl.MaxValue)
	}
}

func TestFormatInt(t *testing.T) {
	cases := []struct {
		n    int
		want string
	}{
		{0, "0"},
		{7, "7"},
		{10, "10"},
		{120, "120"},
		{-1, "-1"},
		{-3, "-3"},
		{-100, "-100"},
		{impl.MaxValue, "1000000000000"},
		{impl.MaxValue + 1, "1000000000001"},
		{-impl.MaxValue, "-1000000000000"},
		{math.MaxInt, "9223372036854775807"},
		{math.MinInt, "-9223372036854775808"},
	}
	for _, c := range cases {
		if got := impl.FormatInt(c.n); got != c.want {
			t.Errorf("FormatInt(%d) = %q, want %q", c.n, got, c.want)
		}
	}
}

func TestParseIntTakesDecimalForms(t *testing.T) {
	cases := []struct {
		s    string
		want int
	}{
		{"0", 0},
		{"1", 1},
		{"9", 9},
		{"10", 10},
		{"17", 17},
		{"100", 100},
		{"1020", 1020},
		{"2147483648", 2147483648},
		{"9999999999", 9999999999},
		{"999999999999", impl.MaxValue - 1},
		{"1000000000000", impl.MaxValue},
	}
	for _, c := range cases {
		if n, ok := impl.ParseInt(c.s); !ok || n != c.want {
			t.Errorf("ParseInt(%q) = %d, %v, want %d, true", c.s, n, ok, c.want)
		}
	}
}

func TestParseIntRejectsOtherTexts(t *testing.T) {
	groups := map[string][]string{
		"empty":        {""},
		"leading zero": {"00", "01", "017", "000", "0000000000001", "01000000000000"},
		"sign":         {"-0", "+0", "-1", "+1", "+17", "-17", "--1", "-", "+", "-01", "-1000000000000", "-9223372036854775808"},
		"word":         {"x", "1x", "x1", "1 7", "one", "0x1", "0b1", "0o7", "1e3", "1.0", "1.", ".5", "1,000", "1_000", "NaN", "Inf"},
		"blank":        {" ", " 1", "1 ", "\t1", "1\n", "\n", "\x00", "1\x00", "1\r"},
		"not ASCII":    {"\u0661", "\uff11", "1\u0661", "\u00b2", "\xff", "1\xff"},
		"too large": {
			"1000000000001", "2000000000000", "9999999999999", "10000000000000",
			"9223372036854775807", "9223372036854775808",
			"18446744073709551616", "18446744073709551617", "18446744073709551633",
			strings.Repeat("9", 400), "1" + strings.Repeat("0", 400), strings.Repeat("0", 400) + "1",
		},
		"beside digits": {"/", ":", "1/", "1:", "/1", ":1"},
	}
	for name, texts := range groups {
		for _, s := range texts {
			if n, ok := impl.ParseInt(s); ok || n != 0 {
				t.Errorf("%s: ParseInt(%q) = %d, %v, want 0, false", name, s, n, ok)
			}
		}
	}
}

// Every text of up to three of these bytes is parsed just if it is a decimal form.
func TestParseIntOfAllShortTexts(t *testing.T) {
	const letters = "0123456789+-x _."
	wanted := map[string]int{}
	for n := range 1000 {
		wanted[strconv.Itoa(n)] = n
	}
	texts := []string{""}
	for i := 0; i < len(texts); i++ {
		s := texts[i]
		want, isForm := wanted[s]
		if n, ok := impl.ParseInt(s); ok != isForm || n != want {
			t.Fatalf("ParseInt(%q) = %d, %v, want %d, %v", s, n, ok, want, isForm)
		}
		for j := 0; j < len(letters) && len(s) < 3; j++ {
			texts = append(texts, s+letters[j:j+1])
		}
	}
}

func TestParseIntInvertsFormatInt(t *testing.T) {
	check := func(n int) {
		want, wantOK := n, n >= 0 && n <= impl.MaxValue
		if !wantOK {
			want = 0
		}
		if got, ok := impl.ParseInt(impl.FormatInt(n)); got != want || ok != wantOK {
			t.Errorf("ParseInt(FormatInt(%d)) = %d, %v, want %d, %v", n, got, ok, want, wantOK)
		}
	}
	for n := -300; n <= 3000; n++ {
		check(n)
		check(impl.MaxValue - n)
		check(-impl.MaxValue + n)
	}
	for power := 1; power <= impl.MaxValue; power *= 10 {
		for d := -1; d <= 1; d++ {
			check(power + d)
			check(9*power + d)
			check(-power + d)
		}
	}
	check(math.MinInt)
	check(math.MinInt + 1)
	check(math.MaxInt)
	check(math.MaxInt - 1)
}

func TestMinAndMax(t *testing.T) {
	cases := []struct{ less, more int }{
		{0, 0},
		{5, 5},
		{-4, -4},
		{1, 2},
		{-1, 2},
		{-2, -1},
		{-1, 0},
		{0, 1},
		{impl.MaxValue, impl.MaxValue + 1},
		{math.MinInt, -1},
		{math.MinInt, 0},
		{math.MinInt, 1},
		{math.MinInt, math.MaxInt},
		{-1, math.MaxInt},
		{math.MaxInt - 1, math.MaxInt},
		{math.MinInt, math.MinInt + 1},
	}
	for _, c := range cases {
		for _, pair := range [][2]int{{c.less, c.more}, {c.more, c.less}} {
			if got := impl.Min(pair[0], pair[1]); got != c.less {
				t.Errorf("Min(%d, %d) = %d, want %d", pair[0], pair[1], got, c.less)
			}
			if got := impl.Max(pair[0], pair[1]); got != c.more {
				t.Errorf("Max(%d, %d) = %d, want %d", pair[0], pair[1], got, c.more)
			}
		}
	}
}

func TestCeilDiv(t *testing.T) {
	const most = impl.MaxValue
	cases := []struct{ a, b, want int }{
		{7, 3, 3},
		{6, 3, 2},
		{8, 3, 3},
		{9, 3, 3},
		{0, 1, 0},
		{0, 5, 0},
		{1, 1, 1},
		{1, 2, 1},
		{5, 1, 5},
		{0, most, 0},
		{1, most, 1},
		{most, 1, most},
		{most, 2, most / 2},
		{most, 3, 333333333334},
		{most, most - 1, 2},
		{most, most, 1},
		{most - 1, most, 1},
	}
	for _, c := range cases {
		if got := impl.CeilDiv(c.a, c.b); got != c.want {
			t.Errorf("CeilDiv(%d, %d) = %d, want %d", c.a, c.b, got, c.want)
		}
	}
}

func TestCeilDivFallsBack(t *testing.T) {
	const most = impl.MaxValue
	cases := [][2]int{
		{1, 0}, {0, 0}, {7, -1}, {7, -3}, {-7, -3}, {-1, 1}, {-1, 2}, {-6, 3}, {-1, 0},
		{most + 1, 1}, {most + 1, 2}, {most + 1, most}, {2, most + 1}, {most, most + 1}, {most + 1, most + 1},
		{math.MaxInt, 1}, {math.MaxInt, 3}, {math.MinInt, 1}, {math.MinInt, -1}, {math.MinInt, math.MinInt},
		{1, math.MaxInt}, {7, math.MinInt}, {math.MaxInt, math.MaxInt}, {1, math.MinInt},
	}
	for _, c := range cases {
		if got := impl.CeilDiv(c[0], c[1]); got != 0 {
			t.Errorf("CeilDiv(%d, %d) = %d, want 0", c[0], c[1], got)
		}
	}
}

func TestCeilDivIsTheLeastThatCovers(t *testing.T) {
	for a := range 200 {
		for b := 1; b <= 40; b++ {
			q := impl.CeilDiv(a, b)
			if q*b < a || (q-1)*b >= a {
				t.Errorf("CeilDiv(%d, %d) = %d", a, b, q)
			}
		}
	}
}

func TestMod(t *testing.T) {
	const most = impl.MaxValue
	cases := []struct{ p, q, want int }{
		{-1, 7, 6},
		{-7, 7, 0},
		{-8, 7, 6},
		{-15, 7, 6},
		{0, 7, 0},
		{6, 7, 6},
		{7, 7, 0},
		{15, 7, 1},
		{5, 1, 0},
		{-5, 1, 0},
		{math.MinInt, 1, 0},
		{math.MaxInt, 1, 0},
		{math.MinInt, 2, 0},
		{math.MinInt + 1, 2, 1},
		{math.MaxInt, 2, 1},
		{math.MinInt, 10, 2},
		{math.MaxInt, 10, 7},
		{-1, most, most - 1},
		{most, most, 0},
		{most + 1, most, 1},
		{-most, most, 0},
		{most - 1, most, most - 1},
		{math.MaxInt, most, 36854775807},
		{math.MinInt, most, 963145224192},
	}
	for _, c := range cases {
		if got := impl.Mod(c.p, c.q); got != c.want {
			t.Errorf("Mod(%d, %d) = %d, want %d", c.p, c.q, got, c.want)
		}
	}
}

func TestModFallsBack(t *testing.T) {
	ps := []int{-8, -1, 0, 1, 3, 8, impl.MaxValue, math.MinInt, math.MaxInt}
	qs := []int{0, -1, -7, impl.MaxValue + 1, -impl.MaxValue, math.MinInt, math.MaxInt}
	for _, p := range ps {
		for _, q := range qs {
			if got := impl.Mod(p, q); got != 0 {
				t.Errorf("Mod(%d, %d) = %d, want 0", p, q, got)
			}
		}
	}
}

func TestModRunsThroughTheRemainders(t *testing.T) {
	for q := 1; q <= 12; q++ {
		want := 0
		for p := -10 * q; p <= 10*q; p++ {
			if got := impl.Mod(p, q); got != want {
				t.Errorf("Mod(%d, %d) = %d, want %d", p, q, got, want)
			}
			want++
			if want == q {
				want = 0
			}
		}
	}
}

func TestInRange(t *testing.T) {
	cases := []struct {
		n, low, high int
		want         bool
	}{
		{2, 2, 3, true},
		{3, 2, 3, true},
		{1, 2, 3, false},
		{4, 2, 3, false},
		{5, 5, 5, true},
		{4, 5, 5, false},
		{6, 5, 5, false},
		{0, -1, 1, true},
		{-1, -1, 1, true},
		{-2, -1, 1, false},
		{2, 3, 1, false},
		{3, 3, 1, false},
		{1, 3, 1, false},
		{0, math.MinInt, math.MaxInt, true},
		{math.MinInt, math.MinInt, math.MaxInt, true},
		{math.MaxInt, math.MinInt, math.MaxInt, true},
		{math.MinInt, 0, math.MaxInt, false},
		{math.MaxInt, math.MinInt, 0, false},
		{0, math.MaxInt, math.MinInt, false},
	}
	for _, c := range cases {
		if got := impl.InRange(c.n, c.low, c.high); got != c.want {
			t.Errorf("InRange(%d, %d, %d) = %v, want %v", c.n, c.low, c.high, got, c.want)
		}
	}
}
