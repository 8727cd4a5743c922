package tests

import (
	"math"
	"slices"
	"strconv"
	"strings"
	"testing"

	"loop.example/g03002/impl"
)

// Promise 4: addresses are parsed from their text.

func address(host int, path int, query int) impl.Address {
	return impl.Address{Host: host, Path: path, Query: query}
}

// addressTexts returns the text of every valid address, written as the document says and not by the program.
func addressTexts() map[string]impl.Address {
	texts := map[string]impl.Address{}
	for host := 1; host <= 9; host++ {
		for path := range 100 {
			text := strconv.Itoa(host) + "/" + strconv.Itoa(path)
			texts[text] = address(host, path, 0)
			for query := 1; query <= 99; query++ {
				texts[text+"?"+strconv.Itoa(query)] = address(host, path, query)
			}
		}
	}
	return texts
}

// invalidAddresses are addresses with one part or more outside of its range.
var invalidAddresses = []impl.Address{
	{},
	address(0, 1, 1),
	address(0, 0, 1),
	address(0, 99, 99),
	address(10, 0, 0),
	address(10, 1, 1),
	address(11, 99, 99),
	address(-1, 0, 0),
	address(-1, 2, 3),
	address(-9, 5, 5),
	address(1, 100, 0),
	address(1, 100, 1),
	address(9, 100, 99),
	address(1, -1, 0),
	address(9, -99, 99),
	address(1, 0, 100),
	address(9, 99, 100),
	address(1, 0, -1),
	address(9, 99, -99),
	address(-1, -1, -1),
	address(10, 100, 100),
	address(math.MinInt, 0, 0),
	address(math.MaxInt, 0, 0),
	address(1, math.MinInt, 0),
	address(1, math.MaxInt, 0),
	address(1, 0, math.MinInt),
	address(1, 0, math.MaxInt),
	address(1<<32, 1<<32, 1<<32),
	address(1<<32+1, 0, 0),
	address(1, 1<<32, 0),
	address(1, 0, 1<<32+1),
}

// mixedAddresses are valid and invalid addresses, each of them once.
func mixedAddresses() []impl.Address {
	addresses := slices.Clone(invalidAddresses)
	for _, host := range []int{1, 2, 9} {
		for _, path := range []int{0, 1, 99} {
			for _, query := range []int{0, 1, 99} {
				addresses = append(addresses, address(host, path, query))
			}
		}
	}
	return addresses
}

func TestIsAddress(t *testing.T) {
	for _, a := range []impl.Address{address(1, 0, 0), address(1, 0, 1), address(1, 0, 99), address(1, 99, 0), address(1, 99, 99), address(5, 50, 50), address(9, 0, 0), address(9, 0, 99), address(9, 99, 0), address(9, 99, 99)} {
		if !impl.IsAddress(a) {
			t.Errorf("IsAddress(%v) = false", a)
		}
	}
}

func TestIsAddressRejects(t *testing.T) {
	for _, a := range invalidAddresses {
		if impl.IsAddress(a) {
			t.Errorf("IsAddress(%v) = true", a)
		}
	}
}

func TestIsAddressHoldsForExactlyTheRanges(t *testing.T) {
	for host := -2; host <= 12; host++ {
		for path := -2; path <= 102; path++ {
			for query := -2; query <= 102; query++ {
				a := address(host, path, query)
				want := host >= 1 && host <= 9 && path >= 0 && path <= 99 && query >= 0 && query <= 99
				if impl.IsAddress(a) != want {
					t.Errorf("IsAddress(%v) = %v", a, !want)
				}
				if (impl.AddressText(a) != "") != want {
					t.Errorf("AddressText(%v) = %q", a, impl.AddressText(a))
				}
			}
		}
	}
}

func TestAddressText(t *testing.T) {
	cases := []struct {
		a    impl.Address
		want string
	}{
		{address(1, 0, 0), "1/0"},
		{address(1, 0, 1), "1/0?1"},
		{address(1, 2, 3), "1/2?3"},
		{address(3, 2, 1), "3/2?1"},
		{address(2, 10, 0), "2/10"},
		{address(2, 10, 10), "2/10?10"},
		{address(7, 99, 0), "7/99"},
		{address(9, 0, 99), "9/0?99"},
		{address(9, 99, 99), "9/99?99"},
	}
	for _, c := range cases {
		if got := impl.AddressText(c.a); got != c.want {
			t.Errorf("AddressText(%v) = %q, want %q", c.a, got, c.want)
		}
	}
}

func TestAddressTextRejects(t *testing.T) {
	for _, a := range invalidAddresses {
		if got := impl.AddressText(a); got != "" {
			t.Errorf("AddressText(%v) = %q", a, got)
		}
	}
}

func TestEveryValidAddressIsParsedFromItsText(t *testing.T) {
	texts := addressTexts()
	if len(texts) != 90000 {
		t.Fatalf("%d texts", len(texts))
	}
	for text, want := range texts {
		if got := impl.AddressText(want); got != text {
			t.Errorf("AddressText(%v) = %q, want %q", want, got, text)
		}
		if got, ok := impl.ParseAddress(text); !ok || got != want {
			t.Errorf("ParseAddress(%q) = %v, %v, want %v", text, got, ok, want)
		}
	}
}

// wantNoAddress checks that s is not the text of an address.
func wantNoAddress(t *testing.T, s string) {
	t.Helper()
	if a, ok := impl.ParseAddress(s); ok || a != (impl.Address{}) {
		t.Errorf("ParseAddress(%q) = %v, %v", s, a, ok)
	}
}

func TestParseAddressRejects(t *testing.T) {
	cases := map[string][]string{
		"nothing, or a part alone":      {"", "0", "1", "9", "12", "123"},
		"a part that is missing":        {"/", "?", "1/", "/1", "1?2", "1/?2", "/1?2", "/?", "/?2", "1?", "1/?", "?1", "?/", "1?2/3", "1?/2", "//", "??"},
		"a query of 0":                  {"1/2?0", "1/0?0", "9/99?0", "1/2?00"},
		"a mark with nothing behind it": {"1/2?", "1/0?", "9/99?"},
		"more marks than there are":     {"1/2/3", "1//2", "/1/2", "1/2/", "1/2?3?4", "1/2??3", "1/2?3?", "1/2?3/4", "1/2/3?4", "1?2?3", "1/2?3/", "?1/2", "?1/2?3"},
		"other marks":                   {"1-2", "1:2", "1/2&3", "1/2#3", "1\\2", "1.2", "1/2=3", "1|2", "1 2 3"},
		"a part beyond its range":       {"0/1", "0/0", "0/1?1", "10/1", "11/0", "99/99", "1/100", "1/101?1", "1/2?100", "9/99?100", "1/999", "100/100?100"},
		"leading zeros":                 {"01/2", "00/2", "1/00", "1/02", "1/002", "1/2?03", "1/2?003", "01/02?03", "1/099", "1/9?099"},
		"signs":                         {"-1/2", "+1/2", "1/-2", "1/+2", "1/2?-3", "1/2?+3", "-1/-2?-3", "1/-0", "1/2?-0", "1/+0", "1-/2", "1/2-"},
		"spaces":                        {" 1/2", "1 /2", "1/ 2", "1/2 ", "1/2 ?3", "1/2? 3", "1/2?3 ", " ", "1/2\t", "1/2\n", "\n1/2", "1/2?3\r\n", "1/2?3\x00", "\x001/2"},
		"something behind an address":   {"1/2x", "1/2?3x", "1/2,1/3", "1/2?3 1/2", "1/2?3;", "1/2=", "1/2?3@4", "1/2?3?", "1/2?3/", "1/2\x00\x00"},
		"something before an address":   {"x1/2", "archive/1/2", "http://1/2", "/1/2?3"},
		"digits that are not decimal":   {"a/1", "1/a", "1/2?a", "0x1/2", "1/0x2", "1/2?0x3", "1e0/2", "1/1e1", "1_0/2", "1/1_0", "1/2?1_0", "1.0/2", "1/2.0", "1/2?b"},
		"digits that are no ASCII":      {"\u0661/2", "1/\u0662", "1/2?\u0663", "\uff11/\uff12", "1/\uff10", "1\uff0f2", "1/2\uff1f3", "1/2?\u00b3", "1/\u0967"},
		"bytes above 127":               {"\x80/2", "1\xff2", "1/\xff", "1/2?\xb1", "\xb1/\xb2", "1/2\x80", "1/2?3\xff", "1\xaf2", "1/2\xbf3", "\xff", "1/2\u00e9", "1/2\u00a03"},
		"numbers too great for an int":  {"9223372036854775808/1", "1/9223372036854775808", "1/2?9223372036854775808", "18446744073709551617/1", "1/18446744073709551616", "1/18446744073709551618", "1/2?18446744073709551619", "1/2?18446744073709551616", "36893488147419103233/0", "340282366920938463463374607431768211457/0", "-18446744073709551615/0", "4294967297/1", "1/4294967298", "257/1", "1/258", "1/2?259", "1000000000000/1", "1/1000000000001", "9223372036854775807/9223372036854775807?9223372036854775807"},
	}
	for name, texts := range cases {
		t.Run(name, func(t *testing.T) {
			for _, s := range texts {
				wantNoAddress(t, s)
			}
		})
	}
}

func TestParseAddressRejectsLongTexts(t *testing.T) {
	for _, piece := range []string{"1", "0", "/", "?", "1/", "1/2?3", " ", "\xff", "99"} {
		for _, times := range []int{20, 30000} {
			long := strings.Repeat(piece, times)
			for _, s := range []string{long, "1/" + long, "1/2?" + long, long + "/1", "1/2?3" + long, long + "1/2"} {
				if a, ok := impl.ParseAddress(s); ok || a != (impl.Address{}) {
					t.Errorf("ParseAddress takes %d times %q", times, piece)
				}
			}
		}
	}
}

func TestParseAddressTakesNothingButTexts(t *testing.T) {
	texts := addressTexts()
	round := []string{""}
	for range 6 {
		longer := []string{}
		for _, s := range round {
			for _, c := range []string{"0", "1", "9", "/", "?", "-"} {
				longer = append(longer, s+c)
			}
		}
		round = longer
		for _, s := range round {
			want, isText := texts[s]
			if got, ok := impl.ParseAddress(s); ok != isText || got != want {
				t.Errorf("ParseAddress(%q) = %v, %v, want %v, %v", s, got, ok, want, isText)
			}
		}
	}
}

func TestParseAddressWithOneByteChanged(t *testing.T) {
	texts := addressTexts()
	for _, text := range []string{"1/0", "1/2?3", "9/99", "9/99?99", "1/10?10"} {
		for at := range len(text) + 1 {
			for c := range 256 {
				changed := []string{text[:at] + string([]byte{byte(c)}) + text[at:]}
				if at < len(text) {
					changed = append(changed, text[:at]+string([]byte{byte(c)})+text[at+1:], text[:at]+text[at+1:])
				}
				for _, s := range changed {
					want, isText := texts[s]
					if got, ok := impl.ParseAddress(s); ok != isText || got != want {
						t.Errorf("ParseAddress(%q) = %v, %v, want %v, %v", s, got, ok, want, isText)
					}
				}
			}
		}
	}
}

func TestWithoutQuery(t *testing.T) {
	cases := []struct {
		a    impl.Address
		want impl.Address
	}{
		{address(1, 2, 3), address(1, 2, 0)},
		{address(3, 2, 1), address(3, 2, 0)},
		{address(9, 99, 99), address(9, 99, 0)},
		{address(1, 0, 0), address(1, 0, 0)},
		{address(1, 0, 1), address(1, 0, 0)},
	}
	for _, c := range cases {
		if got := impl.WithoutQuery(c.a); got != c.want {
			t.Errorf("WithoutQuery(%v) = %v, want %v", c.a, got, c.want)
		}
	}
}

func TestWithoutQueryOfInvalidAddresses(t *testing.T) {
	for _, a := range invalidAddresses {
		want := address(a.Host, a.Path, 0)
		if got := impl.WithoutQuery(a); got != want {
			t.Errorf("WithoutQuery(%v) = %v, want %v", a, got, want)
		}
	}
}

func TestDistanceOf(t *testing.T) {
	cases := []struct {
		a    impl.Address
		b    impl.Address
		want int
	}{
		{address(1, 2, 3), address(1, 2, 3), 0},
		{address(1, 0, 0), address(1, 0, 0), 0},
		{address(1, 2, 3), address(1, 2, 4), 1},
		{address(1, 2, 0), address(1, 2, 99), 1},
		{address(1, 2, 3), address(1, 3, 3), 2},
		{address(1, 2, 3), address(1, 3, 4), 2},
		{address(9, 0, 0), address(9, 99, 0), 2},
		{address(1, 2, 3), address(2, 2, 3), 3},
		{address(1, 2, 3), address(2, 3, 3), 3},
		{address(1, 2, 3), address(2, 2, 4), 3},
		{address(1, 2, 3), address(9, 98, 97), 3},
		{address(1, 2, 3), address(2, 1, 3), 3},
	}
	for _, c := range cases {
		if got := impl.DistanceOf(c.a, c.b); got != c.want {
			t.Errorf("DistanceOf(%v, %v) = %d, want %d", c.a, c.b, got, c.want)
		}
		if got := impl.DistanceOf(c.b, c.a); got != c.want {
			t.Errorf("DistanceOf(%v, %v) = %d, want %d", c.b, c.a, got, c.want)
		}
	}
}

func wantedDistance(a impl.Address, b impl.Address) int {
	switch {
	case a.Host != b.Host:
		return 3
	case a.Path != b.Path:
		return 2
	case a.Query != b.Query:
		return 1
	}
	return 0
}

func TestDistanceOfAnyAddresses(t *testing.T) {
	addresses := mixedAddresses()
	for i, a := range addresses {
		for k, b := range addresses {
			got := impl.DistanceOf(a, b)
			if got != wantedDistance(a, b) || (got == 0) != (i == k) {
				t.Errorf("DistanceOf(%v, %v) = %d", a, b, got)
			}
		}
	}
}

func TestBeforeAddress(t *testing.T) {
	inOrder := []impl.Address{
		address(1, 0, 0), address(1, 0, 1), address(1, 0, 99), address(1, 1, 0), address(1, 1, 1), address(1, 2, 0), address(1, 9, 99), address(1, 10, 0), address(1, 99, 0), address(1, 99, 99),
		address(2, 0, 0), address(2, 0, 2), address(2, 0, 10), address(2, 1, 0), address(2, 98, 99), address(8, 50, 50), address(9, 0, 0), address(9, 0, 99), address(9, 99, 0), address(9, 99, 99),
	}
	for i, a := range inOrder {
		for k, b := range inOrder {
			if got := impl.BeforeAddress(a, b); got != (i < k) {
				t.Errorf("BeforeAddress(%v, %v) = %v", a, b, got)
			}
		}
	}
}

func TestBeforeAddressOfInvalidAddresses(t *testing.T) {
	// The difference of the least and the greatest int wraps around, and their order does not.
	inOrder := []impl.Address{
		address(math.MinInt, 0, 0), address(-1, 5, 5), address(0, 0, 0), address(0, 0, 1), address(0, 100, -1), address(1, math.MinInt, math.MaxInt), address(1, -1, 0), address(1, 0, math.MinInt),
		address(1, 0, -1), address(1, 0, 0), address(1, 0, 100), address(1, 0, math.MaxInt), address(1, 100, 0), address(1, math.MaxInt, math.MinInt), address(10, 0, 0), address(math.MaxInt, math.MinInt, 0),
	}
	for i, a := range inOrder {
		for k, b := range inOrder {
			if got := impl.BeforeAddress(a, b); got != (i < k) {
				t.Errorf("BeforeAddress(%v, %v) = %v", a, b, got)
			}
		}
	}
}

func TestBeforeAddressOfAnyAddresses(t *testing.T) {
	addresses := mixedAddresses()
	for i, a := range addresses {
		for k, b := range addresses {
			want := slices.Compare([]int{a.Host, a.Path, a.Query}, []int{b.Host, b.Path, b.Query}) < 0
			if got := impl.BeforeAddress(a, b); got != want {
				t.Errorf("BeforeAddress(%v, %v) = %v", a, b, got)
			}
			if i != k && impl.BeforeAddress(a, b) == impl.BeforeAddress(b, a) {
				t.Errorf("%v and %v are in both orders or in none", a, b)
			}
		}
	}
}
