package tests

import (
	"math"
	"slices"
	"strconv"
	"strings"
	"testing"

	"loop.example/g03002/impl"
)

// Promise 5: exactly valid resources have a text.

func resource(kind int, body []int, to impl.Address) impl.Resource {
	return impl.Resource{Kind: kind, Body: body, To: to}
}

func page(body ...int) impl.Resource {
	return resource(impl.RsPage, body, impl.Address{})
}

func data(body ...int) impl.Resource {
	return resource(impl.RsData, body, impl.Address{})
}

func moveTo(to impl.Address) impl.Resource {
	return resource(impl.RsMove, nil, to)
}

func nothing() impl.Resource {
	return resource(impl.RsNone, nil, impl.Address{})
}

type namedResource struct {
	name string
	r    impl.Resource
}

type textOfResource struct {
	r    impl.Resource
	text string
}

// validResources are resources with the texts that the document gives them.
func validResources() []textOfResource {
	return []textOfResource{
		{page(), "page"},
		{page([]int{}...), "page"},
		{resource(impl.RsPage, []int{}, impl.Address{}), "page"},
		{page(0), "page 0"},
		{page(255), "page 255"},
		{page(4, 255), "page 4 255"},
		{page(0, 1, 2, 3, 4, 255), "page 0 1 2 3 4 255"},
		{page(255, 1, 2, 3, 4, 0), "page 255 1 2 3 4 0"},
		{page(0, 0, 0, 0, 0, 0), "page 0 0 0 0 0 0"},
		{page(255, 255, 255, 255, 255, 255), "page 255 255 255 255 255 255"},
		{page(10, 100, 9), "page 10 100 9"},
		{data(), "data"},
		{resource(impl.RsData, []int{}, impl.Address{}), "data"},
		{data(7), "data 7"},
		{data(0, 255), "data 0 255"},
		{data(255, 0), "data 255 0"},
		{data(6, 5, 4, 3, 2, 1), "data 6 5 4 3 2 1"},
		{moveTo(address(1, 2, 3)), "move 1/2?3"},
		{moveTo(address(1, 2, 0)), "move 1/2"},
		{moveTo(address(1, 0, 0)), "move 1/0"},
		{moveTo(address(9, 99, 99)), "move 9/99?99"},
		{resource(impl.RsMove, []int{}, address(4, 5, 6)), "move 4/5?6"},
		{nothing(), "none"},
		{resource(impl.RsNone, []int{}, impl.Address{}), "none"},
	}
}

// strayKinds are kinds that no resource has.
var strayKinds = []int{0, 5, 6, -1, -2, -3, -4, -5, 7, 100, 1 << 32, 1<<32 + 1, 256 + 1, math.MinInt, math.MaxInt}

// invalidResources are resources that break a rule, and most of them just one.
func invalidResources() []namedResource {
	list := []namedResource{{"the zero resource", impl.Resource{}}}
	for _, kind := range strayKinds {
		name := "kind " + strconv.Itoa(kind)
		list = append(list,
			namedResource{name, resource(kind, nil, impl.Address{})},
			namedResource{name + " with a body", resource(kind, []int{1}, impl.Address{})},
			namedResource{name + " with an address", resource(kind, nil, address(1, 2, 3))},
			namedResource{name + " with both", resource(kind, []int{1}, address(1, 2, 3))})
	}
	for _, kind := range []int{impl.RsPage, impl.RsData} {
		list = append(list, invalidContents(kind)...)
	}
	list = append(list, invalidMoves()...)
	for _, body := range [][]int{{0}, {1}, {255}, {1, 2}, make([]int, 6), make([]int, 7), {-1}, {256}} {
		list = append(list, namedResource{"nothing with a body", resource(impl.RsNone, body, impl.Address{})})
	}
	for _, to := range addressesThatAreNotZero() {
		list = append(list, namedResource{"nothing with an address", resource(impl.RsNone, nil, to)})
	}
	return list
}

// addressesThatAreNotZero are valid and invalid, and most of them differ from zero in one part only.
func addressesThatAreNotZero() []impl.Address {
	return []impl.Address{
		address(1, 0, 0), address(0, 1, 0), address(0, 0, 1), address(9, 0, 0), address(0, 99, 0), address(0, 0, 99), address(1, 2, 3), address(10, 0, 0), address(-1, 0, 0), address(0, -1, 0), address(0, 0, -1),
		address(0, 100, 0), address(0, 0, 100), address(math.MinInt, 0, 0), address(0, math.MaxInt, 0), address(0, 0, math.MinInt), address(1<<32, 0, 0), address(0, 1<<32, 0), address(0, 0, 1<<32), address(1, -1, 0), address(0, 1, -1),
	}
}

// invalidContents are pages or data that are not valid.
func invalidContents(kind int) []namedResource {
	list := []namedResource{}
	for _, n := range []int{-1, 256, 257, -255, 1000, 1 << 32, 256 * 256, math.MinInt, math.MaxInt} {
		for _, body := range [][]int{{n}, {n, 1}, {1, n}, {1, n, 1}, {n, 1, 2, 3, 4, 5}, {0, 1, 2, 3, 4, n}, {0, 1, 2, n, 4, 5}, {255, n}} {
			list = append(list, namedResource{"content with the number " + strconv.Itoa(n), resource(kind, body, impl.Address{})})
		}
	}
	for _, length := range []int{7, 8, 20, 1000} {
		list = append(list, namedResource{"content of length " + strconv.Itoa(length), resource(kind, make([]int, length), impl.Address{})})
	}
	list = append(list, namedResource{"content of seven numbers", resource(kind, []int{1, 2, 3, 4, 5, 6, 7}, impl.Address{})})
	for _, to := range addressesThatAreNotZero() {
		list = append(list,
			namedResource{"content with an address", resource(kind, nil, to)},
			namedResource{"content with a body and an address", resource(kind, []int{1, 2}, to)})
	}
	return list
}

func invalidMoves() []namedResource {
	list := []namedResource{}
	for _, to := range invalidAddresses {
		list = append(list, namedResource{"move to no address", resource(impl.RsMove, nil, to)})
	}
	for _, body := range [][]int{{0}, {1}, {255}, {1, 2}, make([]int, 6), make([]int, 7), {-1}, {256}} {
		list = append(list, namedResource{"move with a body", resource(impl.RsMove, body, address(1, 2, 3))})
	}
	return append(list, namedResource{"move with a body and no address", resource(impl.RsMove, []int{1}, impl.Address{})})
}

// mixedResources are all combinations of some kinds, bodies and addresses, each of them once.
func mixedResources() []impl.Resource {
	list := []impl.Resource{}
	for _, kind := range []int{-1, 0, 1, 2, 3, 4, 5} {
		for _, body := range [][]int{nil, {0}, {1}, {255}, {-1}, {256}, {0, 0}, {1, 0}, {0, 1}, {0, 1, 2, 3, 4, 5}, {0, 1, 2, 3, 4, 255}, {0, 1, 2, 3, 4, 256}, {-1, 1, 2, 3, 4, 5}, {0, 1, 2, 3, 4, 5, 6}} {
			for _, to := range []impl.Address{{}, address(1, 0, 0), address(1, 2, 3), address(1, 2, 0), address(0, 1, 0), address(0, 0, 1), address(2, 2, 3), address(10, 1, 1), address(1, -1, 0)} {
				list = append(list, resource(kind, body, to))
			}
		}
	}
	return list
}

// wantedText returns the text of a resource by the words of the document.
func wantedText(r impl.Resource) string {
	words := map[int]string{1: "page", 2: "data", 3: "move", 4: "none"}
	text, isKind := words[r.Kind]
	bodyIsWrong := len(r.Body) > 6 || r.Kind > 2 && len(r.Body) > 0
	if !isKind || bodyIsWrong || impl.IsAddress(r.To) != (r.Kind == 3) || r.Kind != 3 && r.To != (impl.Address{}) {
		return ""
	}
	for _, n := range r.Body {
		if n < 0 || n > 255 {
			return ""
		}
		text += " " + strconv.Itoa(n)
	}
	if r.Kind == 3 {
		text += " " + impl.AddressText(r.To)
	}
	return text
}

func TestConstantsOfResources(t *testing.T) {
	if impl.RsPage != 1 || impl.RsData != 2 || impl.RsMove != 3 || impl.RsNone != 4 || impl.MaxBody != 6 {
		t.Error("the constants of chapter 5 are not those of the document")
	}
}

func TestIsResource(t *testing.T) {
	for _, c := range validResources() {
		if !impl.IsResource(c.r) {
			t.Errorf("IsResource(%v) = false", c.r)
		}
	}
}

func TestIsResourceRejects(t *testing.T) {
	for _, c := range invalidResources() {
		if impl.IsResource(c.r) {
			t.Errorf("%s: IsResource(%v) = true", c.name, c.r)
		}
	}
}

func TestIsResourceTakesEveryByte(t *testing.T) {
	for n := -300; n <= 600; n++ {
		for _, kind := range []int{impl.RsPage, impl.RsData} {
			want := n >= 0 && n <= 255
			if impl.IsResource(resource(kind, []int{n}, impl.Address{})) != want || impl.IsResource(resource(kind, []int{5, 5, 5, 5, 5, n}, impl.Address{})) != want {
				t.Errorf("IsResource of kind %d with the number %d is not %v", kind, n, want)
			}
		}
	}
}

func TestIsResourceTakesBodiesUpToTheLimit(t *testing.T) {
	for length := range 12 {
		for kind := 1; kind <= 4; kind++ {
			r := resource(kind, slices.Repeat([]int{9}, length), impl.Address{})
			if kind == impl.RsMove {
				r.To = address(1, 2, 3)
			}
			want := length == 0 || kind <= impl.RsData && length <= 6
			if got := impl.IsResource(r); got != want {
				t.Errorf("IsResource(%v) = %v", r, got)
			}
		}
	}
}

func TestMovesLeadToEveryValidAddress(t *testing.T) {
	for text, to := range addressTexts() {
		if got := impl.ResourceText(moveTo(to)); got != "move "+text || !impl.IsResource(moveTo(to)) {
			t.Errorf("ResourceText of a move to %v = %q", to, got)
		}
	}
}

func TestResourceText(t *testing.T) {
	for _, c := range validResources() {
		if got := impl.ResourceText(c.r); got != c.text {
			t.Errorf("ResourceText(%v) = %q, want %q", c.r, got, c.text)
		}
	}
}

func TestResourceTextRejects(t *testing.T) {
	for _, c := range invalidResources() {
		if got := impl.ResourceText(c.r); got != "" {
			t.Errorf("%s: ResourceText(%v) = %q", c.name, c.r, got)
		}
	}
}

func TestExactlyValidResourcesHaveAText(t *testing.T) {
	for _, r := range mixedResources() {
		want := wantedText(r)
		if got := impl.ResourceText(r); got != want {
			t.Errorf("ResourceText(%v) = %q, want %q", r, got, want)
		}
		if got := impl.IsResource(r); got != (want != "") {
			t.Errorf("IsResource(%v) = %v", r, got)
		}
	}
}

func TestValidResourcesHaveDifferentTexts(t *testing.T) {
	texts := map[string]impl.Resource{}
	for _, r := range mixedResources() {
		text := impl.ResourceText(r)
		if other, isKnown := texts[text]; isKnown && text != "" {
			t.Errorf("%v and %v have the text %q", r, other, text)
		}
		texts[text] = r
	}
}

func TestResourceInts(t *testing.T) {
	cases := []struct {
		r    impl.Resource
		want []int
	}{
		{page(), []int{1, 0, 0, 0, 0}},
		{resource(impl.RsPage, []int{}, impl.Address{}), []int{1, 0, 0, 0, 0}},
		{page(7, 8), []int{1, 0, 0, 0, 2, 7, 8}},
		{page(1, 2, 3, 4, 5, 6), []int{1, 0, 0, 0, 6, 1, 2, 3, 4, 5, 6}},
		{data(), []int{2, 0, 0, 0, 0}},
		{data(255), []int{2, 0, 0, 0, 1, 255}},
		{moveTo(address(1, 2, 3)), []int{3, 1, 2, 3, 0}},
		{moveTo(address(9, 99, 0)), []int{3, 9, 99, 0, 0}},
		{nothing(), []int{4, 0, 0, 0, 0}},
		{impl.Resource{}, []int{0, 0, 0, 0, 0}},
		{resource(-5, []int{-1, 256}, address(-1, 100, -2)), []int{-5, -1, 100, -2, 2, -1, 256}},
		{resource(3, []int{9}, address(1, 2, 3)), []int{3, 1, 2, 3, 1, 9}},
		{resource(1, []int{1, 2, 3, 4, 5, 6, 7}, impl.Address{}), []int{1, 0, 0, 0, 7, 1, 2, 3, 4, 5, 6, 7}},
		{resource(math.MinInt, []int{math.MaxInt}, address(math.MaxInt, math.MinInt, 1<<40)), []int{math.MinInt, math.MaxInt, math.MinInt, 1 << 40, 1, math.MaxInt}},
	}
	for _, c := range cases {
		if got := impl.ResourceInts(c.r); !slices.Equal(got, c.want) {
			t.Errorf("ResourceInts(%v) = %v, want %v", c.r, got, c.want)
		}
	}
}

func TestResourceIntsOfLongBodies(t *testing.T) {
	for _, length := range []int{8, 100, 5000} {
		body := make([]int, length)
		for i := range body {
			body[i] = i - 7
		}
		got := impl.ResourceInts(resource(2, body, address(1, 2, 3)))
		if !slices.Equal(got, append([]int{2, 1, 2, 3, length}, body...)) {
			t.Errorf("ResourceInts of a body of length %d is not all of it", length)
		}
	}
}

func TestEqualResources(t *testing.T) {
	full := resource(1, []int{1, 2, 3}, address(4, 5, 6))
	cases := []struct {
		name string
		a    impl.Resource
		b    impl.Resource
		want bool
	}{
		{"the same", full, resource(1, []int{1, 2, 3}, address(4, 5, 6)), true},
		{"zero", impl.Resource{}, impl.Resource{}, true},
		{"nil and empty", impl.Resource{}, resource(0, []int{}, impl.Address{}), true},
		{"nil and empty of a page", page(), resource(1, []int{}, impl.Address{}), true},
		{"another kind", full, resource(2, []int{1, 2, 3}, address(4, 5, 6)), false},
		{"another kind alone", page(), data(), false},
		{"kinds that are none", resource(5, nil, impl.Address{}), resource(-5, nil, impl.Address{}), false},
		{"another host", full, resource(1, []int{1, 2, 3}, address(7, 5, 6)), false},
		{"another path", full, resource(1, []int{1, 2, 3}, address(4, 7, 6)), false},
		{"another query", full, resource(1, []int{1, 2, 3}, address(4, 5, 7)), false},
		{"no query", moveTo(address(1, 2, 3)), moveTo(address(1, 2, 0)), false},
		{"parts in another order", moveTo(address(1, 2, 3)), moveTo(address(1, 3, 2)), false},
		{"a longer body", full, resource(1, []int{1, 2, 3, 0}, address(4, 5, 6)), false},
		{"a shorter body", full, resource(1, []int{1, 2}, address(4, 5, 6)), false},
		{"no body", full, resource(1, nil, address(4, 5, 6)), false},
		{"a body of zeros and none", page(0), page(), false},
		{"bodies of zeros", page(0, 0), page(0), false},
		{"another first number", full, resource(1, []int{9, 2, 3}, address(4, 5, 6)), false},
		{"another last number", full, resource(1, []int{1, 2, 9}, address(4, 5, 6)), false},
		{"numbers in another order", page(1, 2), page(2, 1), false},
		{"a body and an address", page(1), resource(1, nil, address(1, 0, 0)), false},
		{"numbers alike in their low bits", page(1), page(257), false},
		{"kinds alike in their low bits", page(), resource(1<<32+1, nil, impl.Address{}), false},
	}
	for _, c := range cases {
		if impl.EqualResources(c.a, c.b) != c.want || impl.EqualResources(c.b, c.a) != c.want {
			t.Errorf("%s: EqualResources(%v, %v) is not %v", c.name, c.a, c.b, c.want)
		}
	}
}

func TestEqualResourcesOfAnyResources(t *testing.T) {
	resources := mixedResources()
	for i, a := range resources {
		for k, b := range resources {
			b.Body = slices.Clone(b.Body)
			if impl.EqualResources(a, b) != (i == k) {
				t.Errorf("EqualResources(%v, %v) = %v", a, b, i != k)
			}
		}
	}
}

func TestEqualResourcesFindsADifferenceInAnyPlaceOfABody(t *testing.T) {
	for length := 1; length <= 20; length++ {
		for at := range length {
			a, b := make([]int, length), make([]int, length)
			b[at] = 1
			if impl.EqualResources(page(a...), page(b...)) {
				t.Errorf("bodies of length %d that differ at %d are equal", length, at)
			}
		}
	}
}

func TestSizeOf(t *testing.T) {
	cases := []struct {
		r    impl.Resource
		want int
	}{
		{page(), 1},
		{resource(impl.RsPage, []int{}, impl.Address{}), 1},
		{page(9), 2},
		{page(0, 0, 0, 0, 0, 0), 7},
		{data(1, 2, 3), 4},
		{data(), 1},
		{moveTo(address(9, 99, 99)), 1},
		{nothing(), 1},
		{impl.Resource{}, 1},
		{resource(5, []int{1, 2}, address(1, 2, 3)), 3},
		{page(1, 2, 3, 4, 5, 6, 7), 8},
		{page(-1, 256), 3},
		{resource(impl.RsMove, []int{1}, impl.Address{}), 2},
		{resource(impl.RsNone, make([]int, 1000), impl.Address{}), 1001},
		{resource(-1, nil, impl.Address{}), 1},
	}
	for _, c := range cases {
		if got := impl.SizeOf(c.r); got != c.want {
			t.Errorf("SizeOf(%v) = %d, want %d", c.r, got, c.want)
		}
	}
}

func TestResourcesLeaveTheirArguments(t *testing.T) {
	for _, body := range [][]int{{}, {1}, {1, 2, 3}, {1, 2, 3, 4, 5, 6}, {1, 2, 3, 4, 5, 6, 7}, {-1, 256}} {
		for kind := range 6 {
			values, whole := roomyInts(body)
			was := slices.Clone(whole)
			r := resource(kind, values, address(1, 2, 3))
			impl.IsResource(r)
			impl.ResourceInts(r)
			impl.EqualResources(r, r)
			impl.ResourceText(r)
			impl.SizeOf(r)
			impl.ResourceText(resource(kind, values, impl.Address{}))
			if !slices.Equal(whole, was) {
				t.Errorf("the body %v of kind %d was changed: %v", body, kind, whole)
			}
		}
	}
}

func TestResourceIntsHasItsOwnMemory(t *testing.T) {
	for _, body := range [][]int{nil, {}, {1}, {1, 2, 3, 4, 5, 6}, {1, 2, 3, 4, 5, 6, 7}} {
		values, whole := roomyInts(body)
		was := slices.Clone(whole)
		r := resource(impl.RsPage, values, impl.Address{})
		first, second := impl.ResourceInts(r), impl.ResourceInts(r)
		want := slices.Clone(second)
		// What a caller writes into a result, or behind it, shows nowhere else.
		for i := range first {
			first[i] = -99
		}
		_ = append(first, -99, -99)
		if !slices.Equal(whole, was) || !slices.Equal(second, want) {
			t.Errorf("the numbers of %v share memory with the body or with another result", body)
		}
	}
}

func TestTextsOfResourcesStayWhenTheBodyChanges(t *testing.T) {
	body := []int{1, 2, 3}
	text, numbers := impl.ResourceText(page(body...)), impl.ResourceInts(resource(impl.RsPage, body, impl.Address{}))
	clear(body)
	if text != strings.Join([]string{"page", "1", "2", "3"}, " ") || !slices.Equal(numbers, []int{1, 0, 0, 0, 3, 1, 2, 3}) {
		t.Errorf("text %q and numbers %v changed with the body", text, numbers)
	}
}
