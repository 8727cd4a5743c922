package tests

import (
	"cmp"
	"math"
	"slices"
	"strconv"
	"testing"

	"loop.example/g03002/impl"
)

// Promise 7: equal resources are stored once.

// part returns the part that a store has of a resource.
func part(r impl.Resource, uses int) impl.Part {
	return impl.Part{Digest: impl.DigestOf(r), Resource: r, Uses: uses}
}

func parts(l ...impl.Part) []impl.Part {
	return l
}

// dataParts returns a store of n parts, each with the uses. The digests of data with one number grow with this number.
func dataParts(n int, uses int) []impl.Part {
	l := []impl.Part{}
	for i := range n {
		l = append(l, part(data(i), uses))
	}
	return l
}

// twins are two pages with one digest, found by a search.
func twins() (impl.Resource, impl.Resource) {
	return page(93, 74, 107, 217), page(5, 223, 238, 78)
}

type namedParts struct {
	name string
	l    []impl.Part
}

// changedPart returns a store of three parts of which the one at the index is changed.
func changedPart(at int, change func(p *impl.Part)) []impl.Part {
	l := dataParts(3, 5)
	change(&l[at])
	return l
}

func validStores() []namedParts {
	first, second := twins()
	mixed := parts(part(page(), 1), part(page(4), 2), part(data(7, 8), 3), part(moveTo(address(1, 2, 3)), 4), part(nothing(), 5), part(data(), 1000))
	slices.SortFunc(mixed, byDigest)
	list := []namedParts{
		{"nil", nil},
		{"empty", parts()},
		{"one page", parts(part(page(1, 2, 3, 4, 5, 6), 1))},
		{"one move", parts(part(moveTo(address(9, 99, 99)), 1))},
		{"one that is nothing", parts(part(nothing(), 1))},
		{"one with the body empty", parts(part(resource(impl.RsPage, []int{}, impl.Address{}), 1))},
		{"two", dataParts(2, 1)},
		{"29", dataParts(29, 1)},
		{"30", dataParts(30, 1)},
		{"30 of 1000 uses", dataParts(30, 1000)},
		{"all kinds", mixed},
		{"a twin", parts(part(first, 1))},
		{"the other twin", parts(part(second, 1))},
	}
	for _, uses := range []int{1, 2, 999, 1000} {
		list = append(list, namedParts{"uses of " + strconv.Itoa(uses), parts(part(page(4), uses))})
	}
	return list
}

// invalidStores are lists that break a rule, and most of them just one.
func invalidStores() []namedParts {
	first, second := twins()
	list := []namedParts{
		{"the zero part", parts(impl.Part{})},
		{"31 parts", dataParts(31, 1)},
		{"32 parts", dataParts(32, 1)},
		{"250 parts", dataParts(250, 1)},
		{"two parts in the other order", parts(part(data(2), 1), part(data(1), 1))},
		{"the first two of three in the other order", parts(part(data(2), 1), part(data(1), 1), part(data(3), 1))},
		{"the last two of three in the other order", parts(part(data(1), 1), part(data(3), 1), part(data(2), 1))},
		{"a part twice", parts(part(data(1), 1), part(data(1), 1))},
		{"a part twice with other uses", parts(part(data(1), 1), part(data(1), 2))},
		{"a part twice behind another", parts(part(data(1), 1), part(data(2), 1), part(data(2), 1))},
		{"twins", parts(part(first, 1), part(second, 1))},
		{"a part away from its equal", parts(part(data(1), 1), part(data(2), 1), part(data(1), 1))},
		{"only a wrong digest", parts(impl.Part{Digest: 5, Resource: page(4), Uses: 1})},
	}
	for at := range 3 {
		place := " at " + strconv.Itoa(at)
		for _, uses := range []int{0, -1, -2, -1000, 1001, 1002, 2000, 1 << 32, 1<<32 + 1, math.MinInt, math.MaxInt} {
			l := changedPart(at, func(p *impl.Part) { p.Uses = uses })
			list = append(list, namedParts{"uses of " + strconv.Itoa(uses) + place, l})
		}
		for _, shift := range []int{-1, 1, impl.Modulus, -impl.Modulus, 1 << 32} {
			l := changedPart(at, func(p *impl.Part) { p.Digest += shift })
			list = append(list, namedParts{"a digest moved by " + strconv.Itoa(shift) + place, l})
		}
		list = append(list,
			namedParts{"another resource" + place, changedPart(at, func(p *impl.Part) { p.Resource = page(4) })},
			namedParts{"the zero resource" + place, changedPart(at, func(p *impl.Part) { p.Resource = impl.Resource{} })})
	}
	for _, c := range invalidResources() {
		list = append(list, namedParts{c.name, parts(part(c.r, 1))})
	}
	// A kind and a number that are beyond their ranges by the modulus leave the digest as it is.
	for _, r := range []impl.Resource{resource(impl.RsData+impl.Modulus, []int{1}, impl.Address{}), data(1 + impl.Modulus), data(1 - impl.Modulus)} {
		list = append(list, namedParts{"not valid with a digest that is", changedPart(1, func(p *impl.Part) { p.Resource = r })})
	}
	return list
}

func byDigest(a impl.Part, b impl.Part) int {
	return cmp.Compare(a.Digest, b.Digest)
}

func sameResource(a impl.Resource, b impl.Resource) bool {
	return a.Kind == b.Kind && a.To == b.To && slices.Equal(a.Body, b.Body)
}

func samePart(a impl.Part, b impl.Part) bool {
	return a.Digest == b.Digest && a.Uses == b.Uses && sameResource(a.Resource, b.Resource)
}

func sameParts(a []impl.Part, b []impl.Part) bool {
	return slices.EqualFunc(a, b, samePart)
}

// clonedParts returns a copy that shares no memory with l.
func clonedParts(l []impl.Part) []impl.Part {
	clone := slices.Clone(l)
	for i := range clone {
		clone[i].Resource.Body = slices.Clone(clone[i].Resource.Body)
	}
	return clone
}

// isWantedStore tells by the words of the document whether a list is a store.
func isWantedStore(l []impl.Part) bool {
	for i, p := range l {
		isSound := impl.IsResource(p.Resource) && p.Digest == impl.DigestOf(p.Resource) && p.Uses >= 1 && p.Uses <= 1000
		if !isSound || i > 0 && l[i-1].Digest >= p.Digest {
			return false
		}
	}
	return len(l) <= 30
}

// indexOf returns the index of the first part with a digest, or -1.
func indexOf(l []impl.Part, digest int) int {
	return slices.IndexFunc(l, func(p impl.Part) bool { return p.Digest == digest })
}

// wantedPut returns what PutPart returns, by the words of the document.
func wantedPut(l []impl.Part, r impl.Resource) ([]impl.Part, bool) {
	result := clonedParts(l)
	at := indexOf(result, impl.DigestOf(r))
	if at >= 0 {
		result[at].Uses++
	} else {
		result = append(result, part(r, 1))
		slices.SortStableFunc(result, byDigest)
	}
	if !isWantedStore(l) || !isWantedStore(result) {
		return l, false
	}
	return result, true
}

// wantedTake returns what TakePart returns, by the words of the document.
func wantedTake(l []impl.Part, digest int) ([]impl.Part, bool) {
	at := indexOf(l, digest)
	if !isWantedStore(l) || at < 0 {
		return l, false
	}
	result := clonedParts(l)
	result[at].Uses--
	if result[at].Uses == 0 {
		return slices.Delete(result, at, at+1), true
	}
	return result, true
}

func wantPut(t *testing.T, name string, l []impl.Part, r impl.Resource, want []impl.Part, wantOK bool) {
	t.Helper()
	if got, ok := impl.PutPart(l, r); ok != wantOK || !sameParts(got, want) {
		t.Errorf("%s: PutPart(%v, %v) = %v, %v, want %v, %v", name, l, r, got, ok, want, wantOK)
	}
}

func wantTake(t *testing.T, name string, l []impl.Part, digest int, want []impl.Part, wantOK bool) {
	t.Helper()
	if got, ok := impl.TakePart(l, digest); ok != wantOK || !sameParts(got, want) {
		t.Errorf("%s: TakePart(%v, %d) = %v, %v, want %v, %v", name, l, digest, got, ok, want, wantOK)
	}
}

// someResources are valid and invalid resources, also twins, and such that have the digest of a valid one.
func someResources() []impl.Resource {
	first, second := twins()
	return []impl.Resource{
		page(), page(4), data(0), data(1), data(2), data(29), data(30), data(31), data(7, 8), moveTo(address(1, 2, 3)), nothing(), first, second,
		{}, page(256), page(-1), page(1, 2, 3, 4, 5, 6, 7), moveTo(impl.Address{}), resource(impl.RsNone, []int{1}, impl.Address{}), resource(5, nil, impl.Address{}),
		data(1 + impl.Modulus), resource(impl.RsPage+impl.Modulus, []int{4}, impl.Address{}),
	}
}

func allStores() []namedParts {
	return append(validStores(), invalidStores()...)
}

func TestConstantsOfStores(t *testing.T) {
	if impl.MaxParts != 30 {
		t.Error("MaxParts is not the one of the document")
	}
}

func TestTwinsHaveOneDigest(t *testing.T) {
	first, second := twins()
	if impl.DigestOf(first) != impl.DigestOf(second) || sameResource(first, second) || !impl.IsResource(first) || !impl.IsResource(second) {
		t.Error("the twins are not two valid resources with one digest")
	}
}

func TestIsStore(t *testing.T) {
	for _, c := range validStores() {
		if !impl.IsStore(c.l) {
			t.Errorf("%s: IsStore(%v) = false", c.name, c.l)
		}
	}
}

func TestIsStoreRejects(t *testing.T) {
	for _, c := range invalidStores() {
		if impl.IsStore(c.l) {
			t.Errorf("%s: IsStore(%v) = true", c.name, c.l)
		}
	}
}

func TestIsStoreTakesPartsUpToTheLimit(t *testing.T) {
	for n := range 70 {
		if got := impl.IsStore(dataParts(n, 1)); got != (n <= 30) {
			t.Errorf("IsStore of %d parts = %v", n, got)
		}
	}
}

func TestIsStoreTakesUsesInTheirRange(t *testing.T) {
	for uses := -1100; uses <= 1100; uses++ {
		if got := impl.IsStore(dataParts(3, uses)); got != (uses >= 1 && uses <= 1000) {
			t.Errorf("IsStore of parts with %d uses = %v", uses, got)
		}
	}
}

func TestPutPart(t *testing.T) {
	ahead, behind := page(4), data(9)
	cases := []struct {
		name string
		l    []impl.Part
		r    impl.Resource
		want []impl.Part
	}{
		{"into nil", nil, page(4), parts(part(page(4), 1))},
		{"into an empty store", parts(), page(4), parts(part(page(4), 1))},
		{"a move into an empty store", parts(), moveTo(address(1, 2, 3)), parts(part(moveTo(address(1, 2, 3)), 1))},
		{"nothing into an empty store", nil, nothing(), parts(part(nothing(), 1))},
		{"an empty body", nil, page(), parts(part(page(), 1))},
		{"ahead of all", parts(part(data(1), 3), part(data(3), 4)), ahead, parts(part(ahead, 1), part(data(1), 3), part(data(3), 4))},
		{"between two", parts(part(data(1), 3), part(data(3), 4)), data(2), parts(part(data(1), 3), part(data(2), 1), part(data(3), 4))},
		{"behind all", parts(part(data(1), 3), part(data(3), 4)), behind, parts(part(data(1), 3), part(data(3), 4), part(behind, 1))},
		{"the first again", parts(part(data(1), 3), part(data(3), 4)), data(1), parts(part(data(1), 4), part(data(3), 4))},
		{"the last again", parts(part(data(1), 3), part(data(3), 4)), data(3), parts(part(data(1), 3), part(data(3), 5))},
		{"the middle again", parts(part(data(1), 3), part(data(2), 1), part(data(3), 4)), data(2), parts(part(data(1), 3), part(data(2), 2), part(data(3), 4))},
		{"at 999 uses", parts(part(page(4), 999)), page(4), parts(part(page(4), 1000))},
		{"the 30th part", dataParts(29, 7), data(29), append(dataParts(29, 7), part(data(29), 1))},
		{"the 30th part ahead", dataParts(29, 7), ahead, append(parts(part(ahead, 1)), dataParts(29, 7)...)},
	}
	for _, c := range cases {
		wantPut(t, c.name, c.l, c.r, c.want, true)
	}
}

func TestPutPartAgainInAFullStore(t *testing.T) {
	for i := range 30 {
		want := dataParts(30, 8)
		want[i].Uses = 9
		wantPut(t, "again", dataParts(30, 8), data(i), want, true)
	}
}

func TestPutPartRejects(t *testing.T) {
	cases := []struct {
		name string
		l    []impl.Part
		r    impl.Resource
	}{
		{"at 1000 uses", parts(part(page(4), 1000)), page(4)},
		{"at 1000 uses among others", parts(part(data(1), 1), part(data(2), 1000), part(data(3), 1)), data(2)},
		{"the 31st part behind all", dataParts(30, 7), data(30)},
		{"the 31st part ahead of all", dataParts(30, 7), page(4)},
		{"the 31st part between two", append(dataParts(29, 7), part(data(30), 1)), data(29)},
	}
	for _, c := range cases {
		wantPut(t, c.name, c.l, c.r, c.l, false)
	}
}

func TestPutPartRejectsResources(t *testing.T) {
	for _, c := range invalidResources() {
		for _, l := range [][]impl.Part{nil, parts(), parts(part(page(4), 1)), dataParts(2, 2), dataParts(29, 1), dataParts(30, 1)} {
			// Kinds and numbers beyond the modulus can give the digest of a part, which is another case.
			if indexOf(l, impl.DigestOf(c.r)) < 0 {
				wantPut(t, c.name, l, c.r, l, false)
			}
		}
	}
}

func TestPutPartRejectsLists(t *testing.T) {
	for _, c := range invalidStores() {
		for _, r := range append(someResources(), c.l[0].Resource) {
			wantPut(t, c.name, c.l, r, c.l, false)
		}
	}
}

func TestPutPartOfATwin(t *testing.T) {
	first, second := twins()
	for _, uses := range []int{1, 2, 999} {
		wantPut(t, "the same", parts(part(first, uses)), first, parts(part(first, uses+1)), true)
		wantPut(t, "a twin", parts(part(first, uses)), second, parts(part(first, uses+1)), true)
		wantPut(t, "the other twin", parts(part(second, uses)), first, parts(part(second, uses+1)), true)
	}
	wantPut(t, "at 1000 uses", parts(part(first, 1000)), second, parts(part(first, 1000)), false)
}

// What is put is not asked to be valid, only the list and the result are.
func TestPutPartOfAnInvalidTwin(t *testing.T) {
	l := parts(part(data(1), 3), part(data(2), 4))
	for _, r := range []impl.Resource{data(2 + impl.Modulus), data(2 - impl.Modulus), resource(impl.RsData-impl.Modulus, []int{2}, impl.Address{})} {
		wantPut(t, "an invalid twin", l, r, parts(part(data(1), 3), part(data(2), 5)), true)
		wantPut(t, "an invalid twin of nothing", l[:1], r, l[:1], false)
		wantPut(t, "an invalid twin at 1000 uses", parts(part(data(2), 1000)), r, parts(part(data(2), 1000)), false)
	}
}

func TestPutPartOfAnyResources(t *testing.T) {
	for _, c := range allStores() {
		for _, r := range someResources() {
			want, wantOK := wantedPut(c.l, r)
			wantPut(t, c.name, c.l, r, want, wantOK)
		}
	}
}

func TestEqualResourcesAreStoredOnce(t *testing.T) {
	valid := []impl.Resource{}
	for _, c := range validResources() {
		valid = append(valid, c.r)
	}
	counts := map[string]int{}
	l := []impl.Part{}
	for round := range 5 {
		for i, r := range valid {
			if i%(round+1) != 0 {
				continue
			}
			got, ok := impl.PutPart(l, resource(r.Kind, append([]int{}, r.Body...), r.To))
			if !ok || !impl.IsStore(got) {
				t.Fatalf("PutPart(%v, %v) = %v, %v", l, r, got, ok)
			}
			l = got
			counts[impl.ResourceText(r)]++
		}
	}
	if len(l) != len(counts) {
		t.Errorf("%d different resources are stored in %d parts", len(counts), len(l))
	}
	for _, p := range l {
		if want := counts[impl.ResourceText(p.Resource)]; p.Uses != want {
			t.Errorf("%v was put %d times, and its uses are %d", p.Resource, want, p.Uses)
		}
	}
}

func TestGetPart(t *testing.T) {
	first, second := twins()
	digest := impl.DigestOf(first)
	invalid := resource(9, []int{-1, 256, 1, 2, 3, 4, 5}, address(-1, 100, 7))
	cases := []struct {
		name   string
		l      []impl.Part
		digest int
		want   impl.Resource
		wantOK bool
	}{
		{"nil", nil, 0, impl.Resource{}, false},
		{"empty", parts(), digest, impl.Resource{}, false},
		{"the only part", parts(part(page(4), 1)), impl.DigestOf(page(4)), page(4), true},
		{"a move", parts(part(moveTo(address(1, 2, 3)), 1)), impl.DigestOf(moveTo(address(1, 2, 3))), moveTo(address(1, 2, 3)), true},
		{"the next digest", parts(part(page(4), 1)), impl.DigestOf(page(4)) + 1, impl.Resource{}, false},
		{"the digest before", parts(part(page(4), 1)), impl.DigestOf(page(4)) - 1, impl.Resource{}, false},
		{"a digest beyond the modulus", parts(part(page(4), 1)), impl.DigestOf(page(4)) + impl.Modulus, impl.Resource{}, false},
		{"the uses", parts(part(page(4), 7)), 7, impl.Resource{}, false},
		{"the first of three", dataParts(3, 1), impl.DigestOf(data(0)), data(0), true},
		{"the middle of three", dataParts(3, 1), impl.DigestOf(data(1)), data(1), true},
		{"the last of three", dataParts(3, 1), impl.DigestOf(data(2)), data(2), true},
		{"behind three", dataParts(3, 1), impl.DigestOf(data(3)), impl.Resource{}, false},
		{"twins", parts(part(first, 1), part(second, 1)), digest, first, true},
		{"twins in the other order", parts(part(second, 1), part(first, 1)), digest, second, true},
		{"equal digests behind another part", parts(impl.Part{Digest: 9, Resource: page(1)}, impl.Part{Digest: 5, Resource: page(2)}, impl.Part{Digest: 5, Resource: page(3)}), 5, page(2), true},
		{"out of order", parts(part(data(2), 1), part(data(1), 1)), impl.DigestOf(data(1)), data(1), true},
		{"a digest that is not the resource's", parts(impl.Part{Digest: -5, Resource: page(4), Uses: -1}), -5, page(4), true},
		{"the digest of a resource under another one", parts(impl.Part{Digest: 5, Resource: page(4), Uses: 1}), impl.DigestOf(page(4)), impl.Resource{}, false},
		{"the zero part", parts(impl.Part{}), 0, impl.Resource{}, true},
		{"an invalid resource", parts(impl.Part{Digest: math.MinInt, Resource: invalid}), math.MinInt, invalid, true},
		{"the last of 31", dataParts(31, 1), impl.DigestOf(data(30)), data(30), true},
	}
	for _, c := range cases {
		if got, ok := impl.GetPart(c.l, c.digest); ok != c.wantOK || !sameResource(got, c.want) {
			t.Errorf("%s: GetPart(%v, %d) = %v, %v, want %v, %v", c.name, c.l, c.digest, got, ok, c.want, c.wantOK)
		}
	}
}

func TestWhatIsPutIsGot(t *testing.T) {
	l := []impl.Part{}
	for i, c := range validResources() {
		l, _ = impl.PutPart(l, c.r)
		for _, earlier := range validResources()[:i+1] {
			if got, ok := impl.GetPart(l, impl.DigestOf(earlier.r)); !ok || !sameResource(got, earlier.r) {
				t.Errorf("what was put is %v, and what is got is %v, %v", earlier.r, got, ok)
			}
		}
	}
}

func TestTakePart(t *testing.T) {
	d := func(n int) int { return impl.DigestOf(data(n)) }
	cases := []struct {
		name   string
		l      []impl.Part
		digest int
		want   []impl.Part
	}{
		{"at two uses", parts(part(page(4), 2)), impl.DigestOf(page(4)), parts(part(page(4), 1))},
		{"at 1000 uses", parts(part(page(4), 1000)), impl.DigestOf(page(4)), parts(part(page(4), 999))},
		{"the only part", parts(part(page(4), 1)), impl.DigestOf(page(4)), nil},
		{"the first part", dataParts(3, 1), d(0), dataParts(3, 1)[1:]},
		{"the middle part", dataParts(3, 1), d(1), parts(part(data(0), 1), part(data(2), 1))},
		{"the last part", dataParts(3, 1), d(2), dataParts(2, 1)},
		{"a use of the first part", dataParts(3, 2), d(0), parts(part(data(0), 1), part(data(1), 2), part(data(2), 2))},
		{"a use of the last part", dataParts(3, 2), d(2), parts(part(data(0), 2), part(data(1), 2), part(data(2), 1))},
		{"the first of 30", dataParts(30, 1), d(0), dataParts(30, 1)[1:]},
		{"the last of 30", dataParts(30, 1), d(29), dataParts(29, 1)},
	}
	for _, c := range cases {
		wantTake(t, c.name, c.l, c.digest, c.want, true)
	}
}

func TestTakePartRejectsDigests(t *testing.T) {
	for _, c := range validStores() {
		for _, digest := range []int{0, 1, -1, 3, 5, 7, impl.DigestOf(data(200)), impl.DigestOf(page(4)) + 1, impl.DigestOf(page(4)) + impl.Modulus, impl.DigestOf(page(4)) - impl.Modulus, impl.Modulus, math.MinInt, math.MaxInt} {
			wantTake(t, c.name, c.l, digest, c.l, false)
		}
	}
}

func TestTakePartRejectsLists(t *testing.T) {
	for _, c := range invalidStores() {
		for _, p := range c.l {
			wantTake(t, c.name, c.l, p.Digest, c.l, false)
			wantTake(t, c.name, c.l, impl.DigestOf(p.Resource), c.l, false)
		}
		wantTake(t, c.name, c.l, 0, c.l, false)
	}
}

func TestTakePartUndoesPutPart(t *testing.T) {
	for _, c := range validStores() {
		for _, r := range someResources() {
			with, ok := impl.PutPart(c.l, r)
			if ok {
				wantTake(t, c.name, with, impl.DigestOf(r), c.l, true)
			}
		}
	}
}

func TestTakePartUntilNothingIsLeft(t *testing.T) {
	l := parts(part(page(4), 1000))
	for uses := 999; uses >= 0; uses-- {
		var ok bool
		l, ok = impl.TakePart(l, impl.DigestOf(page(4)))
		if !ok || uses > 0 && l[0].Uses != uses || uses == 0 && len(l) != 0 {
			t.Fatalf("with %d uses left, TakePart gives %v, %v", uses, l, ok)
		}
	}
	wantTake(t, "nothing is left", l, impl.DigestOf(page(4)), nil, false)
}

func TestPutPartUntilTheLimit(t *testing.T) {
	l := []impl.Part{}
	for uses := 1; uses <= 1001; uses++ {
		var ok bool
		l, ok = impl.PutPart(l, page(4))
		if ok != (uses <= 1000) || len(l) != 1 || l[0].Uses != impl.Min(uses, 1000) {
			t.Fatalf("at the use %d, PutPart gives %v, %v", uses, l, ok)
		}
	}
}

// TestStoresAfterManyChanges follows a fixed sequence of changes, of which many are rejected.
func TestStoresAfterManyChanges(t *testing.T) {
	first, second := twins()
	l := []impl.Part{}
	for i := range 6000 {
		draw := impl.Hash([]int{i})
		// Phases of more puts fill the store, and those of more takes empty it.
		isPut := draw/97%10 < 4+2*(i/500%2)
		r := data(draw % 37)
		switch draw % 41 {
		case 0:
			r = first
		case 1:
			r = second
		case 2:
			r = page(256)
		}
		var want []impl.Part
		var wantOK bool
		if isPut {
			want, wantOK = wantedPut(l, r)
			wantPut(t, "many changes", l, r, want, wantOK)
		} else {
			want, wantOK = wantedTake(l, impl.DigestOf(r))
			wantTake(t, "many changes", l, impl.DigestOf(r), want, wantOK)
		}
		if !impl.IsStore(want) {
			t.Fatalf("after %d changes there is no store: %v", i, want)
		}
		l = want
	}
}

func TestStoredSize(t *testing.T) {
	cases := []struct {
		name string
		l    []impl.Part
		once int
		each int
	}{
		{"nil", nil, 0, 0},
		{"empty", parts(), 0, 0},
		{"no body", parts(part(page(), 1)), 1, 1},
		{"an empty body", parts(part(resource(impl.RsPage, []int{}, impl.Address{}), 3)), 1, 3},
		{"nothing", parts(part(nothing(), 5)), 1, 5},
		{"a move", parts(part(moveTo(address(1, 2, 3)), 2)), 1, 2},
		{"a body of six", parts(part(page(1, 2, 3, 4, 5, 6), 10)), 7, 70},
		{"two parts", parts(part(page(4, 5), 2), part(nothing(), 1)), 4, 7},
		{"30 parts", dataParts(30, 1000), 60, 60000},
		{"31 parts", dataParts(31, 2), 62, 124},
		{"uses of 0", parts(part(page(1), 0)), 2, 0},
		{"uses of -1", parts(part(page(1), -1)), 2, 0},
		{"uses of 1", parts(part(page(1), 1)), 2, 2},
		{"uses of 999", parts(part(page(1), 999)), 2, 1998},
		{"uses of 1000", parts(part(page(1), 1000)), 2, 2000},
		{"uses of 1001", parts(part(page(1), 1001)), 2, 2000},
		{"the least uses", parts(part(page(1), math.MinInt)), 2, 0},
		{"the greatest uses", parts(part(page(1), math.MaxInt)), 2, 2000},
		{"uses of all sorts", parts(part(page(1), -1), part(page(2), 0), part(page(3), 1000), part(page(4), 1001), part(page(5), 3)), 10, 4006},
		{"the zero part", parts(impl.Part{}), 1, 0},
		{"a long body", parts(impl.Part{Resource: resource(-1, make([]int, 1000), impl.Address{}), Uses: 3}), 1001, 3003},
		{"out of order", parts(part(data(2), 1), part(data(1), 2)), 4, 6},
		{"a part twice", parts(part(data(1), 1), part(data(1), 2)), 4, 6},
	}
	for _, c := range cases {
		if once, each := impl.StoredSize(c.l); once != c.once || each != c.each {
			t.Errorf("%s: StoredSize(%v) = %d, %d, want %d, %d", c.name, c.l, once, each, c.once, c.each)
		}
	}
}

func TestStoredSizeGrowsOnceWithEqualResources(t *testing.T) {
	l := []impl.Part{}
	sum := 0
	for uses := 1; uses <= 20; uses++ {
		l, _ = impl.PutPart(l, page(1, 2, 3))
		l, _ = impl.PutPart(l, data(9))
		sum += 4 + 2
		if once, each := impl.StoredSize(l); once != 6 || each != sum {
			t.Errorf("after %d uses, StoredSize = %d, %d, want 6, %d", uses, once, each, sum)
		}
	}
}

func TestEqualStores(t *testing.T) {
	full := func() []impl.Part {
		r := resource(1, []int{1, 2, 3}, address(4, 5, 6))
		return parts(part(page(4), 1), impl.Part{Digest: 7, Resource: r, Uses: 8}, part(page(5), 3))
	}
	changes := map[string]func(p *impl.Part){
		"a digest":                 func(p *impl.Part) { p.Digest++ },
		"a digest's high bits":     func(p *impl.Part) { p.Digest += 1 << 32 },
		"a digest by the modulus":  func(p *impl.Part) { p.Digest += impl.Modulus },
		"uses":                     func(p *impl.Part) { p.Uses++ },
		"uses that are negative":   func(p *impl.Part) { p.Uses = -p.Uses },
		"a kind":                   func(p *impl.Part) { p.Resource.Kind++ },
		"a kind by the modulus":    func(p *impl.Part) { p.Resource.Kind += impl.Modulus },
		"a host":                   func(p *impl.Part) { p.Resource.To.Host++ },
		"a path":                   func(p *impl.Part) { p.Resource.To.Path++ },
		"a query":                  func(p *impl.Part) { p.Resource.To.Query++ },
		"a body's first number":    func(p *impl.Part) { p.Resource.Body[0]++ },
		"a body's last number":     func(p *impl.Part) { p.Resource.Body[len(p.Resource.Body)-1]++ },
		"a body's number's sign":   func(p *impl.Part) { p.Resource.Body[0] *= -1 },
		"a number by the modulus":  func(p *impl.Part) { p.Resource.Body[0] += impl.Modulus },
		"a body's length":          func(p *impl.Part) { p.Resource.Body = append(p.Resource.Body, 0) },
		"a body that is not there": func(p *impl.Part) { p.Resource.Body = nil },
	}
	for name, change := range changes {
		for at := range full() {
			a, b := full(), full()
			change(&b[at])
			if impl.EqualStores(a, b) || impl.EqualStores(b, a) {
				t.Errorf("stores that differ in %s at %d are equal", name, at)
			}
			change(&a[at])
			if !impl.EqualStores(a, b) {
				t.Errorf("stores that are changed alike in %s at %d are not equal", name, at)
			}
		}
	}
}

func TestEqualStoresOfAnyLists(t *testing.T) {
	stores := allStores()
	for _, a := range stores {
		for _, b := range stores {
			want := sameParts(a.l, b.l)
			if got := impl.EqualStores(a.l, clonedParts(b.l)); got != want {
				t.Errorf("EqualStores(%v, %v) = %v", a.l, b.l, got)
			}
		}
	}
}

func TestEqualStoresOfOtherLengths(t *testing.T) {
	for n := range 40 {
		for m := range 40 {
			if got := impl.EqualStores(dataParts(n, 1), dataParts(m, 1)); got != (n == m) {
				t.Errorf("EqualStores of %d and %d parts = %v", n, m, got)
			}
		}
	}
	reversed := dataParts(3, 1)
	slices.Reverse(reversed)
	if impl.EqualStores(reversed, dataParts(3, 1)) {
		t.Error("stores in another order are equal")
	}
}

func TestEqualStoresOfNilAndEmpty(t *testing.T) {
	withNil, withEmpty := parts(part(page(), 1)), parts(part(resource(impl.RsPage, []int{}, impl.Address{}), 1))
	if !impl.EqualStores(nil, parts()) || !impl.EqualStores(parts(), nil) || !impl.EqualStores(nil, nil) || !impl.EqualStores(withNil, withEmpty) || !impl.EqualStores(withEmpty, withNil) {
		t.Error("nil and empty are not equal")
	}
	if impl.EqualStores(nil, parts(impl.Part{})) || impl.EqualStores(parts(impl.Part{}), parts()) {
		t.Error("no part and the zero part are equal")
	}
}

// roomyParts returns a copy of l whose list and bodies have spare memory behind them, and a function that tells whether all of this memory is as it was.
func roomyParts(l []impl.Part) ([]impl.Part, func() bool) {
	filler := slices.Repeat(parts(impl.Part{Digest: -7, Uses: -7}), 8)
	whole := append(slices.Clone(l), filler...)
	bodies := [][]int{}
	for i := range l {
		body, wholeBody := roomyInts(l[i].Resource.Body)
		whole[i].Resource.Body = body
		bodies = append(bodies, wholeBody)
	}
	was := clonedParts(whole)
	wasBodies := [][]int{}
	for _, body := range bodies {
		wasBodies = append(wasBodies, slices.Clone(body))
	}
	return whole[:len(l)], func() bool {
		return sameParts(whole, was) && slices.EqualFunc(bodies, wasBodies, slices.Equal[[]int])
	}
}

// overwrite writes into all the memory of a list that a caller can reach.
func overwrite(l []impl.Part) {
	for i := range l {
		overwriteInts(l[i].Resource.Body)
	}
	l = l[:cap(l)]
	for i := range l {
		l[i] = impl.Part{Digest: -99, Uses: -99}
	}
}

func overwriteInts(values []int) {
	values = values[:cap(values)]
	for i := range values {
		values[i] = -99
	}
}

func TestStoresLeaveTheirArguments(t *testing.T) {
	for _, c := range allStores() {
		l, isAsItWas := roomyParts(c.l)
		other, otherIsAsItWas := roomyParts(c.l)
		impl.IsStore(l)
		impl.StoredSize(l)
		impl.EqualStores(l, other)
		for _, p := range append(clonedParts(c.l), part(page(9), 1)) {
			impl.GetPart(l, p.Digest)
			impl.TakePart(l, p.Digest)
			impl.PutPart(l, p.Resource)
		}
		if !isAsItWas() || !otherIsAsItWas() {
			t.Errorf("%s: an argument was changed", c.name)
		}
	}
}

func TestPutPartLeavesItsArguments(t *testing.T) {
	for _, c := range allStores() {
		for _, r := range someResources() {
			l, isAsItWas := roomyParts(c.l)
			body, whole := roomyInts(r.Body)
			was := slices.Clone(whole)
			impl.PutPart(l, resource(r.Kind, body, r.To))
			if !isAsItWas() || !slices.Equal(whole, was) {
				t.Errorf("%s: an argument was changed by putting %v", c.name, r)
			}
		}
	}
}

func TestResultsOfStoresShareNoMemory(t *testing.T) {
	for _, c := range allStores() {
		digests := []int{0, -1}
		for _, p := range c.l {
			digests = append(digests, p.Digest)
		}
		for _, digest := range digests {
			l, isAsItWas := roomyParts(c.l)
			first, _ := impl.TakePart(l, digest)
			second, _ := impl.TakePart(l, digest)
			got, _ := impl.GetPart(l, digest)
			want := clonedParts(second)
			overwrite(first)
			overwriteInts(got.Body)
			if !isAsItWas() || !sameParts(second, want) {
				t.Errorf("%s: results for the digest %d share memory with the list or with each other", c.name, digest)
			}
		}
	}
}

func TestResultsOfPutPartShareNoMemory(t *testing.T) {
	for _, c := range allStores() {
		resources := someResources()
		for _, p := range c.l {
			resources = append(resources, p.Resource)
		}
		for _, r := range resources {
			l, isAsItWas := roomyParts(c.l)
			body, whole := roomyInts(r.Body)
			was := slices.Clone(whole)
			first, _ := impl.PutPart(l, resource(r.Kind, body, r.To))
			second, _ := impl.PutPart(l, resource(r.Kind, body, r.To))
			want := clonedParts(second)
			overwrite(first)
			if !isAsItWas() || !slices.Equal(whole, was) || !sameParts(second, want) {
				t.Errorf("%s: results of putting %v share memory with an argument or with each other", c.name, r)
			}
		}
	}
}

func TestPartsOfOneResultShareNoMemory(t *testing.T) {
	body := []int{1, 2}
	onePage, oneData := resource(impl.RsPage, body, impl.Address{}), resource(impl.RsData, body, impl.Address{})
	l := parts(part(onePage, 1), part(oneData, 1))
	slices.SortFunc(l, byDigest)
	added, isAdded := impl.PutPart(l[:1], l[1].Resource)
	taken, isTaken := impl.TakePart(parts(part(l[0].Resource, 2), l[1]), l[0].Digest)
	rejected, isPut := impl.PutPart(l, page(256))
	if !isAdded || !isTaken || isPut {
		t.Fatal("the changes do not do what they should")
	}
	for _, result := range [][]impl.Part{added, taken, rejected} {
		overwriteInts(result[0].Resource.Body)
		if !slices.Equal(result[1].Resource.Body, []int{1, 2}) {
			t.Errorf("the parts of the result %v share memory", result)
		}
	}
}

func TestStoresStayWhenAnArgumentChanges(t *testing.T) {
	body := []int{1, 2, 3}
	l, _ := impl.PutPart(nil, resource(impl.RsPage, body, impl.Address{}))
	next, _ := impl.PutPart(l, data(9))
	rejected, _ := impl.TakePart(l, -1)
	overwriteInts(body)
	if !sameParts(l, parts(part(page(1, 2, 3), 1))) {
		t.Error("a store changed with the body that was put")
	}
	got, _ := impl.GetPart(l, impl.DigestOf(page(1, 2, 3)))
	overwrite(l)
	if !sameParts(rejected, parts(part(page(1, 2, 3), 1))) || len(next) != 2 || !impl.IsStore(next) || !sameResource(got, page(1, 2, 3)) {
		t.Error("a result changed with the store that it was made from")
	}
}
