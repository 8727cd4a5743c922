package tests

import (
	"math"
	"slices"
	"strconv"
	"testing"

	"loop.example/g03002/impl"
)

// Promise 9: a site answers the same between its changes.

func version(a impl.Address, from int, r impl.Resource) impl.Version {
	return impl.Version{Address: a, From: from, Resource: r}
}

func versions(l ...impl.Version) []impl.Version {
	return l
}

// home, next and far are the addresses of most sites here.
var (
	home = address(1, 0, 0)
	next = address(1, 1, 0)
	far  = address(2, 0, 0)
)

// pagesFrom returns versions of home from the ticks, in this order, which are the pages 1, 2, 3 and so on.
func pagesFrom(ticks ...int) []impl.Version {
	l := []impl.Version{}
	for i, tick := range ticks {
		l = append(l, version(home, tick, page(i+1)))
	}
	return l
}

// chain returns n moves from tick 0 on, each of them to the next Path of one host; the end of the chain has no version.
func chain(n int) []impl.Version {
	l := []impl.Version{}
	for i := range n {
		l = append(l, version(address(3, i, 0), 0, moveTo(address(3, i+1, 0))))
	}
	return l
}

// pathsOf returns the addresses of one host with the Paths from 0 to n-1, which a chain of moves asks in this order.
func pathsOf(host int, n int) []impl.Address {
	l := []impl.Address{}
	for i := range n {
		l = append(l, address(host, i, 0))
	}
	return l
}

type namedSite struct {
	name string
	l    []impl.Version
}

func validSites() []namedSite {
	list := []namedSite{
		{"nil", nil},
		{"empty", versions()},
		{"a move to an address without versions", versions(version(home, 0, moveTo(far)))},
		{"a move to itself", versions(version(home, 0, moveTo(home)))},
		{"moves in a round", versions(version(home, 0, moveTo(next)), version(next, 0, moveTo(home)))},
		{"equal versions", versions(version(home, 3, page(4)), version(home, 3, page(4)))},
		{"several versions from one tick", pagesFrom(5, 5, 5)},
		{"ticks that descend", pagesFrom(9, 6, 3, 0)},
		{"ticks that ascend", pagesFrom(0, 3, 6, 9)},
		{"ticks up and down", pagesFrom(5, 2, 8, 2, 5, 1)},
		{"addresses in turn", versions(version(home, 1, page(1)), version(far, 2, data(2)), version(home, 3, page(3)), version(far, 0, nothing()))},
		{"an address that goes away", versions(version(home, 1, page(1)), version(home, 4, nothing()))},
		{"addresses that differ in the Query", versions(version(home, 0, page(1)), version(address(1, 0, 1), 0, page(2)), version(address(1, 0, 99), 0, page(3)))},
		{"a chain of 12 moves", chain(12)},
		{"11 versions", pagesFrom(0, 1, 2, 3, 4, 5, 6, 7, 8, 9, 10)},
		{"12 versions", pagesFrom(0, 1, 2, 3, 4, 5, 6, 7, 8, 9, 10, 11)},
	}
	for _, tick := range []int{0, 1, 2, 500, 999, 1000} {
		list = append(list, namedSite{"a version from " + strconv.Itoa(tick), pagesFrom(tick)})
	}
	for _, c := range validResources() {
		list = append(list, namedSite{"the resource " + c.text, versions(version(home, 0, c.r))})
	}
	for _, a := range []impl.Address{address(1, 0, 0), address(9, 0, 0), address(1, 99, 0), address(1, 0, 99), address(9, 99, 99)} {
		list = append(list, namedSite{"the address " + impl.AddressText(a), versions(version(a, 0, page()))})
	}
	return list
}

// badVersions are versions that break a rule, and most of them just one.
func badVersions() []impl.Version {
	list := versions(impl.Version{}, version(home, 0, impl.Resource{}), version(impl.Address{}, 0, page()))
	for _, a := range invalidAddresses {
		list = append(list, version(a, 0, page()))
	}
	for _, tick := range []int{-1, -2, -1000, 1001, 1002, 1 << 32, 1<<32 + 1, math.MinInt, math.MaxInt} {
		list = append(list, version(home, tick, page()), version(next, tick, nothing()))
	}
	for _, c := range invalidResources() {
		list = append(list, version(home, 0, c.r))
	}
	return list
}

func invalidSites() []namedSite {
	list := []namedSite{
		{"13 versions", pagesFrom(0, 1, 2, 3, 4, 5, 6, 7, 8, 9, 10, 11, 12)},
		{"13 equal versions", slices.Repeat(pagesFrom(0), 13)},
		{"a chain of 13 moves", chain(13)},
		{"13 zero versions", make([]impl.Version, 13)},
		{"1000 versions", slices.Repeat(pagesFrom(7), 1000)},
	}
	for i, v := range badVersions() {
		name := "bad version " + strconv.Itoa(i)
		list = append(list,
			namedSite{name + " alone", versions(v)},
			namedSite{name + " first", append(versions(v), pagesFrom(1, 2)...)},
			namedSite{name + " last", append(pagesFrom(1, 2), v)},
			namedSite{name + " between", append(append(pagesFrom(1), v), pagesFrom(2)...)},
			namedSite{name + " as the last of 12", append(pagesFrom(0, 1, 2, 3, 4, 5, 6, 7, 8, 9, 10), v)})
	}
	return list
}

func allSites() []namedSite {
	return append(validSites(), invalidSites()...)
}

// wantedAnswer takes, by the words of the document, the last version of the list that the address has at the tick.
func wantedAnswer(l []impl.Version, a impl.Address, tick int) impl.Resource {
	last := nothing()
	for _, v := range l {
		if v.Address == a && v.From <= tick {
			last = v.Resource
		}
	}
	return last
}

// wantedFollow asks an address after those that were asked before.
func wantedFollow(l []impl.Version, a impl.Address, tick int, before []impl.Address) (impl.Resource, []impl.Address) {
	asked := append(slices.Clone(before), a)
	r := wantedAnswer(l, a, tick)
	if r.Kind != impl.RsMove || len(asked) == 5 || slices.Contains(asked, r.To) {
		return r, asked
	}
	return wantedFollow(l, r.To, tick, asked)
}

// wantedSteady looks at every tick.
func wantedSteady(l []impl.Version, a impl.Address, from int, until int) bool {
	if from < 0 || until > 1000 || from > until {
		return false
	}
	for tick := from; tick <= until; tick++ {
		if !sameResource(wantedAnswer(l, a, tick), wantedAnswer(l, a, from)) {
			return false
		}
	}
	return true
}

func wantAnswer(t *testing.T, name string, l []impl.Version, a impl.Address, tick int, want impl.Resource) {
	t.Helper()
	if got := impl.AnswerAt(l, a, tick); !sameResource(got, want) {
		t.Errorf("%s: AnswerAt(%v, %v, %d) = %v, want %v", name, l, a, tick, got, want)
	}
}

func wantFollow(t *testing.T, name string, l []impl.Version, a impl.Address, tick int, want impl.Resource, wantAsked []impl.Address) {
	t.Helper()
	if got, asked := impl.FollowAt(l, a, tick); !sameResource(got, want) || !slices.Equal(asked, wantAsked) {
		t.Errorf("%s: FollowAt(%v, %v, %d) = %v, %v, want %v, %v", name, l, a, tick, got, asked, want, wantAsked)
	}
}

func wantSteady(t *testing.T, name string, l []impl.Version, a impl.Address, from int, until int, want bool) {
	t.Helper()
	if got := impl.IsSteady(l, a, from, until); got != want {
		t.Errorf("%s: IsSteady(%v, %v, %d, %d) = %v", name, l, a, from, until, got)
	}
}

// someTicks are in the range of ticks and outside of it.
var someTicks = []int{0, 1, 2, 3, 4, 5, 6, 7, 8, 9, 10, 11, 12, 499, 500, 501, 998, 999, 1000, 1001, 1002, -1, -2, -1000, 1 << 32, 1<<32 - 1, 1<<32 + 1, math.MinInt, math.MinInt + 1, math.MaxInt - 1, math.MaxInt}

// addressesIn returns the addresses that a list mentions, and some others, each of them once.
func addressesIn(l []impl.Version) []impl.Address {
	list := []impl.Address{home, next, far, address(1, 0, 1), address(1, 0, 2), {}}
	for _, v := range l {
		for _, a := range []impl.Address{v.Address, v.Resource.To} {
			if !slices.Contains(list, a) {
				list = append(list, a)
			}
		}
	}
	return list
}

func TestConstantsOfSites(t *testing.T) {
	if impl.MaxVersions != 12 || impl.MaxTick != 1000 {
		t.Error("the constants of chapter 9 are not those of the document")
	}
}

func TestIsSite(t *testing.T) {
	for _, c := range validSites() {
		if !impl.IsSite(c.l) {
			t.Errorf("%s: IsSite(%v) = false", c.name, c.l)
		}
	}
}

func TestIsSiteRejects(t *testing.T) {
	for _, c := range invalidSites() {
		if impl.IsSite(c.l) {
			t.Errorf("%s: IsSite(%v) = true", c.name, c.l)
		}
	}
}

func TestIsSiteTakesVersionsUpToTheLimit(t *testing.T) {
	for n := range 30 {
		if got := impl.IsSite(slices.Repeat(pagesFrom(5), n)); got != (n <= 12) {
			t.Errorf("IsSite of %d versions = %v", n, got)
		}
	}
}

func TestIsSiteTakesEveryTick(t *testing.T) {
	for tick := -100; tick <= 1100; tick++ {
		want := tick >= 0 && tick <= 1000
		if got := impl.IsSite(pagesFrom(tick)); got != want {
			t.Errorf("IsSite of a version from %d = %v", tick, got)
		}
		if got := impl.IsSite(pagesFrom(0, 1, tick)); got != want {
			t.Errorf("IsSite with a last version from %d = %v", tick, got)
		}
	}
}

func TestAnswerAt(t *testing.T) {
	cases := []struct {
		name string
		l    []impl.Version
		a    impl.Address
		tick int
		want impl.Resource
	}{
		{"nil", nil, home, 5, nothing()},
		{"empty", versions(), home, 5, nothing()},
		{"just before", pagesFrom(5), home, 4, nothing()},
		{"at", pagesFrom(5), home, 5, page(1)},
		{"just behind", pagesFrom(5), home, 6, page(1)},
		{"long behind", pagesFrom(5), home, 1000, page(1)},
		{"from 0, before", pagesFrom(0), home, -1, nothing()},
		{"from 0", pagesFrom(0), home, 0, page(1)},
		{"from 1000, before", pagesFrom(1000), home, 999, nothing()},
		{"from 1000", pagesFrom(1000), home, 1000, page(1)},
		{"from 1000, beyond", pagesFrom(1000), home, 1001, page(1)},
		{"the greatest tick", pagesFrom(1000), home, math.MaxInt, page(1)},
		{"the least tick", pagesFrom(0), home, math.MinInt, nothing()},
		{"two versions, before both", pagesFrom(3, 6), home, 2, nothing()},
		{"two versions, the first", pagesFrom(3, 6), home, 3, page(1)},
		{"two versions, just before the second", pagesFrom(3, 6), home, 5, page(1)},
		{"two versions, the second", pagesFrom(3, 6), home, 6, page(2)},
		{"two versions, just behind the second", pagesFrom(3, 6), home, 7, page(2)},
		{"descending ticks, before both", pagesFrom(6, 3), home, 2, nothing()},
		{"descending ticks, the last", pagesFrom(6, 3), home, 3, page(2)},
		{"descending ticks, the last hides the first", pagesFrom(6, 3), home, 6, page(2)},
		{"descending ticks, beyond", pagesFrom(6, 3), home, 1000, page(2)},
		{"one tick", pagesFrom(4, 4), home, 4, page(2)},
		{"one tick, before", pagesFrom(4, 4), home, 3, nothing()},
		{"one tick three times", pagesFrom(4, 4, 4), home, 9, page(3)},
		{"one tick, around another", pagesFrom(4, 2, 4), home, 3, page(2)},
		{"one tick, around another, behind", pagesFrom(4, 2, 4), home, 4, page(3)},
		{"a greater tick first", pagesFrom(4, 8, 6), home, 7, page(3)},
		{"a greater tick first, at it", pagesFrom(4, 8, 6), home, 8, page(3)},
		{"no versions", pagesFrom(0), next, 5, nothing()},
		{"another Query", pagesFrom(0), address(1, 0, 1), 5, nothing()},
		{"no Query", versions(version(address(1, 0, 1), 0, page(1))), home, 5, nothing()},
		{"one Query of two", versions(version(address(1, 0, 1), 0, page(1)), version(address(1, 0, 2), 0, page(2))), address(1, 0, 1), 5, page(1)},
		{"another host", pagesFrom(0), far, 5, nothing()},
		{"an address that is not valid", pagesFrom(0), impl.Address{}, 5, nothing()},
		{"a version of another address behind", versions(version(home, 0, page(1)), version(next, 0, page(2))), home, 5, page(1)},
		{"data", versions(version(home, 0, data(7, 8))), home, 0, data(7, 8)},
		{"a move", versions(version(home, 0, moveTo(far))), home, 0, moveTo(far)},
		{"a move that is not followed", versions(version(home, 0, moveTo(far)), version(far, 0, page(1))), home, 0, moveTo(far)},
		{"a version that says none", versions(version(home, 0, nothing())), home, 0, nothing()},
		{"a version that says none from then on", versions(version(home, 0, page(1)), version(home, 3, nothing())), home, 3, nothing()},
		{"just before a version that says none", versions(version(home, 0, page(1)), version(home, 3, nothing())), home, 2, page(1)},
		{"a page behind a version that says none", versions(version(home, 0, nothing()), version(home, 3, page(1))), home, 3, page(1)},
		{"a page of six numbers", versions(version(home, 0, page(1, 2, 3, 4, 5, 6))), home, 0, page(1, 2, 3, 4, 5, 6)},
	}
	for _, c := range cases {
		wantAnswer(t, c.name, c.l, c.a, c.tick, c.want)
	}
}

func TestAnswerAtOfListsThatAreNoSites(t *testing.T) {
	cases := []struct {
		name string
		l    []impl.Version
		a    impl.Address
		tick int
		want impl.Resource
	}{
		{"a From of -1, before", pagesFrom(-1), home, -2, nothing()},
		{"a From of -1", pagesFrom(-1), home, -1, page(1)},
		{"a From of 1001, before", pagesFrom(1001), home, 1000, nothing()},
		{"a From of 1001", pagesFrom(1001), home, 1001, page(1)},
		{"the least From", pagesFrom(math.MinInt), home, math.MinInt, page(1)},
		{"the greatest From", pagesFrom(math.MaxInt), home, math.MaxInt, page(1)},
		{"just before the greatest From", pagesFrom(math.MaxInt), home, math.MaxInt - 1, nothing()},
		{"the greatest From and the least tick", pagesFrom(math.MaxInt), home, math.MinInt, nothing()},
		{"the zero version", versions(impl.Version{}), impl.Address{}, 0, impl.Resource{}},
		{"an address that is not valid", versions(version(address(-1, 100, 200), 0, page(1))), address(-1, 100, 200), 0, page(1)},
		{"a resource that is not valid", versions(version(home, 0, resource(9, []int{-1}, far))), home, 0, resource(9, []int{-1}, far)},
		{"13 versions", slices.Repeat(pagesFrom(0), 13), home, 0, page(1)},
		{"the last of 13 versions", append(slices.Repeat(pagesFrom(0), 12), version(home, 0, page(9))), home, 0, page(9)},
		{"the last of 5001 versions", append(slices.Repeat(pagesFrom(0), 5000), version(home, 0, page(9))), home, 0, page(9)},
		{"the first of 5001 versions", append(versions(version(far, 0, page(9))), slices.Repeat(pagesFrom(0), 5000)...), far, 0, page(9)},
	}
	for _, c := range cases {
		wantAnswer(t, c.name, c.l, c.a, c.tick, c.want)
	}
}

func TestAnswerAtOfAnySites(t *testing.T) {
	for _, c := range allSites() {
		for _, a := range addressesIn(c.l) {
			for _, tick := range someTicks {
				wantAnswer(t, c.name, c.l, a, tick, wantedAnswer(c.l, a, tick))
			}
		}
	}
}

// wantNoOtherChange looks for ticks from low to high at which the answer changes although ChangesOf does not name them.
func wantNoOtherChange(t *testing.T, c namedSite, low int, high int) {
	t.Helper()
	for _, a := range addressesIn(c.l) {
		changes := impl.ChangesOf(c.l, a)
		before := impl.AnswerAt(c.l, a, low-1)
		for tick := low; tick <= high; tick++ {
			now := impl.AnswerAt(c.l, a, tick)
			if !slices.Contains(changes, tick) && !sameResource(before, now) {
				t.Errorf("%s: the answer of %v changes at %d, which is none of %v", c.name, a, tick, changes)
			}
			before = now
		}
	}
}

func TestASiteAnswersTheSameBetweenItsChanges(t *testing.T) {
	for _, c := range validSites() {
		wantNoOtherChange(t, c, -20, 1020)
	}
	for _, c := range invalidSites() {
		wantNoOtherChange(t, c, -3, 13)
	}
}

func TestASiteIsSteadyBetweenItsChanges(t *testing.T) {
	for _, c := range validSites() {
		for _, a := range addressesIn(c.l) {
			ticks := append(append([]int{0}, impl.ChangesOf(c.l, a)...), 1001)
			for i, tick := range ticks[1:] {
				if from := ticks[i]; from < tick {
					wantSteady(t, c.name, c.l, a, from, tick-1, true)
				}
			}
		}
	}
}

func TestChangesOf(t *testing.T) {
	apart := versions(version(home, 5, page(1)), version(far, 4, page(1)), version(home, 2, page(1)), version(address(1, 0, 1), 3, page(1)))
	cases := []struct {
		name string
		l    []impl.Version
		a    impl.Address
		want []int
	}{
		{"nil", nil, home, nil},
		{"empty", versions(), home, nil},
		{"one", pagesFrom(5), home, []int{5}},
		{"from 0", pagesFrom(0), home, []int{0}},
		{"from 1000", pagesFrom(1000), home, []int{1000}},
		{"ascending", pagesFrom(1, 2, 3), home, []int{1, 2, 3}},
		{"descending", pagesFrom(3, 2, 1), home, []int{1, 2, 3}},
		{"up and down", pagesFrom(5, 2, 8, 2, 5, 1), home, []int{1, 2, 5, 8}},
		{"one tick twice", pagesFrom(4, 4), home, []int{4}},
		{"one tick three times, not in a row", pagesFrom(4, 7, 4, 1, 4), home, []int{1, 4, 7}},
		{"12 of one tick", slices.Repeat(pagesFrom(6), 12), home, []int{6}},
		{"12 ticks", pagesFrom(11, 10, 9, 8, 7, 6, 5, 4, 3, 2, 1, 0), home, counted(0, 12)},
		{"ticks of several digits", pagesFrom(100, 20, 3, 1000), home, []int{3, 20, 100, 1000}},
		{"an equal resource is a change as well", versions(version(home, 1, page(1)), version(home, 2, page(1))), home, []int{1, 2}},
		{"a version that never answers", pagesFrom(6, 3), home, []int{3, 6}},
		{"a version that says none", versions(version(home, 2, nothing())), home, []int{2}},
		{"of one address", apart, home, []int{2, 5}},
		{"of another address", apart, far, []int{4}},
		{"of another Query", apart, address(1, 0, 1), []int{3}},
		{"of an address without versions", apart, next, nil},
		{"of a Query without versions", apart, address(1, 0, 2), nil},
		{"of a move, not of what it leads to", versions(version(home, 1, moveTo(far)), version(far, 2, page(1))), home, []int{1}},
		{"ticks beyond", pagesFrom(1001, -1, 0, 1000, math.MaxInt, math.MinInt, -1), home, []int{math.MinInt, -1, 0, 1000, 1001, math.MaxInt}},
		{"an address that is not valid", versions(version(impl.Address{}, 3, page())), impl.Address{}, []int{3}},
		{"a resource that is not valid", versions(version(home, 3, impl.Resource{})), home, []int{3}},
		{"13 versions", pagesFrom(12, 11, 10, 9, 8, 7, 6, 5, 4, 3, 2, 1, 0), home, counted(0, 13)},
		{"5000 versions", slices.Repeat(pagesFrom(2, 1), 2500), home, []int{1, 2}},
	}
	for _, c := range cases {
		if got := impl.ChangesOf(c.l, c.a); !slices.Equal(got, c.want) {
			t.Errorf("%s: ChangesOf(%v, %v) = %v, want %v", c.name, c.l, c.a, got, c.want)
		}
	}
}

func TestChangesOfTicksInEveryOrder(t *testing.T) {
	for code := range 5 * 5 * 5 * 5 {
		ticks := []int{code % 5, code / 5 % 5, code / 25 % 5, code / 125}
		want := []int{}
		for tick := range 5 {
			if slices.Contains(ticks, tick) {
				want = append(want, tick)
			}
		}
		if got := impl.ChangesOf(pagesFrom(ticks...), home); !slices.Equal(got, want) {
			t.Errorf("ChangesOf versions from %v = %v, want %v", ticks, got, want)
		}
	}
}

func TestFollowAt(t *testing.T) {
	timed := versions(version(home, 2, page(4)), version(home, 6, page(5)), version(next, 0, moveTo(home)), version(home, 4, moveTo(far)))
	round := versions(version(home, 0, moveTo(next)), version(next, 0, moveTo(far)), version(far, 0, moveTo(home)))
	back := versions(version(home, 0, moveTo(next)), version(next, 0, moveTo(far)), version(far, 0, moveTo(next)))
	cases := []struct {
		name  string
		l     []impl.Version
		a     impl.Address
		tick  int
		want  impl.Resource
		asked []impl.Address
	}{
		{"nil", nil, home, 5, nothing(), []impl.Address{home}},
		{"empty", versions(), home, 5, nothing(), []impl.Address{home}},
		{"a page", pagesFrom(5), home, 5, page(1), []impl.Address{home}},
		{"just before a page", pagesFrom(5), home, 4, nothing(), []impl.Address{home}},
		{"data", versions(version(home, 0, data(7))), home, 0, data(7), []impl.Address{home}},
		{"a version that says none", versions(version(home, 0, nothing())), home, 0, nothing(), []impl.Address{home}},
		{"an address without versions", pagesFrom(0), far, 0, nothing(), []impl.Address{far}},
		{"an address that is not valid", pagesFrom(0), impl.Address{}, 0, nothing(), []impl.Address{{}}},
		{"a move to an address without versions", versions(version(home, 0, moveTo(far))), home, 0, nothing(), []impl.Address{home, far}},
		{"a move to another Query", versions(version(home, 0, moveTo(address(1, 0, 1))), version(address(1, 0, 1), 0, page(3))), home, 0, page(3), []impl.Address{home, address(1, 0, 1)}},
		{"a move to itself", versions(version(home, 0, moveTo(home))), home, 0, moveTo(home), []impl.Address{home}},
		{"a move and back", versions(version(home, 0, moveTo(next)), version(next, 0, moveTo(home))), home, 0, moveTo(home), []impl.Address{home, next}},
		{"a move to one that moves to itself", versions(version(home, 0, moveTo(next)), version(next, 0, moveTo(next))), home, 0, moveTo(next), []impl.Address{home, next}},
		{"a round of three", round, home, 0, moveTo(home), []impl.Address{home, next, far}},
		{"a round of three, from its middle", round, next, 0, moveTo(next), []impl.Address{next, far, home}},
		{"back to an earlier one that is not the first", back, home, 0, moveTo(next), []impl.Address{home, next, far}},
		{"a move, at a tick with a page", timed, next, 3, page(4), []impl.Address{next, home}},
		{"a move, at a tick before the page", timed, next, 1, nothing(), []impl.Address{next, home}},
		{"two moves, at a tick with a move", timed, next, 4, nothing(), []impl.Address{next, home, far}},
		{"two moves, as the last version answers", timed, next, 9, nothing(), []impl.Address{next, home, far}},
		{"before the first move", timed, next, -1, nothing(), []impl.Address{next}},
		{"a move that becomes a page, before", versions(version(home, 0, moveTo(far)), version(home, 5, page(1)), version(far, 0, page(2))), home, 4, page(2), []impl.Address{home, far}},
		{"a move that becomes a page", versions(version(home, 0, moveTo(far)), version(home, 5, page(1)), version(far, 0, page(2))), home, 5, page(1), []impl.Address{home}},
		{"a move that goes elsewhere", versions(version(home, 0, moveTo(far)), version(home, 5, moveTo(next)), version(far, 0, page(2)), version(next, 0, page(3))), home, 5, page(3), []impl.Address{home, next}},
		{"the same at the least tick", timed, next, math.MinInt, nothing(), []impl.Address{next}},
		{"the same at the greatest tick", timed, next, math.MaxInt, nothing(), []impl.Address{next, home, far}},
	}
	for _, c := range cases {
		wantFollow(t, c.name, c.l, c.a, c.tick, c.want, c.asked)
	}
}

func TestFollowAtOfChains(t *testing.T) {
	for n := range 13 {
		name := "a chain of " + strconv.Itoa(n)
		end := versions(version(address(3, n, 0), 0, page(7)))
		if n <= 4 {
			wantFollow(t, name, append(chain(n), end...), address(3, 0, 0), 0, page(7), pathsOf(3, n+1))
			wantFollow(t, name+" to nothing", chain(n), address(3, 0, 0), 0, nothing(), pathsOf(3, n+1))
		} else {
			wantFollow(t, name, append(chain(n), end...), address(3, 0, 0), 0, moveTo(address(3, 5, 0)), pathsOf(3, 5))
			wantFollow(t, name+" to nothing", chain(n), address(3, 0, 0), 0, moveTo(address(3, 5, 0)), pathsOf(3, 5))
			wantFollow(t, name+" from its second move", chain(n), address(3, 1, 0), 0, wantedAnswer(chain(n), address(3, 5, 0), 0), pathsOf(3, 6)[1:])
		}
		turned := append(end, chain(n)...)
		slices.Reverse(turned)
		wantFollow(t, name+", the list turned round", turned, address(3, 0, 0), 0, wantedAnswer(turned, address(3, min(n, 4), 0), 0), pathsOf(3, min(n, 4)+1))
	}
}

func TestFollowAtOfRounds(t *testing.T) {
	for n := 1; n <= 8; n++ {
		l := chain(n)
		l[n-1].Resource = moveTo(address(3, 0, 0))
		last := min(n, 5)
		wantFollow(t, "a round of "+strconv.Itoa(n), l, address(3, 0, 0), 0, moveTo(address(3, last%n, 0)), pathsOf(3, last))
	}
}

func TestFollowAtOfListsThatAreNoSites(t *testing.T) {
	nowhere := resource(impl.RsMove, []int{5, 6}, impl.Address{})
	onwards := resource(impl.RsMove, []int{300}, far)
	strange := resource(7, nil, far)
	cases := []struct {
		name  string
		l     []impl.Version
		a     impl.Address
		tick  int
		want  impl.Resource
		asked []impl.Address
	}{
		{"a move to no address", versions(version(home, 0, nowhere)), home, 0, nothing(), []impl.Address{home, {}}},
		{"a move to the zero address, which has a page", versions(version(home, 0, nowhere), version(impl.Address{}, 0, page(1))), home, 0, page(1), []impl.Address{home, {}}},
		{"a move with a body", versions(version(home, 0, onwards), version(far, 0, page(1))), home, 0, page(1), []impl.Address{home, far}},
		{"no move, with an address", versions(version(home, 0, strange), version(far, 0, page(1))), home, 0, strange, []impl.Address{home}},
		{"a page with an address", versions(version(home, 0, resource(impl.RsPage, nil, far)), version(far, 0, page(1))), home, 0, resource(impl.RsPage, nil, far), []impl.Address{home}},
		{"nothing with an address", versions(version(home, 0, resource(impl.RsNone, nil, far)), version(far, 0, page(1))), home, 0, resource(impl.RsNone, nil, far), []impl.Address{home}},
		{"from a tick beyond", versions(version(home, 1001, moveTo(far)), version(far, -5, page(1))), home, 1001, page(1), []impl.Address{home, far}},
		{"before a tick beyond", versions(version(home, 1001, moveTo(far)), version(far, -5, page(1))), home, 1000, nothing(), []impl.Address{home}},
		{"a chain of 99 moves", chain(99), address(3, 94, 0), 0, moveTo(address(3, 99, 0)), pathsOf(3, 99)[94:]},
		{"the zero version", versions(impl.Version{}), impl.Address{}, 0, impl.Resource{}, []impl.Address{{}}},
		{"a zero address that moves to itself", versions(version(impl.Address{}, 0, nowhere)), impl.Address{}, 0, nowhere, []impl.Address{{}}},
	}
	for _, c := range cases {
		wantFollow(t, c.name, c.l, c.a, c.tick, c.want, c.asked)
	}
}

func TestFollowAtOfAnySites(t *testing.T) {
	for _, c := range allSites() {
		for _, a := range addressesIn(c.l) {
			for _, tick := range someTicks {
				want, asked := wantedFollow(c.l, a, tick, nil)
				wantFollow(t, c.name, c.l, a, tick, want, asked)
			}
		}
	}
}

func TestIsSteady(t *testing.T) {
	changing := pagesFrom(3, 6)
	equal := versions(version(home, 0, page(1)), version(home, 5, page(1)))
	away := versions(version(home, 0, page(1)), version(home, 5, page(2)), version(home, 8, page(1)))
	hidden := pagesFrom(6, 3)
	gone := versions(version(home, 5, nothing()))
	cases := []struct {
		name  string
		l     []impl.Version
		a     impl.Address
		from  int
		until int
		want  bool
	}{
		{"nil", nil, home, 0, 1000, true},
		{"empty", versions(), home, 0, 1000, true},
		{"an address without versions", changing, far, 0, 1000, true},
		{"another Query", changing, address(1, 0, 1), 0, 1000, true},
		{"an address that is not valid", changing, impl.Address{}, 0, 1000, true},
		{"before the first change", changing, home, 0, 2, true},
		{"a change just behind until", changing, home, 3, 5, true},
		{"a change just at until", changing, home, 3, 6, false},
		{"a change just behind from", changing, home, 5, 7, false},
		{"a change just behind from, and at until", changing, home, 5, 6, false},
		{"a change just at from", changing, home, 6, 7, true},
		{"a change at from and to the end", changing, home, 6, 1000, true},
		{"a change between", changing, home, 4, 8, false},
		{"two changes between", changing, home, 0, 1000, false},
		{"from nothing to a page", changing, home, 2, 3, false},
		{"from nothing to a page, far between", changing, home, 0, 5, false},
		{"one tick before a change", changing, home, 5, 5, true},
		{"one tick at a change", changing, home, 6, 6, true},
		{"one tick at 0", changing, home, 0, 0, true},
		{"one tick at 1000", changing, home, 1000, 1000, true},
		{"all ticks", pagesFrom(0), home, 0, 1000, true},
		{"a change at 1", pagesFrom(1), home, 0, 1000, false},
		{"a change at 1000", pagesFrom(1000), home, 0, 1000, false},
		{"just before a change at 1000", pagesFrom(1000), home, 0, 999, true},
		{"one tick at a change at 1000", pagesFrom(1000), home, 1000, 1000, true},
		{"to an equal resource", equal, home, 0, 1000, true},
		{"to an equal resource, at until", equal, home, 4, 5, true},
		{"there and back", away, home, 0, 1000, false},
		{"there and back, just", away, home, 4, 8, false},
		{"just there", away, home, 5, 7, true},
		{"just back", away, home, 8, 1000, true},
		{"until there", away, home, 0, 4, true},
		{"a change that is hidden by a later version", hidden, home, 3, 1000, true},
		{"a change before a hidden one", hidden, home, 2, 1000, false},
		{"a version that says none where nothing was", gone, home, 0, 1000, true},
		{"a version that says none where a page was", versions(version(home, 0, page(1)), version(home, 5, nothing())), home, 0, 1000, false},
		{"several versions from one tick that end as it was", versions(version(home, 0, page(1)), version(home, 5, page(2)), version(home, 5, page(1))), home, 0, 1000, true},
		{"several versions from one tick that end otherwise", versions(version(home, 0, page(1)), version(home, 5, page(1)), version(home, 5, page(2))), home, 0, 1000, false},
		{"a page and data of one body", versions(version(home, 0, page(1)), version(home, 5, data(1))), home, 0, 1000, false},
		{"a move to elsewhere", versions(version(home, 0, moveTo(far)), version(home, 5, moveTo(next))), home, 0, 1000, false},
		{"a move to elsewhere in the Query", versions(version(home, 0, moveTo(far)), version(home, 5, moveTo(address(2, 0, 1)))), home, 0, 1000, false},
		{"an equal move to one that changes", versions(version(home, 0, moveTo(far)), version(far, 5, page(1))), home, 0, 1000, true},
		{"a change of another address", versions(version(home, 0, page(1)), version(next, 5, page(2))), home, 0, 1000, true},
		{"a body that is nil and one that is empty", versions(version(home, 0, page()), version(home, 5, resource(impl.RsPage, []int{}, impl.Address{}))), home, 0, 1000, true},
		{"longer bodies", versions(version(home, 0, page(0)), version(home, 5, page(0, 0))), home, 0, 1000, false},
	}
	for _, c := range cases {
		wantSteady(t, c.name, c.l, c.a, c.from, c.until, c.want)
	}
}

func TestIsSteadyRejectsTicks(t *testing.T) {
	cases := []struct {
		name  string
		from  int
		until int
	}{
		{"descending", 1, 0},
		{"descending, at the end", 1000, 999},
		{"descending, far", 1000, 0},
		{"from of -1", -1, 5},
		{"from and until of -1", -1, -1},
		{"until of -1", 0, -1},
		{"until of 1001", 5, 1001},
		{"from and until of 1001", 1001, 1001},
		{"from of 1001", 1001, 1000},
		{"all and one more", 0, 1001},
		{"all and one before", -1, 1000},
		{"both beyond", -1, 1001},
		{"descending from beyond", 1001, -1},
		{"negative", -10, -5},
		{"great", 2000, 3000},
		{"the least integer", math.MinInt, 0},
		{"the least integer twice", math.MinInt, math.MinInt},
		{"the greatest integer", 0, math.MaxInt},
		{"the greatest integer twice", math.MaxInt, math.MaxInt},
		{"the whole range", math.MinInt, math.MaxInt},
		{"the whole range turned round", math.MaxInt, math.MinInt},
		{"great numbers that end in valid bits", 1 << 32, 1<<32 + 5},
	}
	for _, c := range cases {
		for _, l := range [][]impl.Version{nil, pagesFrom(0), pagesFrom(3, 6), pagesFrom(-1), pagesFrom(math.MinInt), pagesFrom(1001), slices.Repeat(pagesFrom(0), 13)} {
			wantSteady(t, c.name, l, home, c.from, c.until, false)
			wantSteady(t, c.name, l, far, c.from, c.until, false)
		}
	}
}

func TestIsSteadyTakesEveryTick(t *testing.T) {
	for tick := -50; tick <= 1050; tick++ {
		want := tick >= 0 && tick <= 1000
		wantSteady(t, "one tick", pagesFrom(500), home, tick, tick, want)
		wantSteady(t, "from", nil, home, tick, 1000, want)
		wantSteady(t, "until", nil, home, 0, tick, want)
		wantSteady(t, "from, with a change", pagesFrom(500), home, tick, 1000, want && tick >= 500)
		wantSteady(t, "until, with a change", pagesFrom(500), home, 0, tick, want && tick < 500)
	}
}

func TestIsSteadyOfListsThatAreNoSites(t *testing.T) {
	cases := []struct {
		name  string
		l     []impl.Version
		a     impl.Address
		from  int
		until int
		want  bool
	}{
		{"a change before 0", pagesFrom(-5), home, 0, 1000, true},
		{"a change behind 1000", pagesFrom(0, 1001), home, 0, 1000, true},
		{"a change before 0 that is hidden", pagesFrom(5, -5), home, 0, 1000, true},
		{"a change before 0 and one between", pagesFrom(-5, 5), home, 0, 1000, false},
		{"an address that is not valid", versions(version(impl.Address{}, 5, page(1))), impl.Address{}, 0, 1000, false},
		{"resources that are not valid", versions(version(home, 0, resource(9, []int{-1}, far)), version(home, 5, resource(9, []int{-1}, far))), home, 0, 1000, true},
		{"other resources that are not valid", versions(version(home, 0, resource(9, []int{-1}, far)), version(home, 5, resource(9, []int{-1}, next))), home, 0, 1000, false},
		{"the zero resource is not nothing", versions(version(home, 5, impl.Resource{})), home, 0, 1000, false},
		{"13 versions", slices.Repeat(pagesFrom(5), 13), home, 5, 1000, true},
		{"13 versions and a change", append(slices.Repeat(pagesFrom(0), 12), version(home, 5, page(2))), home, 0, 1000, false},
		{"a version at every tick", versionsAtEveryTick(), home, 0, 1000, true},
		{"a version at every tick, and a change", append(versionsAtEveryTick(), version(home, 1000, page(2))), home, 0, 1000, false},
	}
	for _, c := range cases {
		wantSteady(t, c.name, c.l, c.a, c.from, c.until, c.want)
	}
}

// versionsAtEveryTick returns equal pages from every tick on.
func versionsAtEveryTick() []impl.Version {
	l := []impl.Version{}
	for tick := range 1001 {
		l = append(l, version(home, tick, page(1)))
	}
	return l
}

func TestIsSteadyOfAnySites(t *testing.T) {
	ticks := []int{-1, 0, 1, 2, 3, 4, 5, 6, 8, 9, 11, 12, 500, 999, 1000, 1001}
	for _, c := range validSites() {
		for _, a := range addressesIn(c.l) {
			for _, from := range ticks {
				for _, until := range ticks {
					wantSteady(t, c.name, c.l, a, from, until, wantedSteady(c.l, a, from, until))
				}
			}
		}
	}
}

// smallVersions are versions of two addresses from a few ticks.
func smallVersions() []impl.Version {
	list := []impl.Version{}
	for _, a := range []impl.Address{home, next} {
		for tick := range 3 {
			for _, r := range []impl.Resource{page(1), page(2), moveTo(home), moveTo(next), nothing()} {
				list = append(list, version(a, tick, r))
			}
		}
	}
	return list
}

func checkSmallSite(t *testing.T, l []impl.Version) {
	t.Helper()
	for tick := -1; tick <= 3; tick++ {
		wantAnswer(t, "a small site", l, home, tick, wantedAnswer(l, home, tick))
		want, asked := wantedFollow(l, home, tick, nil)
		wantFollow(t, "a small site", l, home, tick, want, asked)
		for until := tick; until <= 3; until++ {
			wantSteady(t, "a small site", l, home, tick, until, wantedSteady(l, home, tick, until))
		}
	}
}

func TestSmallSites(t *testing.T) {
	all := smallVersions()
	for _, first := range all {
		checkSmallSite(t, versions(first))
		for _, second := range all {
			checkSmallSite(t, versions(first, second))
			for _, third := range all {
				checkSmallSite(t, versions(first, second, third))
			}
		}
	}
}

func sameVersions(a []impl.Version, b []impl.Version) bool {
	return slices.EqualFunc(a, b, func(v impl.Version, w impl.Version) bool {
		return v.Address == w.Address && v.From == w.From && sameResource(v.Resource, w.Resource)
	})
}

// roomyVersions returns a copy of l whose list and bodies have spare memory behind them, and a function that tells whether all of this memory is as it was.
func roomyVersions(l []impl.Version) ([]impl.Version, func() bool) {
	whole := append(slices.Clone(l), slices.Repeat(pagesFrom(-7), 8)...)
	bodies, wasBodies := [][]int{}, [][]int{}
	for i := range l {
		body, wholeBody := roomyInts(l[i].Resource.Body)
		whole[i].Resource.Body = body
		bodies = append(bodies, wholeBody)
		wasBodies = append(wasBodies, slices.Clone(wholeBody))
	}
	was := slices.Clone(whole)
	return whole[:len(l)], func() bool {
		return sameVersions(whole, was) && slices.EqualFunc(bodies, wasBodies, slices.Equal[[]int])
	}
}

func overwriteAddresses(l []impl.Address) {
	l = l[:cap(l)]
	for i := range l {
		l[i] = address(-99, -99, -99)
	}
}

// manyTimed are sites whose answers have bodies, or that follow moves.
func manyTimed() []namedSite {
	return append(allSites(),
		namedSite{"bodies", versions(version(home, 0, page(1, 2, 3)), version(home, 4, data(4, 5)), version(next, 0, moveTo(home)), version(far, 0, moveTo(next)))},
		namedSite{"long bodies", versions(version(home, 0, page(counted(1, 100)...)), version(home, 1, resource(impl.RsMove, counted(1, 100), next)), version(next, 1, page(counted(1, 50)...)))},
	)
}

func TestSitesLeaveTheirArguments(t *testing.T) {
	for _, c := range manyTimed() {
		l, isAsItWas := roomyVersions(c.l)
		impl.IsSite(l)
		for _, a := range []impl.Address{home, next, far} {
			for _, tick := range []int{0, 1, 3, 5, 1000} {
				overwriteInts(impl.AnswerAt(l, a, tick).Body)
				overwriteInts(impl.ChangesOf(l, a))
				r, asked := impl.FollowAt(l, a, tick)
				overwriteInts(r.Body)
				overwriteAddresses(asked)
				impl.IsSteady(l, a, 0, tick)
				if !isAsItWas() {
					t.Fatalf("%s: an argument was changed, or a result shares its memory", c.name)
				}
			}
		}
	}
}

func TestResultsOfSitesShareNoMemory(t *testing.T) {
	for _, c := range manyTimed() {
		for _, a := range []impl.Address{home, next, far} {
			for _, tick := range []int{0, 1, 3, 5, 1000} {
				answer, changes := impl.AnswerAt(c.l, a, tick), impl.ChangesOf(c.l, a)
				end, asked := impl.FollowAt(c.l, a, tick)
				wantEnd, wantAsked := wantedFollow(c.l, a, tick, nil)
				wantChanges := slices.Clone(changes)

				otherEnd, otherAsked := impl.FollowAt(c.l, a, tick)
				overwriteInts(impl.AnswerAt(c.l, a, tick).Body)
				overwriteInts(impl.ChangesOf(c.l, a))
				overwriteInts(otherEnd.Body)
				overwriteAddresses(otherAsked)
				if !sameResource(answer, wantedAnswer(c.l, a, tick)) || !slices.Equal(changes, wantChanges) || !sameResource(end, wantEnd) || !slices.Equal(asked, wantAsked) {
					t.Errorf("%s: two results share memory", c.name)
				}
			}
		}
	}
}

func TestAnswersStayWhenASiteChanges(t *testing.T) {
	l := versions(version(home, 0, page(1, 2, 3)), version(next, 0, moveTo(home)))
	answer := impl.AnswerAt(l, home, 0)
	end, asked := impl.FollowAt(l, next, 0)
	overwriteInts(l[0].Resource.Body)
	l[1].Resource.To = far
	if !sameResource(answer, page(1, 2, 3)) || !sameResource(end, page(1, 2, 3)) || !slices.Equal(asked, []impl.Address{next, home}) {
		t.Errorf("the answers became %v, %v and %v", answer, end, asked)
	}
}
