package tests

import (
	"math"
	"slices"
	"strconv"
	"testing"

	"loop.example/g03002/impl"
)

// Promise 12: every value from outside is one that a script can hold.

func visit(site []impl.Version, tick int, seed int, inputs ...int) impl.Visit {
	return impl.Visit{Site: site, Tick: tick, Seed: seed, Inputs: inputs}
}

// fetched returns the want of a fetch.
func fetched(a impl.Address) impl.Want {
	return impl.Want{Kind: impl.OpFetch, Address: a}
}

// asked returns a want without an address.
func asked(kind int) impl.Want {
	return impl.Want{Kind: kind}
}

// bodyOf returns a body of at most 6 numbers with a sum of at most 1530.
func bodyOf(sum int) []int {
	body := []int{}
	for sum > 0 {
		n := min(sum, 255)
		body = append(body, n)
		sum -= n
	}
	return body
}

type namedVisit struct {
	name string
	v    impl.Visit
}

func validVisits() []namedVisit {
	list := []namedVisit{
		{"the zero visit", impl.Visit{}},
		{"empty lists", impl.Visit{Site: versions(), Inputs: []int{}}},
		{"no inputs", visit(pagesFrom(0, 5), 4, 9)},
		{"all at its limit", visit(pagesFrom(0, 1, 2, 3, 4, 5, 6, 7, 8, 9, 10, 11), 1000, 9999, 999, 999, 999, 999, 999, 999, 999, 999)},
		{"equal inputs", visit(nil, 3, 3, 7, 7, 7)},
	}
	for _, tick := range []int{0, 1, 500, 999, 1000} {
		list = append(list, namedVisit{"the Tick " + strconv.Itoa(tick), visit(pagesFrom(0, 5), tick, 9, 2, 3)})
	}
	for _, seed := range []int{0, 1, 5000, 9998, 9999} {
		list = append(list, namedVisit{"the Seed " + strconv.Itoa(seed), visit(pagesFrom(0, 5), 4, seed, 2, 3)})
	}
	for n := range 9 {
		list = append(list, namedVisit{strconv.Itoa(n) + " inputs", visit(pagesFrom(0, 5), 4, 9, counted(20, n)...)})
	}
	for _, n := range []int{0, 1, 998, 999} {
		for at := range 8 {
			inputs := counted(30, 8)
			inputs[at] = n
			list = append(list, namedVisit{"the input " + strconv.Itoa(n), visit(nil, 4, 9, inputs...)})
		}
		list = append(list, namedVisit{"one input " + strconv.Itoa(n), visit(nil, 4, 9, n)})
	}
	for _, c := range validSites() {
		list = append(list, namedVisit{"a site: " + c.name, visit(c.l, 4, 9, 2, 3)})
	}
	return list
}

// badTicks and badSeeds are numbers that no Tick and no Seed can be; some have low bits that it could.
var (
	badTicks = []int{-1, -2, -1000, 1001, 1002, 2000, 1 << 32, 1<<32 + 4, -1 << 32, math.MinInt, math.MinInt + 1, math.MaxInt - 1, math.MaxInt}
	badSeeds = []int{-1, -2, -9999, 10000, 10001, 20000, 1 << 32, 1<<32 + 9, -1 << 32, math.MinInt, math.MinInt + 1, math.MaxInt - 1, math.MaxInt}
)

func invalidVisits() []namedVisit {
	list := []namedVisit{
		{"9 inputs", visit(nil, 4, 9, counted(0, 9)...)},
		{"1000 inputs", visit(nil, 4, 9, make([]int, 1000)...)},
		{"a Tick that could be a Seed and a Seed that could not be", visit(nil, 1001, 10000)},
	}
	for _, tick := range badTicks {
		list = append(list, namedVisit{"the Tick " + strconv.Itoa(tick), visit(pagesFrom(0), tick, 9, 2, 3)}, namedVisit{"only the Tick " + strconv.Itoa(tick), visit(nil, tick, 0)})
	}
	for _, seed := range badSeeds {
		list = append(list, namedVisit{"the Seed " + strconv.Itoa(seed), visit(pagesFrom(0), 4, seed, 2, 3)}, namedVisit{"only the Seed " + strconv.Itoa(seed), visit(nil, 0, seed)})
	}
	for _, n := range badNumbers {
		name := "the input " + strconv.Itoa(n)
		list = append(list,
			namedVisit{name, visit(pagesFrom(0), 4, 9, n)},
			namedVisit{name + " first", visit(pagesFrom(0), 4, 9, n, 2, 3, 4, 5, 6, 7, 8)},
			namedVisit{name + " between", visit(pagesFrom(0), 4, 9, 1, 2, n, 4)},
			namedVisit{name + " last", visit(pagesFrom(0), 4, 9, 1, 2, 3, 4, 5, 6, 7, n)})
	}
	for _, c := range invalidSites() {
		list = append(list, namedVisit{"a site: " + c.name, visit(c.l, 4, 9, 2, 3)})
	}
	return list
}

func allVisits() []namedVisit {
	return append(validVisits(), invalidVisits()...)
}

// wantedVisit tells whether a visit is valid, by the words of the document.
func wantedVisit(v impl.Visit) bool {
	valid := impl.IsSite(v.Site) && v.Tick >= 0 && v.Tick <= 1000 && v.Seed >= 0 && v.Seed <= 9999 && len(v.Inputs) <= 8
	for _, n := range v.Inputs {
		valid = valid && n >= 0 && n <= 999
	}
	return valid
}

// wantedNumber is the value of a resource by the words of the document.
func wantedNumber(r impl.Resource) int {
	if !impl.IsResource(r) || r.Kind > 2 {
		return 0
	}
	value := 0
	for _, n := range r.Body {
		value = (value + n) % 1000
	}
	if value < 999 {
		value++
	}
	return value
}

// wantedLive is the n-th value from outside by the words of the document.
func wantedLive(v impl.Visit, w impl.Want, n int) int {
	if !wantedVisit(v) || n < 0 || n > 100 {
		return 0
	}
	switch {
	case w.Kind == 1:
		r, _ := wantedFollow(v.Site, w.Address, v.Tick+n, nil)
		return wantedNumber(r)
	case w.Kind == 2:
		return min(999, v.Tick+n)
	case w.Kind == 3:
		return impl.Hash([]int{v.Seed, n}) % 1000
	case w.Kind == 4 && len(v.Inputs) > 0:
		return v.Inputs[n%len(v.Inputs)]
	}
	return 0
}

// wantedFrom are the addresses that a fetch asks, by the words of the document.
func wantedFrom(v impl.Visit, w impl.Want, n int) []impl.Address {
	if w.Kind != 1 || !wantedVisit(v) || n < 0 || n > 100 {
		return nil
	}
	_, l := wantedFollow(v.Site, w.Address, v.Tick+n, nil)
	return l
}

func wantIsVisit(t *testing.T, name string, v impl.Visit, want bool) {
	t.Helper()
	if got := impl.IsVisit(v); got != want {
		t.Errorf("%s: IsVisit(%v) = %v", name, v, got)
	}
}

func wantNumber(t *testing.T, name string, r impl.Resource, want int) {
	t.Helper()
	if got := impl.ValueOfResource(r); got != want {
		t.Errorf("%s: ValueOfResource(%v) = %d, want %d", name, r, got, want)
	}
}

func wantLive(t *testing.T, name string, v impl.Visit, w impl.Want, n int, want int) {
	t.Helper()
	if got := impl.LiveValue(v, w, n); got != want {
		t.Errorf("%s: LiveValue(%v, %v, %d) = %d, want %d", name, v, w, n, got, want)
	}
}

func wantFrom(t *testing.T, name string, v impl.Visit, w impl.Want, n int, want []impl.Address) {
	t.Helper()
	if got := impl.AddressesFrom(v, w, n); !slices.Equal(got, want) {
		t.Errorf("%s: AddressesFrom(%v, %v, %d) = %v, want %v", name, v, w, n, got, want)
	}
}

// wantOutside checks the value and the addresses against the words of the document, and that a script can hold the value.
func wantOutside(t *testing.T, name string, v impl.Visit, w impl.Want, n int) {
	t.Helper()
	wantLive(t, name, v, w, n, wantedLive(v, w, n))
	wantFrom(t, name, v, w, n, wantedFrom(v, w, n))
	if value := impl.LiveValue(v, w, n); value < 0 || value > 999 {
		t.Errorf("%s: LiveValue(%v, %v, %d) = %d", name, v, w, n, value)
	}
}

// someTurns are numbers of values, of which some are not in their range.
var someTurns = []int{0, 1, 2, 3, 4, 5, 7, 8, 9, 50, 99, 100, 101, 102, 1000, -1, -2, -100, 1 << 32, 1<<32 + 1, -1 << 32, math.MinInt, math.MinInt + 1, math.MaxInt - 1, math.MaxInt}

// kindsThatDoNotAsk are the kinds of the other steps, and numbers that are no kinds.
func kindsThatDoNotAsk() []int {
	return append([]int{5, 6, 7, 8, 9}, noOpKinds...)
}

// someWants are wants of every kind, and of numbers that are no kinds, with addresses and without.
func someWants() []impl.Want {
	list := []impl.Want{fetched(next), fetched(far), fetched(address(3, 0, 0)), fetched(address(10, 0, 0))}
	for _, kind := range append([]int{1, 2, 3, 4}, kindsThatDoNotAsk()...) {
		list = append(list, asked(kind), impl.Want{Kind: kind, Address: home})
	}
	return list
}

func TestConstantsOfVisits(t *testing.T) {
	if impl.MaxInputs != 8 {
		t.Error("MaxInputs is not that of the document")
	}
}

func TestIsVisit(t *testing.T) {
	for _, c := range validVisits() {
		wantIsVisit(t, c.name, c.v, true)
	}
}

func TestIsVisitRejects(t *testing.T) {
	for _, c := range invalidVisits() {
		wantIsVisit(t, c.name, c.v, false)
	}
}

func TestIsVisitOfEveryTick(t *testing.T) {
	for tick := -50; tick <= 1050; tick++ {
		wantIsVisit(t, "a Tick", visit(pagesFrom(0), tick, 9, 2), tick >= 0 && tick <= 1000)
	}
}

func TestIsVisitOfEverySeed(t *testing.T) {
	for seed := -50; seed <= 10050; seed++ {
		wantIsVisit(t, "a Seed", visit(nil, 4, seed, 2), seed >= 0 && seed <= 9999)
	}
}

func TestIsVisitOfEveryInput(t *testing.T) {
	for n := -50; n <= 1050; n++ {
		for at := range 8 {
			inputs := counted(40, 8)
			inputs[at] = n
			wantIsVisit(t, "an input", visit(nil, 4, 9, inputs...), n >= 0 && n <= 999)
			wantIsVisit(t, "a last input", visit(nil, 4, 9, inputs[:at+1]...), n >= 0 && n <= 999)
		}
	}
}

func TestIsVisitTakesInputsUpToTheLimit(t *testing.T) {
	for n := range 30 {
		wantIsVisit(t, "inputs", visit(nil, 4, 9, make([]int, n)...), n <= 8)
		wantIsVisit(t, "inputs of a longer list", visit(nil, 4, 9, make([]int, 30)[:n]...), n <= 8)
	}
}

func TestValueOfResource(t *testing.T) {
	cases := []struct {
		name string
		body []int
		want int
	}{
		{"no body", nil, 1},
		{"an empty body", []int{}, 1},
		{"a 0", []int{0}, 1},
		{"six times 0", []int{0, 0, 0, 0, 0, 0}, 1},
		{"a 1", []int{1}, 2},
		{"a 1 at the end", []int{0, 0, 0, 0, 0, 1}, 2},
		{"a 4", []int{4}, 5},
		{"a 255", []int{255}, 256},
		{"a sum", []int{1, 2, 3, 4, 5, 6}, 22},
		{"equal numbers", []int{7, 7, 7}, 22},
		{"a sum of 997", []int{255, 255, 255, 232}, 998},
		{"a sum of 998", []int{255, 255, 255, 233}, 999},
		{"a sum of 998 in six numbers", []int{200, 200, 200, 200, 100, 98}, 999},
		{"a sum of 999", []int{255, 255, 255, 234}, 999},
		{"a sum of 999 in six numbers", []int{200, 200, 200, 200, 100, 99}, 999},
		{"a sum of 1000", []int{255, 255, 255, 235}, 1},
		{"a sum of 1000 in five numbers", []int{200, 200, 200, 200, 200}, 1},
		{"a sum of 1001", []int{255, 255, 255, 236}, 2},
		{"a sum of 1020", []int{255, 255, 255, 255}, 21},
		{"the greatest sum", []int{255, 255, 255, 255, 255, 255}, 531},
	}
	for _, c := range cases {
		wantNumber(t, c.name, page(c.body...), c.want)
		wantNumber(t, c.name, data(c.body...), c.want)
		wantNumber(t, c.name, resource(impl.RsPage, c.body, impl.Address{}), c.want)
		wantNumber(t, c.name, resource(impl.RsMove, c.body, home), 0)
		wantNumber(t, c.name, resource(impl.RsNone, c.body, impl.Address{}), 0)
		wantNumber(t, c.name, resource(0, c.body, impl.Address{}), 0)
		wantNumber(t, c.name, resource(5, c.body, impl.Address{}), 0)
		wantNumber(t, c.name, resource(impl.RsData, c.body, home), 0)
	}
}

func TestValueOfResourceOfEverySum(t *testing.T) {
	for sum := range 1531 {
		want := sum%1000 + 1
		if sum == 999 {
			want = 999
		}
		wantNumber(t, "a sum", page(bodyOf(sum)...), want)
		wantNumber(t, "a sum", data(bodyOf(sum)...), want)
	}
}

func TestValueOfResourceRejects(t *testing.T) {
	for _, c := range invalidResources() {
		wantNumber(t, c.name, c.r, 0)
	}
	for _, body := range [][]int{{-1}, {256}, {-1, 2}, {5, 256}, {1, 2, 3, 4, 5, -1}, {0, 0, 0, 0, 0, 0, 0}, {math.MaxInt, 2}, {math.MinInt}} {
		wantNumber(t, "a page that is not valid", page(body...), 0)
		wantNumber(t, "data that is not valid", data(body...), 0)
	}
	wantNumber(t, "a page with an address", resource(impl.RsPage, []int{4}, home), 0)
	wantNumber(t, "a move with a body", resource(impl.RsMove, []int{4}, home), 0)
	wantNumber(t, "a move to nowhere", moveTo(impl.Address{}), 0)
	wantNumber(t, "an absence with a body", resource(impl.RsNone, []int{4}, impl.Address{}), 0)
	wantNumber(t, "an absence with an address", resource(impl.RsNone, nil, home), 0)
	wantNumber(t, "a move", moveTo(home), 0)
	wantNumber(t, "an absence", nothing(), 0)
	wantNumber(t, "the zero resource", impl.Resource{}, 0)
}

func TestValueOfResourceOfAnyResources(t *testing.T) {
	for _, c := range validResources() {
		wantNumber(t, c.text, c.r, wantedNumber(c.r))
	}
	for _, r := range mixedResources() {
		wantNumber(t, "a resource", r, wantedNumber(r))
	}
}

func TestExactlyContentsHaveAValue(t *testing.T) {
	for _, r := range mixedResources() {
		isContent := impl.IsResource(r) && (r.Kind == impl.RsPage || r.Kind == impl.RsData)
		value := impl.ValueOfResource(r)
		if isContent != (value > 0) || value < 0 || value > 999 {
			t.Errorf("ValueOfResource(%v) = %d", r, value)
		}
	}
}

// fork is a site where home is a page that changes at 5, data at 10 and gone at 15, and other addresses move.
func fork() []impl.Version {
	return versions(
		version(home, 1, page(4)), version(home, 5, page(6)), version(home, 10, data(200, 200)), version(home, 15, nothing()),
		version(next, 0, moveTo(home)), version(far, 0, moveTo(next)), version(far, 7, moveTo(far)),
		version(address(2, 1, 1), 0, moveTo(address(2, 1, 2))), version(address(2, 1, 2), 0, moveTo(address(2, 1, 1))),
		version(address(2, 2, 0), 0, moveTo(address(9, 9, 9))),
	)
}

func TestLiveValueOfAFetch(t *testing.T) {
	none := []impl.Address{}
	cases := []struct {
		name string
		tick int
		a    impl.Address
		n    int
		want int
		l    []impl.Address
	}{
		{"before there is an answer", 0, home, 0, 0, []impl.Address{home}},
		{"an answer that begins at Tick + n", 0, home, 1, 5, []impl.Address{home}},
		{"an answer that begins at Tick", 1, home, 0, 5, []impl.Address{home}},
		{"a page", 3, home, 0, 5, []impl.Address{home}},
		{"just before it changes", 3, home, 1, 5, []impl.Address{home}},
		{"a change at Tick + n", 3, home, 2, 7, []impl.Address{home}},
		{"a change at Tick", 5, home, 0, 7, []impl.Address{home}},
		{"another page", 4, home, 5, 7, []impl.Address{home}},
		{"data at Tick + n", 4, home, 6, 401, []impl.Address{home}},
		{"the last data", 4, home, 10, 401, []impl.Address{home}},
		{"an absence from Tick + n on", 4, home, 11, 0, []impl.Address{home}},
		{"an absence at the Tick 15", 15, home, 0, 0, []impl.Address{home}},
		{"an absence", 4, home, 100, 0, []impl.Address{home}},
		{"one move", 4, next, 0, 5, []impl.Address{next, home}},
		{"one move to a page that changes", 4, next, 1, 7, []impl.Address{next, home}},
		{"one move to an absence", 15, next, 0, 0, []impl.Address{next, home}},
		{"one move before there is an answer", 0, next, 0, 0, []impl.Address{next, home}},
		{"two moves", 4, far, 0, 5, []impl.Address{far, next, home}},
		{"two moves to a page that changes", 4, far, 2, 7, []impl.Address{far, next, home}},
		{"a move to itself from Tick + n on", 4, far, 3, 0, []impl.Address{far}},
		{"a move to itself", 10, far, 0, 0, []impl.Address{far}},
		{"moves in a circle", 4, address(2, 1, 1), 0, 0, []impl.Address{address(2, 1, 1), address(2, 1, 2)}},
		{"moves in the circle from its other end", 4, address(2, 1, 2), 100, 0, []impl.Address{address(2, 1, 2), address(2, 1, 1)}},
		{"a move to an address without versions", 4, address(2, 2, 0), 0, 0, []impl.Address{address(2, 2, 0), address(9, 9, 9)}},
		{"an address without versions", 4, address(9, 9, 9), 0, 0, []impl.Address{address(9, 9, 9)}},
		{"another Query", 4, address(1, 0, 1), 0, 0, []impl.Address{address(1, 0, 1)}},
		{"the zero address", 4, impl.Address{}, 0, 0, []impl.Address{{}}},
		{"an address with the Host 10", 4, address(10, 0, 0), 0, 0, []impl.Address{address(10, 0, 0)}},
		{"an address with the Path -1", 4, address(1, -1, 0), 3, 0, []impl.Address{address(1, -1, 0)}},
		{"the value number -1", 4, home, -1, 0, none},
		{"the value number 101", 4, next, 101, 0, none},
		{"the least number", 4, next, math.MinInt, 0, none},
		{"the greatest number", 4, next, math.MaxInt, 0, none},
	}
	for _, c := range cases {
		v := visit(fork(), c.tick, 9, 2, 3)
		wantLive(t, c.name, v, fetched(c.a), c.n, c.want)
		wantFrom(t, c.name, v, fetched(c.a), c.n, c.l)
	}
}

func TestLiveValueOfAFetchBeyondTheLastTick(t *testing.T) {
	l := versions(version(home, 0, page(1)), version(home, 999, page(2)), version(home, 1000, page(3)), version(next, 1000, moveTo(home)))
	cases := []struct {
		tick, n, want, wantNext int
	}{
		{998, 0, 2, 0}, {998, 1, 3, 0}, {999, 0, 3, 0}, {998, 2, 4, 4}, {999, 1, 4, 4}, {1000, 0, 4, 4}, {999, 2, 4, 4}, {1000, 1, 4, 4}, {1000, 100, 4, 4}, {900, 99, 3, 0}, {900, 100, 4, 4}, {901, 100, 4, 4}, {1000, 101, 0, 0}, {1000, -1, 0, 0},
	}
	for _, c := range cases {
		wantLive(t, "a fetch", visit(l, c.tick, 9), fetched(home), c.n, c.want)
		wantLive(t, "a fetch of a move", visit(l, c.tick, 9), fetched(next), c.n, c.wantNext)
	}
}

func TestLiveValueOfAFetchFollowsFourMoves(t *testing.T) {
	for moves := range 9 {
		end := version(address(3, moves, 0), 0, page(6))
		v := visit(append(chain(moves), end), 4, 9)
		want := 7
		if moves > 4 {
			want = 0
		}
		name := strconv.Itoa(moves) + " moves"
		wantLive(t, name, v, fetched(address(3, 0, 0)), 2, want)
		wantFrom(t, name, v, fetched(address(3, 0, 0)), 2, pathsOf(3, min(moves, 4)+1))
	}
}

func TestLiveValueOfAClock(t *testing.T) {
	cases := []struct {
		tick, n, want int
	}{
		{0, 0, 0}, {0, 1, 1}, {0, 100, 100}, {4, 3, 7}, {1, 0, 1}, {500, 50, 550},
		{998, 0, 998}, {997, 1, 998}, {898, 100, 998},
		{999, 0, 999}, {998, 1, 999}, {899, 100, 999},
		{1000, 0, 999}, {999, 1, 999}, {998, 2, 999}, {900, 100, 999},
		{1000, 1, 999}, {1000, 100, 999}, {901, 100, 999}, {950, 99, 999},
		{4, -1, 0}, {4, 101, 0}, {1000, -1, 0}, {1000, 101, 0}, {4, math.MinInt, 0}, {4, math.MaxInt, 0},
	}
	for _, c := range cases {
		for _, w := range []impl.Want{asked(impl.OpClock), {Kind: impl.OpClock, Address: home}, {Kind: impl.OpClock, Address: address(-1, 0, 0)}} {
			wantLive(t, "a clock", visit(fork(), c.tick, 9, 2, 3), w, c.n, c.want)
			wantLive(t, "a clock without anything else", visit(nil, c.tick, 0), w, c.n, c.want)
		}
	}
	for tick := range 1001 {
		for n := range 101 {
			wantLive(t, "a clock", visit(nil, tick, 0), asked(impl.OpClock), n, min(999, tick+n))
		}
	}
}

func TestLiveValueOfARandomNumber(t *testing.T) {
	cases := []struct {
		seed int
		want []int
	}{
		{0, []int{217, 218, 219, 220, 316, 317}},
		{1, []int{220, 221, 222, 223, 319, 320}},
		{9, []int{244, 245, 246, 247, 343, 344}},
		{77, []int{448, 449, 450, 451, 547, 548}},
		{9999, []int{626, 627, 628, 629, 725, 726}},
		{-1, make([]int, 6)},
		{10000, make([]int, 6)},
	}
	for _, c := range cases {
		for i, n := range []int{0, 1, 2, 3, 99, 100} {
			for _, a := range []impl.Address{{}, home, address(10, 0, 0)} {
				w := impl.Want{Kind: impl.OpRandom, Address: a}
				wantLive(t, "a random number", visit(fork(), 4, c.seed, 2, 3), w, n, c.want[i])
				wantLive(t, "a random number at another tick", visit(nil, 1000, c.seed), w, n, c.want[i])
			}
		}
		for _, n := range []int{-1, 101, math.MinInt, math.MaxInt} {
			wantLive(t, "a random number", visit(fork(), 4, c.seed, 2, 3), asked(impl.OpRandom), n, 0)
		}
	}
}

func TestLiveValueOfEverySeed(t *testing.T) {
	for seed := range 10000 {
		for _, n := range []int{0, 1, 50, 100} {
			wantLive(t, "a random number", visit(nil, 4, seed), asked(impl.OpRandom), n, impl.Mod(impl.Hash([]int{seed, n}), 1000))
		}
	}
}

func TestLiveValueOfAnInput(t *testing.T) {
	cases := []struct {
		name   string
		inputs []int
		n      int
		want   int
	}{
		{"nil", nil, 0, 0},
		{"nil, another number", nil, 7, 0},
		{"empty", []int{}, 0, 0},
		{"empty, the last number", []int{}, 100, 0},
		{"one input", []int{7}, 0, 7},
		{"one input again", []int{7}, 1, 7},
		{"one input for the last time", []int{7}, 100, 7},
		{"one input of 0", []int{0}, 3, 0},
		{"one input of 999", []int{999}, 3, 999},
		{"the first one of three", []int{7, 8, 9}, 0, 7},
		{"the second one of three", []int{7, 8, 9}, 1, 8},
		{"the last one of three", []int{7, 8, 9}, 2, 9},
		{"at their number", []int{7, 8, 9}, 3, 7},
		{"above their number", []int{7, 8, 9}, 4, 8},
		{"the last one again", []int{7, 8, 9}, 5, 9},
		{"at twice their number", []int{7, 8, 9}, 6, 7},
		{"the last number of three", []int{7, 8, 9}, 100, 8},
		{"the last one of eight", []int{1, 2, 3, 4, 5, 6, 7, 8}, 7, 8},
		{"the first one of eight again", []int{1, 2, 3, 4, 5, 6, 7, 8}, 8, 1},
		{"the last number of eight", []int{1, 2, 3, 4, 5, 6, 7, 8}, 100, 5},
		{"nine inputs", []int{1, 2, 3, 4, 5, 6, 7, 8, 9}, 0, 0},
		{"an input of 1000", []int{7, 1000}, 0, 0},
		{"an input of -1", []int{-1, 7}, 1, 0},
		{"the number -1", []int{7, 8, 9}, -1, 0},
		{"the number 101", []int{7, 8, 9}, 101, 0},
		{"the number -1 without inputs", nil, -1, 0},
		{"the number 101 without inputs", nil, 101, 0},
		{"the least number", []int{7, 8, 9}, math.MinInt, 0},
		{"the greatest number", []int{7, 8, 9}, math.MaxInt, 0},
	}
	for _, c := range cases {
		for _, a := range []impl.Address{{}, home, address(10, 0, 0)} {
			w := impl.Want{Kind: impl.OpInput, Address: a}
			wantLive(t, c.name, visit(fork(), 4, 9, c.inputs...), w, c.n, c.want)
			wantLive(t, c.name, impl.Visit{Tick: 1000, Inputs: c.inputs}, w, c.n, c.want)
		}
	}
}

func TestInputsComeInTurn(t *testing.T) {
	for count := 1; count <= 8; count++ {
		inputs := counted(500, count)
		for n := range 101 {
			wantLive(t, strconv.Itoa(count)+" inputs", visit(nil, 4, 9, inputs...), asked(impl.OpInput), n, 500+n%count)
		}
	}
}

func TestLiveValueOfOtherKinds(t *testing.T) {
	v := visit(fork(), 4, 9, 2, 3)
	for _, kind := range kindsThatDoNotAsk() {
		for _, a := range []impl.Address{{}, home, next, address(10, 0, 0)} {
			for _, n := range []int{0, 1, 4, 100, 101, -1} {
				w := impl.Want{Kind: kind, Address: a}
				wantLive(t, "a kind that does not ask", v, w, n, 0)
				wantFrom(t, "a kind that does not ask", v, w, n, nil)
			}
		}
	}
}

func TestOnlyFetchesAskAddresses(t *testing.T) {
	v := visit(fork(), 4, 9, 2, 3)
	for _, w := range someWants() {
		l := impl.AddressesFrom(v, w, 0)
		if (len(l) > 0) != (w.Kind == impl.OpFetch) || len(l) > 0 && l[0] != w.Address {
			t.Errorf("AddressesFrom of %v = %v", w, l)
		}
	}
}

func TestValuesOfEveryTurn(t *testing.T) {
	v := visit(fork(), 4, 9, 2, 3, 4)
	for n := -20; n <= 120; n++ {
		for _, w := range someWants() {
			wantOutside(t, "a visit", v, w, n)
		}
	}
}

func TestValuesOfVisitsThatAreNotValid(t *testing.T) {
	for _, c := range invalidVisits() {
		for _, w := range someWants() {
			for _, n := range []int{0, 1, 100, 101, -1} {
				wantLive(t, c.name, c.v, w, n, 0)
				wantFrom(t, c.name, c.v, w, n, nil)
			}
		}
	}
}

func TestEveryValueFromOutsideIsOneThatAScriptCanHold(t *testing.T) {
	for _, c := range validVisits() {
		for _, w := range someWants() {
			for _, n := range someTurns {
				wantOutside(t, c.name, c.v, w, n)
			}
		}
	}
}

func TestEveryAnswerHasAValueThatAScriptCanHold(t *testing.T) {
	for sum := range 1531 {
		v := visit(versions(version(home, 0, page(bodyOf(sum)...)), version(next, 0, moveTo(home))), 4, 9)
		for _, a := range []impl.Address{home, next} {
			wantOutside(t, "an answer", v, fetched(a), sum%101)
		}
	}
}

// TestValuesAreTakenAsTheyAre gives values to the machine, which would change one that it cannot hold.
func TestValuesAreTakenAsTheyAre(t *testing.T) {
	for _, c := range validVisits() {
		for _, o := range script(op(1, 0, 1, 0), op(2, 0, 0, 0), op(3, 0, 0, 0), op(4, 0, 0, 0)) {
			l, s := script(o), impl.StartState()
			for n := range 101 {
				value := impl.LiveValue(c.v, impl.WantOf(l, s), n)
				if next := impl.StepState(l, s, value); next.Regs[0] != value || !impl.IsState(next) {
					t.Fatalf("%s: the step %v takes %d as %v", c.name, o, value, next)
				}
			}
		}
	}
}

// roomyVisit returns a copy of v with spare capacity, and a function that tells whether all of its memory is as it was.
func roomyVisit(v impl.Visit) (impl.Visit, func() bool) {
	site, isSiteAsItWas := roomyVersions(v.Site)
	inputs, allInputs := roomyInts(v.Inputs)
	was := slices.Clone(allInputs)
	return impl.Visit{Site: site, Tick: v.Tick, Seed: v.Seed, Inputs: inputs}, func() bool {
		return isSiteAsItWas() && slices.Equal(allInputs, was)
	}
}

// visitsOfMoves are visits of sites where fetches ask several addresses.
func visitsOfMoves() []namedVisit {
	list := []namedVisit{{"a fork", visit(fork(), 4, 9, 2, 3)}}
	for _, c := range manyTimed() {
		list = append(list, namedVisit{c.name, visit(c.l, 4, 9, 2, 3)})
	}
	return list
}

func TestVisitsLeaveTheirArguments(t *testing.T) {
	for _, c := range append(allVisits(), visitsOfMoves()...) {
		v, isAsItWas := roomyVisit(c.v)
		impl.IsVisit(v)
		for _, w := range someWants() {
			for _, n := range []int{0, 1, 100, 101} {
				impl.LiveValue(v, w, n)
				overwriteAddresses(impl.AddressesFrom(v, w, n))
			}
		}
		if !isAsItWas() {
			t.Fatalf("%s: an argument was changed, or a result shares its memory", c.name)
		}
	}
}

func TestValueOfResourceLeavesItsArgument(t *testing.T) {
	for _, r := range mixedResources() {
		body, whole := roomyInts(r.Body)
		was := slices.Clone(whole)
		impl.ValueOfResource(resource(r.Kind, body, r.To))
		if !slices.Equal(whole, was) {
			t.Fatalf("ValueOfResource(%v) changed its argument", r)
		}
	}
}

func TestAddressesFromShareNoMemory(t *testing.T) {
	for _, c := range visitsOfMoves() {
		for _, w := range someWants() {
			first := impl.AddressesFrom(c.v, w, 1)
			overwriteAddresses(impl.AddressesFrom(c.v, w, 1))
			if !slices.Equal(first, wantedFrom(c.v, w, 1)) {
				t.Fatalf("%s: two results share memory", c.name)
			}
		}
	}
}

func TestAddressesStayWhenAVisitChanges(t *testing.T) {
	v := visit(fork(), 4, 9, 2, 3)
	l := impl.AddressesFrom(v, fetched(far), 0)
	for i := range v.Site {
		v.Site[i].Address = address(8, 8, 8)
		v.Site[i].Resource.To = address(8, 8, 8)
	}
	if !slices.Equal(l, []impl.Address{far, next, home}) {
		t.Errorf("the addresses became %v", l)
	}
}

// TestValuesDependOnTheirArgumentsOnly asks for the same values in another order.
func TestValuesDependOnTheirArgumentsOnly(t *testing.T) {
	v := visit(fork(), 4, 9, 2, 3, 4)
	for _, w := range someWants() {
		for n := 100; n >= 0; n-- {
			first, second := impl.LiveValue(v, w, n), impl.LiveValue(v, w, n)
			if first != second || first != wantedLive(v, w, n) {
				t.Fatalf("LiveValue(%v, %d) = %d, and then %d", w, n, first, second)
			}
		}
	}
}
