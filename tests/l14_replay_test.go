package tests

import (
	"math"
	"slices"
	"strconv"
	"testing"

	"loop.example/g03002/impl"
)

// Promise 14: a replay shows at every step what the visit showed.

// wantedPlay replays by the words of the document, and returns the code, its number and all states.
func wantedPlay(l []impl.Op, list []impl.Entry) (int, int, []impl.State) {
	s := zeroState(0)
	states := []impl.State{s}
	if !runnable(l, impl.Visit{}) || !wantedEntries(list) {
		return 2, 0, states
	}
	n := 0
	for s.Pc < len(l) {
		value := 0
		if l[s.Pc].Kind <= 4 {
			w := wantedWant(l, s)
			if n == len(list) {
				return 2, n, states
			}
			if list[n].Kind != w.Kind || list[n].Address != w.Address {
				return 1, n, states
			}
			value = list[n].Value
			n++
		}
		s = wantedStep(l, s, value)
		states = append(states, s)
	}
	if n < len(list) {
		return 1, n, states
	}
	return 0, 0, states
}

// wantedFaithful tells whether a visit is replayed as it was, by the words of the document.
func wantedFaithful(l []impl.Op, v impl.Visit) bool {
	list, states := wantedRun(l, v)
	code, _, replayed := wantedPlay(l, list)
	return code == 0 && slices.EqualFunc(replayed, states, sameState)
}

// wantPlayed checks the result of a replay, and that its trace leads from the start to its state.
func wantPlayed(t *testing.T, name string, l []impl.Op, list []impl.Entry, code int, at int, states []impl.State) {
	t.Helper()
	last := states[len(states)-1]
	if got := impl.Replay(l, list); got.Code != code || got.At != at || !sameState(got.State, last) {
		t.Errorf("%s: Replay(%v, %v) = %v, want %d, %d, %v", name, l, list, got, code, at, last)
	}
	if got := impl.TraceReplay(l, list); !slices.EqualFunc(got, states, sameState) {
		t.Errorf("%s: TraceReplay(%v, %v) = %v, want %v", name, l, list, got, states)
	}
}

// wantPlay checks a replay against the words of the document.
func wantPlay(t *testing.T, name string, l []impl.Op, list []impl.Entry) {
	t.Helper()
	code, at, states := wantedPlay(l, list)
	wantPlayed(t, name, l, list, code, at, states)
}

// wantNoPlay checks the fallback of a script or of entries that are not valid.
func wantNoPlay(t *testing.T, name string, l []impl.Op, list []impl.Entry) {
	t.Helper()
	wantPlayed(t, name, l, list, impl.RpShort, 0, []impl.State{zeroState(0)})
}

func wantFaithful(t *testing.T, name string, l []impl.Op, v impl.Visit, want bool) {
	t.Helper()
	if got := impl.IsFaithful(l, v); got != want || want != wantedFaithful(l, v) {
		t.Errorf("%s: IsFaithful(%v, %v) = %v, want %v", name, l, v, got, want)
	}
}

// onlyRegisters returns a state with registers, and with only zeros in the slots and the nodes.
func onlyRegisters(pc int, regs ...int) impl.State {
	return state(pc, regs, []int{0, 0, 0}, []int{0, 0, 0, 0})
}

// withEntry returns a copy of a list with another entry at a place.
func withEntry(list []impl.Entry, at int, e impl.Entry) []impl.Entry {
	l := slices.Clone(list)
	l[at] = e
	return l
}

// endsAndMiddle are the first, a middle and the last place of a list.
func endsAndMiddle(list []impl.Entry) []int {
	if len(list) == 0 {
		return nil
	}
	return slices.Compact([]int{0, len(list) / 2, len(list) - 1})
}

// fullEntry returns a valid entry of a kind that asks.
func fullEntry(kind int, value int) impl.Entry {
	if kind == impl.OpFetch {
		return entry(kind, address(7, 7, 7), value)
	}
	return plain(kind, value)
}

// otherAddresses differ from a in one number, or have its numbers exchanged; some of them are not valid.
func otherAddresses(a impl.Address) []impl.Address {
	list := []impl.Address{{}, address(a.Path, a.Host, a.Query), address(a.Host, a.Query, a.Path), address(a.Query, a.Path, a.Host)}
	for _, d := range []int{-1, 1, -2, 2, 10, 1 << 32, math.MinInt} {
		list = append(list, address(a.Host+d, a.Path, a.Query), address(a.Host, a.Path+d, a.Query), address(a.Host, a.Path, a.Query+d))
	}
	return slices.DeleteFunc(list, func(b impl.Address) bool { return a == b })
}

type namedEntries struct {
	name string
	l    []impl.Entry
}

// cutEntries are all lists that remain if some of the first or of the last entries are cut off, or one between them.
func cutEntries(list []impl.Entry) []namedEntries {
	all := []namedEntries{{"nil", nil}}
	for n := range len(list) {
		name := strconv.Itoa(n)
		all = append(all,
			namedEntries{"only the first " + name, slices.Clone(list[:n])},
			namedEntries{"behind the first " + name, slices.Clone(list[n:])},
			namedEntries{"without the entry " + name, slices.Delete(slices.Clone(list), n, n+1)})
	}
	return all
}

// longEntries have an entry more than list at each place, also so many that they are not valid.
func longEntries(list []impl.Entry) []namedEntries {
	all := []namedEntries{{"twice the same", slices.Concat(list, list)}}
	for n := range len(list) + 1 {
		for kind := 1; kind <= 4; kind++ {
			name := "one more of " + impl.OpName(kind) + " at " + strconv.Itoa(n)
			all = append(all, namedEntries{name, slices.Insert(slices.Clone(list), n, fullEntry(kind, 6))})
		}
	}
	for n := range len(list) {
		all = append(all, namedEntries{"twice the entry " + strconv.Itoa(n), slices.Insert(slices.Clone(list), n, list[n])})
	}
	return all
}

// otherEntries differ from list in one entry, or in the order.
func otherEntries(list []impl.Entry) []namedEntries {
	all := []namedEntries{}
	for _, at := range endsAndMiddle(list) {
		e, place := list[at], " at "+strconv.Itoa(at)
		for kind := -1; kind <= 10; kind++ {
			all = append(all,
				namedEntries{"only the Kind " + strconv.Itoa(kind) + place, withEntry(list, at, entry(kind, e.Address, e.Value))},
				namedEntries{"the Kind " + strconv.Itoa(kind) + place, withEntry(list, at, fullEntry(kind, e.Value))})
		}
		for _, a := range otherAddresses(e.Address) {
			all = append(all, namedEntries{"the address " + impl.AddressText(a) + place, withEntry(list, at, entry(e.Kind, a, e.Value))})
		}
		for _, n := range []int{0, 1, 2, 3, 500, 998, 999, -1, 1000, e.Value + 1} {
			all = append(all, namedEntries{"the Value " + strconv.Itoa(n) + place, withEntry(list, at, entry(e.Kind, e.Address, n))})
		}
		l := slices.Clone(list)
		l[0], l[at] = l[at], l[0]
		all = append(all, namedEntries{"exchanged with the first one" + place, l})
	}
	reversed := slices.Clone(list)
	slices.Reverse(reversed)
	return append(all, namedEntries{"the other way", reversed})
}

// playedEntries are a list, and lists that differ from it.
func playedEntries(list []impl.Entry) []namedEntries {
	return slices.Concat([]namedEntries{{"as it was", list}}, cutEntries(list), longEntries(list), otherEntries(list))
}

// brokenEntries are lists that are not valid, whatever a script asks for.
func brokenEntries() []namedEntries {
	list := []namedEntries{
		{"the zero entry", entries(impl.Entry{})},
		{"the zero entry behind a clock", entries(plain(2, 3), impl.Entry{})},
		{"the Kind 5", entries(plain(5, 0))},
		{"the Kind 9", entries(plain(9, 0))},
		{"the Kind -1", entries(plain(-1, 0))},
		{"a fetch of no address", entries(plain(1, 5))},
		{"a fetch of the Host 10", entries(entry(1, address(10, 0, 0), 5))},
		{"a fetch with the Query 100", entries(entry(1, address(1, 0, 100), 5))},
		{"a clock with an address", entries(entry(2, home, 3))},
		{"an input with an address behind a clock", entries(plain(2, 3), entry(4, home, 7))},
		{"the Value -1", entries(plain(2, -1))},
		{"the Value 1000", entries(plain(2, 1000))},
		{"the greatest Value behind a clock", entries(plain(2, 3), plain(4, math.MaxInt))},
		{"17 clocks", slices.Repeat(entries(plain(2, 3)), 17)},
		{"17 fetches", slices.Repeat(entries(entry(1, home, 5)), 17)},
		{"40 entries", plainEntries(40)},
	}
	for _, n := range badNumbers {
		list = append(list, namedEntries{"the Value " + strconv.Itoa(n), entries(entry(1, home, n))})
	}
	return list
}

func TestConstantsOfReplay(t *testing.T) {
	if impl.RpSame != 0 || impl.RpLeft != 1 || impl.RpShort != 2 {
		t.Error("the codes are not those of the document")
	}
}

func TestReplay(t *testing.T) {
	fetch, clock, random, input := askingOps()[0], askingOps()[1], askingOps()[2], askingOps()[3]
	cases := []struct {
		name string
		l    []impl.Op
		list []impl.Entry
		code int
		at   int
		last impl.State
	}{
		{"nothing at all", nil, nil, 0, 0, zeroState(0)},
		{"empty lists", script(), entries(), 0, 0, zeroState(0)},
		{"a step that asks nothing", script(op(6, 0, 0, 0)), nil, 0, 0, zeroState(1)},
		{"a skip beyond the end", script(op(7, 0, 3, 0)), nil, 0, 0, zeroState(4)},
		{"a fetch", script(fetch), entries(entry(1, home, 5)), 0, 0, onlyRegisters(1, 5, 0, 0, 0)},
		{"a clock", script(clock), entries(plain(2, 3)), 0, 0, onlyRegisters(1, 0, 3, 0, 0)},
		{"a random number", script(random), entries(plain(3, 244)), 0, 0, onlyRegisters(1, 0, 0, 244, 0)},
		{"an input", script(input), entries(plain(4, 7)), 0, 0, onlyRegisters(1, 0, 0, 0, 7)},
		{"one of each kind", askingOps(), entries(entry(1, home, 5), plain(2, 4), plain(3, 246), plain(4, 7)), 0, 0, onlyRegisters(4, 5, 4, 246, 7)},
		{"values that no visit has", script(clock, input), entries(plain(2, 0), plain(4, 999)), 0, 0, onlyRegisters(2, 0, 0, 0, 999)},
		{"a fetch that asks with a value", script(op(4, 1, 0, 0), op(1, 1, 1, 1)), entries(plain(4, 107), entry(1, address(1, 1, 7), 9)), 0, 0, onlyRegisters(2, 0, 9, 0, 0)},
		{"a fetch that asks with another value", script(op(4, 1, 0, 0), op(1, 1, 1, 1)), entries(plain(4, 108), entry(1, address(1, 1, 7), 9)), 1, 1, onlyRegisters(1, 0, 108, 0, 0)},
		{"no entry for an ask", script(clock), nil, 2, 0, zeroState(0)},
		{"no entry for the second ask", script(clock, input), entries(plain(2, 3)), 2, 1, onlyRegisters(1, 0, 3, 0, 0)},
		{"no entry behind other steps", script(clock, op(9, 1, 2, 0), op(8, 0, 2, 0), input), entries(plain(2, 3)), 2, 1, state(3, []int{3, 3, 0, 0}, []int{0, 0, 3}, []int{0, 0, 0, 0})},
		{"an entry that nobody asked for", nil, entries(plain(2, 3)), 1, 0, zeroState(0)},
		{"two entries that nobody asked for", nil, entries(plain(2, 3), plain(2, 3)), 1, 0, zeroState(0)},
		{"an entry left over by other steps", script(op(6, 0, 0, 0), op(6, 0, 0, 0)), entries(entry(1, home, 5)), 1, 0, zeroState(2)},
		{"an entry left over", script(clock), entries(plain(2, 3), plain(2, 4)), 1, 1, onlyRegisters(1, 0, 3, 0, 0)},
		{"three entries left over", script(clock), entries(plain(2, 3), plain(2, 4), plain(3, 5), plain(4, 6)), 1, 1, onlyRegisters(1, 0, 3, 0, 0)},
		{"another kind", script(clock), entries(plain(3, 3)), 1, 0, zeroState(0)},
		{"another kind behind an ask", script(clock, input), entries(plain(2, 3), plain(2, 4)), 1, 1, onlyRegisters(1, 0, 3, 0, 0)},
		{"another kind where one is missing", script(clock, input), entries(plain(4, 7)), 1, 0, zeroState(0)},
		{"another kind where one is missing between", script(clock, input, random), entries(plain(2, 3), plain(3, 5)), 1, 1, onlyRegisters(1, 0, 3, 0, 0)},
		{"the same kind where one is missing", script(clock, clock), entries(plain(2, 4)), 2, 1, onlyRegisters(1, 0, 4, 0, 0)},
		{"another kind, and more left over", script(clock), entries(plain(4, 7), plain(2, 3)), 1, 0, zeroState(0)},
		{"another Host", script(fetch), entries(entry(1, far, 5)), 1, 0, zeroState(0)},
		{"another Path", script(fetch), entries(entry(1, address(1, 1, 0), 5)), 1, 0, zeroState(0)},
		{"another Query", script(fetch), entries(entry(1, address(1, 0, 1), 5)), 1, 0, zeroState(0)},
		{"another Query behind a put", script(op(6, 0, 0, 0), fetch), entries(entry(1, address(1, 0, 1), 5)), 1, 0, zeroState(1)},
		{"an ask that is left out", script(op(7, 0, 1, 0), clock), nil, 0, 0, zeroState(2)},
		{"an entry for an ask that is left out", script(op(7, 0, 1, 0), clock), entries(plain(2, 3)), 1, 0, zeroState(2)},
		{"an ask behind a skip of an odd value", script(input, op(7, 3, 1, 0), clock), entries(plain(4, 7), plain(2, 3)), 0, 0, onlyRegisters(3, 0, 3, 0, 7)},
		{"an ask that a value leaves out", script(input, op(7, 3, 1, 0), clock), entries(plain(4, 8), plain(2, 3)), 1, 1, onlyRegisters(3, 0, 0, 0, 8)},
		{"an ask that a value leaves out, and no entry", script(input, op(7, 3, 1, 0), clock), entries(plain(4, 8)), 0, 0, onlyRegisters(3, 0, 0, 0, 8)},
		{"an ask that a value does not leave out", script(input, op(7, 3, 1, 0), clock), entries(plain(4, 7)), 2, 1, onlyRegisters(2, 0, 0, 0, 7)},
		{"an ask that a value leaves out ahead of another kind", script(input, op(7, 3, 1, 0), clock, random), entries(plain(4, 8), plain(2, 3), plain(3, 5)), 1, 1, onlyRegisters(3, 0, 0, 0, 8)},
		{"an ask that a value leaves out ahead of the same kind", script(input, op(7, 3, 1, 0), clock, clock), entries(plain(4, 8), plain(2, 3), plain(2, 4)), 1, 2, onlyRegisters(4, 0, 3, 0, 8)},
		{"the last asks that a value leaves out", script(input, op(7, 3, 3, 0), clock, random), entries(plain(4, 0), plain(2, 3), plain(3, 5)), 1, 1, onlyRegisters(5, 0, 0, 0, 0)},
		{"entries that are not valid", script(clock), entries(plain(9, 3)), 2, 0, zeroState(0)},
		{"a later entry that is not valid", script(clock), entries(plain(2, 3), plain(2, 1000)), 2, 0, zeroState(0)},
		{"a script that is not valid", script(clock, impl.Op{}), entries(plain(2, 3)), 2, 0, zeroState(0)},
	}
	for _, c := range cases {
		got := impl.Replay(c.l, c.list)
		if got.Code != c.code || got.At != c.at || !sameState(got.State, c.last) {
			t.Errorf("%s: Replay = %v, want %d, %d, %v", c.name, got, c.code, c.at, c.last)
		}
		wantPlay(t, c.name, c.l, c.list)
	}
}

func TestTraceReplay(t *testing.T) {
	input, skip, clock := op(4, 0, 0, 0), op(7, 0, 1, 0), op(2, 1, 0, 0)
	start := zeroState(0)
	cases := []struct {
		name string
		l    []impl.Op
		list []impl.Entry
		want []impl.State
	}{
		{"nothing at all", nil, nil, []impl.State{start}},
		{"an entry that nobody asked for", nil, entries(plain(2, 3)), []impl.State{start}},
		{"a step that changes nothing", script(op(6, 0, 0, 0)), nil, []impl.State{start, zeroState(1)}},
		{"an entry left over", script(op(6, 0, 0, 0)), entries(plain(2, 3)), []impl.State{start, zeroState(1)}},
		{"an ask", script(clock), entries(plain(2, 3)), []impl.State{start, onlyRegisters(1, 0, 3, 0, 0)}},
		{"no entry", script(clock), nil, []impl.State{start}},
		{"another kind", script(clock), entries(plain(3, 3)), []impl.State{start}},
		{"no second entry", script(clock, input), entries(plain(2, 3)), []impl.State{start, onlyRegisters(1, 0, 3, 0, 0)}},
		{"two asks", script(clock, input), entries(plain(2, 3), plain(4, 7)), []impl.State{start, onlyRegisters(1, 0, 3, 0, 0), onlyRegisters(2, 7, 3, 0, 0)}},
		{"an ask that is not left out", script(input, skip, clock), entries(plain(4, 7), plain(2, 3)), []impl.State{start, onlyRegisters(1, 7, 0, 0, 0), onlyRegisters(2, 7, 0, 0, 0), onlyRegisters(3, 7, 3, 0, 0)}},
		{"an ask that is left out", script(input, skip, clock), entries(plain(4, 8), plain(2, 3)), []impl.State{start, onlyRegisters(1, 8, 0, 0, 0), onlyRegisters(3, 8, 0, 0, 0)}},
		{"a put that stays", script(input, op(6, 0, 1, 0), clock), entries(plain(4, 7)), []impl.State{start, onlyRegisters(1, 7, 0, 0, 0), state(2, []int{7, 0, 0, 0}, []int{0, 0, 0}, []int{0, 7, 0, 0})}},
		{"a script that is not valid", script(clock, impl.Op{}), entries(plain(2, 3)), []impl.State{start}},
		{"entries that are not valid", script(clock), entries(plain(2, 1000)), []impl.State{start}},
		{"17 steps", clocks(17), slices.Repeat(entries(plain(2, 3)), 16), []impl.State{start}},
	}
	for _, c := range cases {
		if got := impl.TraceReplay(c.l, c.list); !slices.EqualFunc(got, c.want, sameState) {
			t.Errorf("%s: TraceReplay = %v, want %v", c.name, got, c.want)
		}
		wantPlay(t, c.name, c.l, c.list)
	}
}

// wantSame checks that the recording of a visit is replayed as the visit was, state by state.
func wantSame(t *testing.T, name string, l []impl.Op, v impl.Visit) {
	t.Helper()
	list, last := impl.RecordVisit(l, v)
	wantPlayed(t, name, l, list, impl.RpSame, 0, impl.TraceVisit(l, v))
	if got := impl.Replay(l, list); !impl.EqualStates(got.State, last) || !impl.IsState(got.State) || !impl.IsDone(l, got.State) {
		t.Errorf("%s: Replay = %v, and the last state of the visit is %v", name, got, last)
	}
	wantFaithful(t, name, l, v, true)
}

func TestReplaysOfRecordings(t *testing.T) {
	for _, c := range append(validScripts(), runScripts()...) {
		for _, v := range validVisits() {
			wantSame(t, c.name+" with "+v.name, c.l, v.v)
		}
	}
}

func TestReplaysOfMixedScripts(t *testing.T) {
	ops := validOps()
	for first := 0; first < len(ops); first += 5 {
		for step := 1; step < len(ops); step += 11 {
			l := script()
			for n := range 16 {
				l = append(l, ops[(first+n*step)%len(ops)])
			}
			v := visit(fork(), first%20, step, first, step, 4)
			wantSame(t, "a mixed script", l, v)
			list, _ := impl.RecordVisit(l, v)
			for _, d := range playedEntries(list) {
				wantPlay(t, "a mixed script, "+d.name, l, d.l)
			}
		}
	}
}

// TestReplaysOfSitesThatAreGone replays what was recorded, although the same visit would now see something else.
func TestReplaysOfSitesThatAreGone(t *testing.T) {
	v := lively()
	l := slices.Repeat(askingOps(), 4)
	list, states := wantedRun(l, v)
	for i := range v.Site {
		v.Site[i].Resource = data(77)
	}
	v.Inputs[0] = 55
	if now, _ := impl.RecordVisit(l, v); slices.Equal(now, list) {
		t.Fatal("the visit sees what it saw before")
	}
	wantPlayed(t, "a site that is gone", l, list, impl.RpSame, 0, states)
}

func TestReplaysWithMaxOpsAsks(t *testing.T) {
	for _, o := range askingOps() {
		name := "16 times " + impl.OpName(o.Kind)
		l := slices.Repeat(script(o), 16)
		list, states := wantedRun(l, lively())
		if len(list) != 16 || len(states) != 17 {
			t.Fatalf("%s: %d entries and %d states", name, len(list), len(states))
		}
		wantPlayed(t, name, l, list, impl.RpSame, 0, states)
		wantPlayed(t, name+" without the last entry", l, list[:15], impl.RpShort, 15, states[:16])
		wantNoPlay(t, name+" with one entry more", l, append(slices.Clone(list), list[15]))
		wantPlayed(t, name+" with one step less", l[:15], list, impl.RpLeft, 15, states[:16])
		wantNoPlay(t, name+" with one step more", append(slices.Clone(l), o), list)
	}
}

func TestReplaysOfEntriesThatAreCutOff(t *testing.T) {
	for _, c := range append(askingScripts(), skippedScripts()...) {
		list, states := wantedRun(c.l, lively())
		for n := range list {
			// The state at the want n is the one ahead of the step that gets the value n.
			reached, used := 0, 0
			for used < n || !impl.Asks(impl.WantOf(c.l, states[reached]).Kind) {
				if impl.Asks(impl.WantOf(c.l, states[reached]).Kind) {
					used++
				}
				reached++
			}
			wantPlayed(t, c.name+" with only "+strconv.Itoa(n), c.l, list[:n], impl.RpShort, n, states[:reached+1])
			// Another kind at the place n is refused in the same state.
			other := fullEntry(list[n].Kind%4+1, list[n].Value)
			wantPlayed(t, c.name+" with another kind at "+strconv.Itoa(n), c.l, withEntry(list, n, other), impl.RpLeft, n, states[:reached+1])
		}
		for _, d := range cutEntries(list) {
			wantPlay(t, c.name+", "+d.name, c.l, d.l)
		}
	}
}

// TestReplaysWithoutTheFirstEntry has asks of one kind, whose values move up, so that it is the last entry that is missing.
func TestReplaysWithoutTheFirstEntry(t *testing.T) {
	for n := 1; n <= 16; n++ {
		list := entries()
		for i := range n {
			list = append(list, plain(impl.OpClock, 100+i))
		}
		got := impl.Replay(clocks(n), list[1:])
		want := onlyRegisters(n-1, 0, 0, 0, 0)
		if n > 1 {
			want.Regs[1] = 100 + n - 1
		}
		if got.Code != impl.RpShort || got.At != n-1 || !sameState(got.State, want) {
			t.Errorf("%d clocks without the first entry: Replay = %v, want the state %v", n, got, want)
		}
	}
}

func TestReplaysOfEntriesThatAreLeftOver(t *testing.T) {
	for _, c := range runScripts() {
		list, states := wantedRun(c.l, lively())
		for kind := 1; kind <= 4; kind++ {
			for more := 1; more <= 17; more++ {
				long := append(slices.Clone(list), slices.Repeat(entries(fullEntry(kind, 6)), more)...)
				name := c.name + " with " + strconv.Itoa(more) + " more of " + impl.OpName(kind)
				if len(long) > 16 {
					wantNoPlay(t, name, c.l, long)
					continue
				}
				wantPlayed(t, name, c.l, long, impl.RpLeft, len(list), states)
			}
		}
	}
}

func TestReplaysOfEntriesOfAnotherKind(t *testing.T) {
	for _, o := range askingOps() {
		for n := 1; n <= 16; n++ {
			l := slices.Repeat(script(o), n)
			list, states := wantedRun(l, lively())
			for _, at := range endsAndMiddle(list) {
				for kind := 1; kind <= 4; kind++ {
					name := impl.OpName(kind) + " instead of " + impl.OpName(o.Kind)
					if kind != o.Kind {
						wantPlayed(t, name, l, withEntry(list, at, fullEntry(kind, 3)), impl.RpLeft, at, states[:at+1])
					}
				}
				for _, kind := range kindsThatDoNotAsk() {
					wantNoPlay(t, "the Kind "+strconv.Itoa(kind), l, withEntry(list, at, entry(kind, list[at].Address, 3)))
				}
			}
		}
	}
}

func TestReplaysOfEntriesWithAnotherAddress(t *testing.T) {
	// The fetches leave the register 0 as it is, so that each of them asks the same.
	for n := 1; n <= 16; n++ {
		l := slices.Repeat(script(op(impl.OpFetch, 0, 5, 50)), n)
		list := entries()
		states := []impl.State{zeroState(0)}
		for i := range n {
			list = append(list, entry(impl.OpFetch, address(5, 50, 0), 0))
			states = append(states, zeroState(i+1))
		}
		wantPlayed(t, "equal fetches", l, list, impl.RpSame, 0, states)
		for _, at := range endsAndMiddle(list) {
			for _, a := range otherAddresses(address(5, 50, 0)) {
				other := withEntry(list, at, entry(impl.OpFetch, a, 0))
				if !impl.IsAddress(a) {
					wantNoPlay(t, "an address that is not valid", l, other)
					continue
				}
				wantPlayed(t, "the address "+impl.AddressText(a), l, other, impl.RpLeft, at, states[:at+1])
			}
		}
	}
}

func TestReplaysOfEveryAddress(t *testing.T) {
	l := script(op(impl.OpInput, 2, 0, 0), op(impl.OpFetch, 2, 3, 4))
	for query := range 100 {
		for _, wanted := range []int{0, 1, 7, 98, 99} {
			list := entries(plain(impl.OpInput, 900+wanted), entry(impl.OpFetch, address(3, 4, query), 8))
			got := impl.Replay(l, list)
			if query == wanted {
				wantPlay(t, "the same Query", l, list)
			} else if got.Code != impl.RpLeft || got.At != 1 || !sameState(got.State, onlyRegisters(1, 0, 0, 900+wanted, 0)) {
				t.Errorf("the Query %d instead of %d: Replay = %v", query, wanted, got)
			}
		}
	}
}

func TestAWrongAddressOfAnotherKindIsNotValid(t *testing.T) {
	for _, o := range askingOps()[1:] {
		l := slices.Repeat(script(o), 3)
		list, _ := wantedRun(l, lively())
		for at := range list {
			for _, a := range addressesThatAreNotZero() {
				wantNoPlay(t, impl.OpName(o.Kind)+" with an address", l, withEntry(list, at, entry(o.Kind, a, 3)))
			}
		}
	}
}

func TestReplaysUseEveryValueAsItIs(t *testing.T) {
	for _, o := range askingOps() {
		for n := range 1000 {
			e := entry(o.Kind, impl.Address{}, n)
			if o.Kind == impl.OpFetch {
				e.Address = home
			}
			want := zeroState(1)
			want.Regs[o.A] = n
			wantPlayed(t, "another Value of "+impl.OpName(o.Kind), script(o), entries(e), impl.RpSame, 0, []impl.State{zeroState(0), want})
		}
		for _, n := range badNumbers {
			wantNoPlay(t, "a Value that is not valid", script(o), entries(entry(o.Kind, wantedWant(script(o), zeroState(0)).Address, n)))
		}
	}
}

// TestReplaysOfEntriesWithAnotherValue puts each value into a register of its own, so that a changed one is seen in just one place.
func TestReplaysOfEntriesWithAnotherValue(t *testing.T) {
	l := script(op(impl.OpInput, 0, 0, 0), op(impl.OpClock, 1, 0, 0), op(impl.OpRandom, 2, 0, 0), op(impl.OpInput, 3, 0, 0))
	list := entries(plain(4, 11), plain(2, 12), plain(3, 13), plain(4, 14))
	for at := range list {
		for _, n := range []int{0, 1, 10, 500, 998, 999} {
			regs := []int{11, 12, 13, 14}
			regs[at] = n
			got := impl.Replay(l, withEntry(list, at, plain(list[at].Kind, n)))
			if got.Code != impl.RpSame || got.At != 0 || !sameState(got.State, onlyRegisters(4, regs...)) {
				t.Errorf("the Value %d at %d: Replay = %v", n, at, got)
			}
		}
	}
}

func TestReplaysOfStepsThatAChangedValueSkips(t *testing.T) {
	for b := 1; b <= 3; b++ {
		l := script(op(impl.OpInput, 0, 0, 0), op(impl.OpSkip, 0, b, 0), op(impl.OpClock, 1, 0, 0), op(impl.OpClock, 2, 0, 0), op(impl.OpClock, 3, 0, 0))
		odd := entries(plain(4, 7), plain(2, 21), plain(2, 22), plain(2, 23))
		even := withEntry(odd, 0, plain(4, 8))
		wantPlayed(t, "an odd value", l, odd, impl.RpSame, 0, []impl.State{zeroState(0), onlyRegisters(1, 7, 0, 0, 0), onlyRegisters(2, 7, 0, 0, 0), onlyRegisters(3, 7, 21, 0, 0), onlyRegisters(4, 7, 21, 22, 0), onlyRegisters(5, 7, 21, 22, 23)})
		name := "an even value and a skip of " + strconv.Itoa(b)
		// The clocks that are left get the first recorded times, and the last b entries are left over.
		got := impl.Replay(l, even)
		if got.Code != impl.RpLeft || got.At != 4-b || got.State.Pc != 5 || len(impl.TraceReplay(l, even)) != 6-b {
			t.Errorf("%s: Replay = %v", name, got)
		}
		same := impl.Replay(l, even[:4-b])
		if same.Code != impl.RpSame || same.At != 0 || same.State.Pc != 5 {
			t.Errorf("%s, and no entry more than is used: Replay = %v", name, same)
		}
		short := impl.Replay(l, odd[:4-b])
		if short.Code != impl.RpShort || short.At != 4-b || short.State.Pc != 5-b {
			t.Errorf("an odd value, and as many entries as for an even one: Replay = %v", short)
		}
		for _, list := range [][]impl.Entry{odd, even} {
			for _, d := range playedEntries(list) {
				wantPlay(t, name+", "+d.name, l, d.l)
			}
		}
	}
}

func TestReplaysOfChangedRecordings(t *testing.T) {
	for _, c := range append(validScripts(), runScripts()...) {
		for _, v := range []impl.Visit{{}, lively(), visit(fork(), 999, 9999, 0, 999)} {
			list, _ := impl.RecordVisit(c.l, v)
			for _, d := range playedEntries(list) {
				wantPlay(t, c.name+", "+d.name, c.l, d.l)
			}
		}
	}
}

// TestReplaysOfOtherRecordings replays each script from the recordings of all others.
func TestReplaysOfOtherRecordings(t *testing.T) {
	list := append(runScripts(), brokenScripts()...)
	for _, c := range list {
		recorded, _ := impl.RecordVisit(c.l, lively())
		for _, d := range list {
			wantPlay(t, d.name+" from "+c.name, d.l, recorded)
		}
	}
}

// TestReplaysOfAllShortScripts has every script and every list of entries of up to three, from a few of each.
func TestReplaysOfAllShortScripts(t *testing.T) {
	ops := script(op(impl.OpFetch, 0, 1, 0), op(impl.OpClock, 1, 0, 0), op(impl.OpInput, 0, 0, 0), op(impl.OpSkip, 0, 1, 0), op(impl.OpKeep, 0, 0, 0))
	kept := entries(entry(1, home, 1), entry(1, address(1, 0, 1), 2), plain(2, 1), plain(4, 1), plain(4, 2))
	scripts, lists := [][]impl.Op{nil}, [][]impl.Entry{nil}
	for at := 0; len(scripts[at]) < 3; at++ {
		for _, o := range ops {
			scripts = append(scripts, append(slices.Clone(scripts[at]), o))
		}
	}
	for at := 0; len(lists[at]) < 3; at++ {
		for _, e := range kept {
			lists = append(lists, append(slices.Clone(lists[at]), e))
		}
	}
	for _, l := range scripts {
		for _, list := range lists {
			wantPlay(t, "a short script", l, list)
		}
	}
}

func TestReplaysOfScriptsThatAreNotValid(t *testing.T) {
	lists := append(brokenEntries(),
		namedEntries{"no entries", nil},
		namedEntries{"a clock", entries(plain(2, 3))},
		namedEntries{"a fetch", entries(entry(1, home, 5))},
		namedEntries{"16 clocks", slices.Repeat(entries(plain(2, 3)), 16)})
	for _, c := range append(invalidScripts(), brokenScripts()...) {
		for _, d := range lists {
			wantNoPlay(t, c.name+", "+d.name, c.l, d.l)
		}
	}
}

func TestReplaysOfEntriesThatAreNotValid(t *testing.T) {
	for _, c := range slices.Concat(validScripts(), runScripts(), brokenScripts()) {
		for _, d := range brokenEntries() {
			wantNoPlay(t, c.name+", "+d.name, c.l, d.l)
		}
		// An entry that is not valid counts also where the replay would not come to it.
		list, _ := impl.RecordVisit(c.l, lively())
		wantNoPlay(t, c.name+", and an entry that is not valid", c.l, append(list, plain(impl.OpAdd, 3)))
		wantNoPlay(t, c.name+" from an entry of another kind, and one that is not valid", c.l, entries(fullEntry(4, 0), plain(2, -1)))
	}
}

func TestATraceOfAReplayLeadsToItsState(t *testing.T) {
	for _, c := range slices.Concat(runScripts(), brokenScripts(), validScripts()) {
		recorded, _ := impl.RecordVisit(c.l, lively())
		for _, d := range playedEntries(recorded) {
			got, l := impl.Replay(c.l, d.l), impl.TraceReplay(c.l, d.l)
			if len(l) == 0 || len(l) > 17 || !sameState(l[0], zeroState(0)) || !sameState(l[len(l)-1], got.State) {
				t.Fatalf("%s, %s: TraceReplay = %v, and the State of Replay is %v", c.name, d.name, l, got.State)
			}
			used := 0
			for i := 1; i < len(l); i++ {
				value := 0
				if w := impl.WantOf(c.l, l[i-1]); impl.Asks(w.Kind) {
					value = d.l[used].Value
					used++
				}
				wantStep(t, c.name, c.l, l[i-1], value, l[i])
			}
			if got.Code == impl.RpSame && used != len(d.l) || got.Code != impl.RpSame && used != got.At {
				t.Errorf("%s, %s: %d entries are on the trace, and Replay = %v", c.name, d.name, used, got)
			}
		}
	}
}

func TestIsFaithful(t *testing.T) {
	v := lively()
	wantFaithful(t, "nothing at all", nil, impl.Visit{}, true)
	wantFaithful(t, "one of each kind", askingOps(), v, true)
	wantFaithful(t, "16 asks", slices.Repeat(askingOps(), 4), v, true)
	wantFaithful(t, "17 asks", clocks(17), v, false)
	wantFaithful(t, "the zero step", script(impl.Op{}), v, false)
	wantFaithful(t, "an ask of no visit", clocks(1), visit(nil, -1, 9), false)
	wantFaithful(t, "a step of no visit that asks nothing", script(op(6, 0, 0, 0)), visit(nil, -1, 9), false)
	wantFaithful(t, "an ask of no visit that is left out", script(op(7, 0, 1, 0), op(2, 0, 0, 0)), visit(nil, -1, 9), false)
	// Without a step, nothing is recorded of no visit, and nothing is missing.
	wantFaithful(t, "no step of no visit", nil, visit(nil, -1, 9), true)
	wantFaithful(t, "an empty script of no visit", script(), visit(nil, 4, 10000), true)
	wantFaithful(t, "the zero step of no visit", script(impl.Op{}), visit(nil, -1, 9), false)
}

func TestIsFaithfulOfScriptsThatAreNotValid(t *testing.T) {
	for _, c := range append(invalidScripts(), brokenScripts()...) {
		for _, v := range []impl.Visit{{}, lively(), visit(nil, 1001, 9), visit(nil, 4, 10000)} {
			wantFaithful(t, c.name, c.l, v, false)
		}
	}
}

func TestIsFaithfulOfVisitsThatAreNotValid(t *testing.T) {
	scripts := slices.Concat(silentScripts(), skippedScripts(), askingScripts()[:9])
	for _, v := range invalidVisits() {
		for _, c := range scripts {
			wantFaithful(t, c.name+" with "+v.name, c.l, v.v, len(c.l) == 0)
		}
	}
}

func TestPlayName(t *testing.T) {
	names := map[int]string{0: "same", 1: "left", 2: "short"}
	codes := append([]int{3, 4, -1, -2, -3, 256, 1 << 32, 1<<32 + 1, -1 << 32, math.MinInt, math.MinInt + 1, math.MaxInt - 1, math.MaxInt}, counted(-50, 101)...)
	for _, code := range codes {
		if got := impl.PlayName(code); got != names[code] {
			t.Errorf("PlayName(%d) = %q, want %q", code, got, names[code])
		}
	}
}

// TestReplaysDependOnTheirArgumentsOnly makes other replays in between, also at the same time.
func TestReplaysDependOnTheirArgumentsOnly(t *testing.T) {
	done := make(chan bool)
	list := append(runScripts(), brokenScripts()...)
	for i := range 8 {
		go func() {
			same := true
			for n := range list {
				l := list[(n*(2*i+1))%len(list)].l
				recorded, _ := wantedRun(l, lively())
				code, at, states := wantedPlay(l, recorded)
				got, trace := impl.Replay(l, recorded), impl.TraceReplay(l, recorded)
				same = same && got.Code == code && got.At == at && sameState(got.State, states[len(states)-1])
				same = same && slices.EqualFunc(trace, states, sameState) && impl.IsFaithful(l, lively()) == wantedFaithful(l, lively())
			}
			done <- same
		}()
	}
	for range 8 {
		if !<-done {
			t.Error("a replay depends on another one")
		}
	}
}

// roomyEntries returns a copy of l with spare memory behind it, and all of this memory.
func roomyEntries(l []impl.Entry) ([]impl.Entry, []impl.Entry) {
	whole := append(slices.Clone(l), slices.Repeat(entries(plain(-7, -7)), 24)...)
	return whole[:len(l)], whole
}

func TestReplaysLeaveTheirArguments(t *testing.T) {
	for _, c := range slices.Concat(runScripts(), brokenScripts(), validScripts()) {
		recorded, _ := impl.RecordVisit(c.l, lively())
		for _, d := range append(playedEntries(recorded), brokenEntries()...) {
			l, ops := roomyOps(c.l)
			list, whole := roomyEntries(d.l)
			wasOps, was := slices.Clone(ops), slices.Clone(whole)
			overwriteStates(impl.TraceReplay(l, list))
			overwriteState(impl.Replay(l, list).State)
			if !slices.Equal(ops, wasOps) || !slices.Equal(whole, was) {
				t.Fatalf("%s, %s: an argument was changed, or a result shares its memory", c.name, d.name)
			}
		}
	}
}

func TestIsFaithfulLeavesItsArguments(t *testing.T) {
	for _, c := range slices.Concat(runScripts(), brokenScripts(), validScripts()) {
		for _, given := range []impl.Visit{{}, lively(), visit(fork(), 1001, 9, 2, 3)} {
			l, ops := roomyOps(c.l)
			was := slices.Clone(ops)
			v, isAsItWas := roomyVisit(given)
			impl.IsFaithful(l, v)
			if !isAsItWas() || !slices.Equal(ops, was) {
				t.Fatalf("%s: an argument was changed", c.name)
			}
		}
	}
}

// TestReplaysSeeNoSpareMemory has what would fit behind the end of its arguments.
func TestReplaysSeeNoSpareMemory(t *testing.T) {
	l, list := clocks(16), slices.Repeat(entries(plain(impl.OpClock, 3)), 16)
	for n := range 16 {
		for m := range 16 {
			wantPlay(t, "a part of longer lists", l[:n], list[:m])
		}
	}
}

func TestReplaysShareNoMemory(t *testing.T) {
	for _, c := range slices.Concat(runScripts(), brokenScripts(), validScripts()) {
		recorded, _ := impl.RecordVisit(c.l, lively())
		for _, d := range append(playedEntries(recorded), brokenEntries()[0]) {
			_, _, states := wantedPlay(c.l, d.l)
			got, trace := impl.Replay(c.l, d.l), impl.TraceReplay(c.l, d.l)

			overwriteState(impl.Replay(c.l, d.l).State)
			overwriteStates(impl.TraceReplay(c.l, d.l))
			overwriteState(impl.StartState())
			if !sameState(got.State, states[len(states)-1]) || !slices.EqualFunc(trace, states, sameState) {
				t.Fatalf("%s, %s: two results share memory", c.name, d.name)
			}
			overwriteState(got.State)
			if !slices.EqualFunc(trace, states, sameState) {
				t.Fatalf("%s, %s: the State shares memory with the trace", c.name, d.name)
			}
		}
	}
}

func TestStatesOfATraceOfAReplayShareNoMemory(t *testing.T) {
	for _, c := range append(runScripts(), brokenScripts()...) {
		recorded, _ := impl.RecordVisit(c.l, lively())
		for _, list := range [][]impl.Entry{recorded, recorded[:len(recorded)/2]} {
			_, _, states := wantedPlay(c.l, list)
			for at := range states {
				trace := impl.TraceReplay(c.l, list)
				overwriteState(trace[at])
				for i, s := range trace {
					if i != at && !sameState(s, states[i]) {
						t.Fatalf("%s: the states %d and %d share memory", c.name, i, at)
					}
				}
			}
		}
	}
}

// TestListsOfAReplayedStateGrowApart writes behind each list of a state, where another list may not stand.
func TestListsOfAReplayedStateGrowApart(t *testing.T) {
	recorded, _ := impl.RecordVisit(askingOps(), lively())
	_, _, states := wantedPlay(askingOps(), recorded)
	last := impl.Replay(askingOps(), recorded).State
	for at, s := range append(impl.TraceReplay(askingOps(), recorded), last) {
		for i := range lists {
			_ = append(*listOf(&s, i), 77, 77, 77, 77)
		}
		if want := states[min(at, len(states)-1)]; !sameState(s, want) {
			t.Errorf("the state %d became %v", at, s)
		}
	}
}

func TestReplaysStayWhenTheirArgumentsChange(t *testing.T) {
	l := slices.Repeat(askingOps(), 2)
	list, states := wantedRun(l, lively())
	got, trace := impl.Replay(l, list), impl.TraceReplay(l, list)
	for i := range l {
		l[i] = op(-7, -7, -7, -7)
	}
	overwriteEntries(list)
	if !sameState(got.State, states[len(states)-1]) || !slices.EqualFunc(trace, states, sameState) {
		t.Errorf("the replay became %v and %v", got, trace)
	}
}
