package tests

import (
	"math"
	"slices"
	"strconv"
	"testing"

	"loop.example/g03002/impl"
)

// Promise 13: a recording has every value that was asked for.

func entry(kind int, a impl.Address, value int) impl.Entry {
	return impl.Entry{Kind: kind, Address: a, Value: value}
}

// plain returns an entry without an address.
func plain(kind int, value int) impl.Entry {
	return impl.Entry{Kind: kind, Value: value}
}

func entries(l ...impl.Entry) []impl.Entry {
	return l
}

// plainEntries returns n valid entries that all differ.
func plainEntries(n int) []impl.Entry {
	l := entries()
	for i := range n {
		l = append(l, plain(2+i%3, 100+i))
	}
	return l
}

// runnable tells whether there is something to run, by the words of the document.
func runnable(l []impl.Op, v impl.Visit) bool {
	valid := len(l) <= 16 && wantedVisit(v)
	for _, o := range l {
		valid = valid && wantedOp(o)
	}
	return valid
}

// wantedRun runs a script by the words of the document, and returns its entries and all states.
func wantedRun(l []impl.Op, v impl.Visit) ([]impl.Entry, []impl.State) {
	list, s := entries(), zeroState(0)
	states := []impl.State{s}
	if !runnable(l, v) {
		return list, states
	}
	for s.Pc < len(l) {
		value := 0
		if l[s.Pc].Kind <= 4 {
			w := wantedWant(l, s)
			value = wantedLive(v, w, len(list))
			list = append(list, entry(w.Kind, w.Address, value))
		}
		s = wantedStep(l, s, value)
		states = append(states, s)
	}
	return list, states
}

// wantedEntries tells whether entries are valid, by the words of the document.
func wantedEntries(l []impl.Entry) bool {
	valid := len(l) <= 16
	for _, e := range l {
		valid = valid && e.Kind >= 1 && e.Kind <= 4 && e.Value >= 0 && e.Value <= 999
		if e.Kind == 1 {
			valid = valid && e.Address.Host >= 1 && e.Address.Host <= 9 && e.Address.Path >= 0 && e.Address.Path <= 99 && e.Address.Query >= 0 && e.Address.Query <= 99
		} else {
			valid = valid && e.Address.Host == 0 && e.Address.Path == 0 && e.Address.Query == 0
		}
	}
	return valid
}

func wantRecord(t *testing.T, name string, l []impl.Op, v impl.Visit, want []impl.Entry, last impl.State) {
	t.Helper()
	if got, s := impl.RecordVisit(l, v); !slices.Equal(got, want) || !sameState(s, last) {
		t.Errorf("%s: RecordVisit(%v, %v) = %v, %v, want %v, %v", name, l, v, got, s, want, last)
	}
}

func wantTrace(t *testing.T, name string, l []impl.Op, v impl.Visit, want []impl.State) {
	t.Helper()
	if got := impl.TraceVisit(l, v); !slices.EqualFunc(got, want, sameState) {
		t.Errorf("%s: TraceVisit(%v, %v) = %v, want %v", name, l, v, got, want)
	}
}

// wantRun checks the recording and the trace against the words of the document, and that entries and states are valid.
func wantRun(t *testing.T, name string, l []impl.Op, v impl.Visit) {
	t.Helper()
	want, states := wantedRun(l, v)
	wantRecord(t, name, l, v, want, states[len(states)-1])
	wantTrace(t, name, l, v, states)
	got, last := impl.RecordVisit(l, v)
	if !impl.AreEntries(got) || !impl.IsState(last) || runnable(l, v) != (impl.IsScript(l) && impl.IsVisit(v)) {
		t.Errorf("%s: the recording %v, %v of %v is not valid", name, got, last, l)
	}
}

// wantNothing checks the fallback of a script or a visit that is not valid.
func wantNothing(t *testing.T, name string, l []impl.Op, v impl.Visit) {
	t.Helper()
	wantRecord(t, name, l, v, nil, zeroState(0))
	wantTrace(t, name, l, v, []impl.State{zeroState(0)})
}

func wantAreEntries(t *testing.T, name string, l []impl.Entry, want bool) {
	t.Helper()
	if got := impl.AreEntries(l); got != want || want != wantedEntries(l) {
		t.Errorf("%s: AreEntries(%v) = %v, want %v", name, l, got, want)
	}
}

func wantEntryText(t *testing.T, e impl.Entry, want string) {
	t.Helper()
	if got := impl.EntryText(e); got != want {
		t.Errorf("EntryText(%v) = %q, want %q", e, got, want)
	}
}

func wantEqualEntries(t *testing.T, name string, a []impl.Entry, b []impl.Entry, want bool) {
	t.Helper()
	if impl.EqualEntries(a, b) != want || impl.EqualEntries(b, a) != want {
		t.Errorf("%s: EqualEntries(%v, %v) is not %v in both orders", name, a, b, want)
	}
}

// lively is a visit in which everything changes from one value to the next.
func lively() impl.Visit {
	return visit(fork(), 3, 9, 7, 8, 9)
}

// askingOps are steps that ask, one of each kind, which fetch home if they fetch.
func askingOps() []impl.Op {
	return script(op(impl.OpFetch, 0, 1, 0), op(impl.OpClock, 1, 0, 0), op(impl.OpRandom, 2, 0, 0), op(impl.OpInput, 3, 0, 0))
}

// silentScripts ask nothing.
func silentScripts() []namedScript {
	steps := script(op(impl.OpAdd, 1, 2, 3), op(impl.OpPut, 0, 3, 0), op(impl.OpSkip, 0, 1, 0), op(impl.OpGet, 0, 2, 0), op(impl.OpKeep, 3, 0, 0))
	list := []namedScript{
		{"nil", nil},
		{"empty", script()},
		{"each kind that does not ask", steps},
		{"16 steps that do not ask", slices.Repeat(steps[:1], 16)},
		{"16 skips", slices.Repeat(script(op(impl.OpSkip, 3, 3, 0)), 16)},
	}
	for _, o := range steps {
		list = append(list, namedScript{"only " + impl.OpName(o.Kind), script(o)})
	}
	return list
}

// skippedScripts have asks that are never reached, as all registers are even.
func skippedScripts() []namedScript {
	list := []namedScript{}
	for b := 1; b <= 3; b++ {
		skip := op(impl.OpSkip, 0, b, 0)
		for _, o := range askingOps() {
			name := "a skip of " + strconv.Itoa(b) + " and " + impl.OpName(o.Kind)
			list = append(list,
				namedScript{name, script(skip, o)},
				namedScript{name + " three times", script(skip, o, o, o)},
				namedScript{name + " four times", script(skip, o, o, o, o)},
				namedScript{name + " behind an ask", script(op(impl.OpFetch, 1, 9, 9), skip, o, o, op(impl.OpClock, 2, 0, 0))})
		}
	}
	return list
}

// askingScripts ask once, up to MaxOps times, and in several orders of the kinds.
func askingScripts() []namedScript {
	all := askingOps()
	list := []namedScript{
		{"16 asks in turn", slices.Repeat(all, 4)},
		{"16 asks in turn, the other way", slices.Repeat(script(all[3], all[2], all[1], all[0]), 4)},
		{"a fetch by what was fetched", script(op(impl.OpFetch, 0, 1, 0), op(impl.OpFetch, 0, 1, 1), op(impl.OpFetch, 0, 2, 0))},
		{"a fetch by what was entered", script(op(impl.OpInput, 1, 0, 0), op(impl.OpFetch, 1, 1, 0), op(impl.OpPut, 1, 2, 0))},
		{"asks with other steps between", script(all[0], op(impl.OpPut, 0, 0, 0), all[3], op(impl.OpAdd, 1, 0, 3), op(impl.OpKeep, 1, 2, 0), all[2], op(impl.OpGet, 3, 2, 0), all[1])},
		{"a skip by what was entered", script(op(impl.OpInput, 0, 0, 0), op(impl.OpSkip, 0, 1, 0), all[1], op(impl.OpInput, 0, 0, 0), op(impl.OpSkip, 0, 1, 0), all[2], all[1])},
		{"the steps of every kind", everyKind()},
	}
	for i, o := range all {
		name := impl.OpName(o.Kind)
		other := all[(i+1)%4]
		list = append(list,
			namedScript{"only " + name, script(o)},
			namedScript{"2 times " + name, script(o, o)},
			namedScript{"15 times " + name, slices.Repeat(script(o), 15)},
			namedScript{"16 times " + name, slices.Repeat(script(o), 16)},
			namedScript{name + " as the last of 16", append(slices.Repeat(script(op(impl.OpPut, 0, 0, 0)), 15), o)},
			namedScript{name + " as the first of 16", append(script(o), slices.Repeat(script(op(impl.OpPut, 0, 0, 0)), 15)...)},
			namedScript{name + " behind 15 others", append(slices.Repeat(script(other), 15), o)},
			namedScript{name + " ahead of 15 others", append(script(o), slices.Repeat(script(other), 15)...)})
	}
	return list
}

// runScripts are valid scripts of each sort that a recording knows.
func runScripts() []namedScript {
	return slices.Concat(silentScripts(), skippedScripts(), askingScripts())
}

// brokenScripts are not valid, and most of them ask.
func brokenScripts() []namedScript {
	list := []namedScript{
		{"the zero step", script(impl.Op{})},
		{"the zero step behind an ask", script(op(impl.OpClock, 0, 0, 0), impl.Op{})},
		{"17 steps in turn", append(slices.Repeat(askingOps(), 4), op(impl.OpClock, 0, 0, 0))},
		{"a fetch with the Host 0", script(op(impl.OpFetch, 0, 0, 0))},
		{"a fetch with the Path 100", script(op(impl.OpFetch, 0, 1, 100))},
		{"a bad step that would be skipped", script(op(impl.OpSkip, 0, 1, 0), op(impl.OpClock, 4, 0, 0))},
	}
	for _, o := range askingOps() {
		name := impl.OpName(o.Kind)
		list = append(list,
			namedScript{"17 times " + name, slices.Repeat(script(o), 17)},
			namedScript{name + " ahead of a bad step", script(o, op(impl.OpPut, 0, 4, 0))})
	}
	return list
}

func TestRecordVisit(t *testing.T) {
	v := lively()
	cases := []struct {
		name  string
		l     []impl.Op
		texts []string
		last  impl.State
	}{
		{"nil", nil, nil, zeroState(0)},
		{"a put alone", script(op(6, 0, 0, 0)), nil, zeroState(1)},
		{"a skip beyond the end", script(op(7, 0, 3, 0)), nil, zeroState(4)},
		{"a fetch", script(op(1, 0, 1, 0)), []string{"fetch 1/0=5"}, state(1, []int{5, 0, 0, 0}, []int{0, 0, 0}, []int{0, 0, 0, 0})},
		{"a fetch without an answer", script(op(1, 0, 9, 99)), []string{"fetch 9/99=0"}, zeroState(1)},
		{"a clock", script(op(2, 1, 0, 0)), []string{"clock=3"}, state(1, []int{0, 3, 0, 0}, []int{0, 0, 0}, []int{0, 0, 0, 0})},
		{"a random number", script(op(3, 2, 0, 0)), []string{"random=244"}, state(1, []int{0, 0, 244, 0}, []int{0, 0, 0}, []int{0, 0, 0, 0})},
		{"an input", script(op(4, 3, 0, 0)), []string{"input=7"}, state(1, []int{0, 0, 0, 7}, []int{0, 0, 0}, []int{0, 0, 0, 0})},
		{"one of each kind", askingOps(), []string{"fetch 1/0=5", "clock=4", "random=246", "input=7"}, state(4, []int{5, 4, 246, 7}, []int{0, 0, 0}, []int{0, 0, 0, 0})},
		{"fetches while the site changes", slices.Repeat(script(op(1, 0, 1, 0), op(5, 0, 1, 2)), 4), []string{"fetch 1/0=5", "fetch 1/0=5", "fetch 1/0=7", "fetch 1/0=7"}, zeroState(8)},
		{"a fetch that asks with what it got", script(op(4, 1, 0, 0), op(1, 1, 1, 1)), []string{"input=7", "fetch 1/1?7=0"}, zeroState(2)},
		{"a move that is followed", script(op(1, 0, 1, 1)), []string{"fetch 1/1=5"}, state(1, []int{5, 0, 0, 0}, []int{0, 0, 0}, []int{0, 0, 0, 0})},
		{"a put, a keep and a get", script(op(4, 0, 0, 0), op(6, 0, 3, 0), op(9, 0, 2, 0), op(8, 1, 2, 0), op(2, 0, 0, 0)), []string{"input=7", "clock=4"}, state(5, []int{4, 7, 0, 0}, []int{0, 0, 7}, []int{0, 0, 0, 7})},
		{"an ask that is left out", script(op(7, 0, 1, 0), op(1, 0, 1, 0), op(2, 0, 0, 0)), []string{"clock=3"}, state(3, []int{3, 0, 0, 0}, []int{0, 0, 0}, []int{0, 0, 0, 0})},
		{"an ask behind a skip of an odd register", script(op(4, 0, 0, 0), op(7, 0, 1, 0), op(2, 0, 0, 0)), []string{"input=7", "clock=4"}, state(3, []int{4, 0, 0, 0}, []int{0, 0, 0}, []int{0, 0, 0, 0})},
		{"a last ask that is left out", script(op(2, 1, 0, 0), op(7, 0, 2, 0), op(4, 0, 0, 0)), []string{"clock=3"}, state(4, []int{0, 3, 0, 0}, []int{0, 0, 0}, []int{0, 0, 0, 0})},
	}
	for _, c := range cases {
		got, last := impl.RecordVisit(c.l, v)
		texts := []string{}
		for _, e := range got {
			texts = append(texts, impl.EntryText(e))
		}
		if !slices.Equal(texts, c.texts) || !sameState(last, c.last) {
			t.Errorf("%s: RecordVisit = %v, %v, want %v, %v", c.name, texts, last, c.texts, c.last)
		}
		wantRun(t, c.name, c.l, v)
	}
}

func TestRecordingsOfScriptsThatAskNothing(t *testing.T) {
	for _, c := range silentScripts() {
		for _, v := range []impl.Visit{{}, lively(), visit(nil, 1000, 9999, 999)} {
			got, last := impl.RecordVisit(c.l, v)
			if got == nil || len(got) != 0 || last.Pc < len(c.l) {
				t.Errorf("%s: RecordVisit = %v, %v", c.name, got, last)
			}
			wantRun(t, c.name, c.l, v)
		}
	}
}

func TestRecordingsOfSkippedAsks(t *testing.T) {
	cases := []struct {
		name string
		l    []impl.Op
		want []impl.Entry
	}{
		{"the only ask", script(op(7, 0, 1, 0), op(2, 1, 0, 0)), nil},
		{"the only ask, and beyond the end", script(op(7, 0, 3, 0), op(2, 1, 0, 0)), nil},
		{"three asks", script(op(7, 0, 3, 0), op(2, 1, 0, 0), op(3, 1, 0, 0), op(4, 1, 0, 0)), nil},
		{"three asks of four", script(op(7, 0, 3, 0), op(2, 1, 0, 0), op(3, 1, 0, 0), op(4, 1, 0, 0), op(2, 1, 0, 0)), entries(plain(2, 3))},
		{"the first ask, so that the second one gets the first value", script(op(7, 0, 1, 0), op(2, 1, 0, 0), op(4, 1, 0, 0)), entries(plain(4, 7))},
		{"the second ask, so that the third one gets the second value", script(op(2, 1, 0, 0), op(7, 0, 1, 0), op(4, 1, 0, 0), op(4, 1, 0, 0)), entries(plain(2, 3), plain(4, 8))},
		{"an ask by a skip that is skipped", script(op(7, 0, 1, 0), op(7, 0, 1, 0), op(2, 1, 0, 0)), entries(plain(2, 3))},
	}
	for _, c := range cases {
		got, _ := impl.RecordVisit(c.l, lively())
		if !slices.Equal(got, c.want) {
			t.Errorf("%s: RecordVisit = %v, want %v", c.name, got, c.want)
		}
	}
	for _, c := range skippedScripts() {
		wantRun(t, c.name, c.l, lively())
	}
}

// TestTheNthValueIsThatOfTheNthWant puts each kind behind n asks of each kind.
func TestTheNthValueIsThatOfTheNthWant(t *testing.T) {
	v := lively()
	for _, before := range askingOps() {
		for _, o := range askingOps() {
			for n := range 16 {
				l := append(slices.Repeat(script(before), n), o)
				// What is fetched is home only if the register is 0, so that it is set to 0 from another one.
				w := impl.Want{Kind: o.Kind}
				if o.Kind == impl.OpFetch {
					l[n].A = (before.A + 1) % 4
					w.Address = home
				}
				got, last := impl.RecordVisit(l, v)
				value := wantedLive(v, w, n)
				if len(got) != n+1 || got[n] != entry(w.Kind, w.Address, value) || last.Regs[l[n].A] != value {
					t.Errorf("%d times %s, and %s: RecordVisit = %v, %v", n, impl.OpName(before.Kind), impl.OpName(o.Kind), got, last)
				}
			}
		}
	}
}

func TestOtherStepsDoNotCountAsWants(t *testing.T) {
	for n := range 16 {
		l := append(slices.Repeat(script(op(impl.OpAdd, 0, 1, 2)), n), op(impl.OpClock, 0, 0, 0))
		got, _ := impl.RecordVisit(l, lively())
		if !slices.Equal(got, entries(plain(impl.OpClock, 3))) {
			t.Errorf("a clock behind %d sums: %v", n, got)
		}
	}
}

func TestRecordingsWithMaxOpsAsks(t *testing.T) {
	v := visit(fork(), 990, 77, 1, 2, 3, 4, 5, 6, 7, 8)
	for _, o := range askingOps() {
		full, over := slices.Repeat(script(o), 16), slices.Repeat(script(o), 17)
		if got, _ := impl.RecordVisit(full, v); len(got) != 16 || !impl.AreEntries(got) || len(impl.TraceVisit(full, v)) != 17 {
			t.Errorf("16 times %s: %v", impl.OpName(o.Kind), got)
		}
		wantRun(t, "16 asks", full, v)
		wantNothing(t, "17 asks", over, v)
	}
}

func TestRecordingsOfAnyScripts(t *testing.T) {
	for _, c := range append(validScripts(), runScripts()...) {
		for _, v := range validVisits() {
			wantRun(t, c.name+" with "+v.name, c.l, v.v)
		}
	}
}

func TestRecordingsOfMixedScripts(t *testing.T) {
	ops := validOps()
	for first := range ops {
		for step := 1; step < len(ops); step += 2 {
			l := script()
			for n := range 16 {
				l = append(l, ops[(first+n*step)%len(ops)])
			}
			wantRun(t, "a mixed script", l, visit(fork(), first%20, step, first, step, 4))
		}
	}
}

func TestRecordingsOfScriptsThatAreNotValid(t *testing.T) {
	visits := []impl.Visit{{}, lively(), visit(pagesFrom(0, 5), 4, 9), visit(nil, 1001, 9), visit(nil, 4, 10000)}
	for _, c := range append(invalidScripts(), brokenScripts()...) {
		for _, v := range visits {
			wantNothing(t, c.name, c.l, v)
		}
	}
}

func TestRecordingsOfVisitsThatAreNotValid(t *testing.T) {
	scripts := []namedScript{
		{"nil", nil},
		{"empty", script()},
		{"an ask", script(op(impl.OpClock, 0, 0, 0))},
		{"no ask", script(op(impl.OpPut, 0, 0, 0))},
		{"asks of each kind", slices.Repeat(askingOps(), 4)},
		{"an ask that is left out", script(op(impl.OpSkip, 0, 1, 0), op(impl.OpClock, 0, 0, 0))},
		{"17 asks", clocks(17)},
		{"the zero step", script(impl.Op{})},
	}
	for _, v := range invalidVisits() {
		for _, c := range scripts {
			wantNothing(t, c.name+" with "+v.name, c.l, v.v)
		}
	}
	bad := lively()
	bad.Tick = -1
	for _, c := range slices.Concat(runScripts(), brokenScripts(), validScripts()) {
		wantNothing(t, c.name+" with a Tick of -1", c.l, bad)
	}
}

func TestTraceVisit(t *testing.T) {
	regs := func(pc int, values ...int) impl.State {
		return state(pc, values, []int{0, 0, 0}, []int{0, 0, 0, 0})
	}
	cases := []struct {
		name string
		l    []impl.Op
		want []impl.State
	}{
		{"nil", nil, []impl.State{zeroState(0)}},
		{"empty", script(), []impl.State{zeroState(0)}},
		{"a step that changes nothing", script(op(6, 0, 0, 0)), []impl.State{zeroState(0), zeroState(1)}},
		{"one ask", script(op(2, 1, 0, 0)), []impl.State{zeroState(0), regs(1, 0, 3, 0, 0)}},
		{"one of each kind", askingOps(), []impl.State{zeroState(0), regs(1, 5, 0, 0, 0), regs(2, 5, 4, 0, 0), regs(3, 5, 4, 246, 0), regs(4, 5, 4, 246, 7)}},
		{"a skip", script(op(7, 0, 2, 0), op(2, 0, 0, 0), op(2, 0, 0, 0), op(4, 1, 0, 0)), []impl.State{zeroState(0), zeroState(3), regs(4, 0, 7, 0, 0)}},
		{"a skip beyond the end", script(op(2, 1, 0, 0), op(7, 0, 3, 0)), []impl.State{zeroState(0), regs(1, 0, 3, 0, 0), regs(5, 0, 3, 0, 0)}},
		{"a put that stays", script(op(4, 0, 0, 0), op(6, 0, 1, 0), op(2, 0, 0, 0)), []impl.State{zeroState(0), regs(1, 7, 0, 0, 0), state(2, []int{7, 0, 0, 0}, []int{0, 0, 0}, []int{0, 7, 0, 0}), state(3, []int{4, 0, 0, 0}, []int{0, 0, 0}, []int{0, 7, 0, 0})}},
		{"17 steps", clocks(17), []impl.State{zeroState(0)}},
		{"the zero step", script(impl.Op{}), []impl.State{zeroState(0)}},
	}
	for _, c := range cases {
		wantTrace(t, c.name, c.l, lively(), c.want)
	}
	for _, seed := range []int{-1, 10000} {
		wantTrace(t, "no visit", askingOps(), visit(fork(), 3, seed, 7), []impl.State{zeroState(0)})
	}
}

func TestATraceLeadsFromTheStartToTheLastState(t *testing.T) {
	for _, c := range slices.Concat(runScripts(), brokenScripts(), validScripts()) {
		for _, v := range []impl.Visit{{}, lively(), visit(fork(), 1001, 9)} {
			l := impl.TraceVisit(c.l, v)
			got, last := impl.RecordVisit(c.l, v)
			if len(l) == 0 || !sameState(l[0], zeroState(0)) || !sameState(l[len(l)-1], last) {
				t.Fatalf("%s: TraceVisit = %v, and the last state of RecordVisit is %v", c.name, l, last)
			}
			used := 0
			for i := 1; i < len(l); i++ {
				value := 0
				if impl.Asks(impl.WantOf(c.l, l[i-1]).Kind) {
					value = got[used].Value
					used++
				}
				wantStep(t, c.name, c.l, l[i-1], value, l[i])
			}
			if used != len(got) {
				t.Errorf("%s: %d of %d entries are on the trace", c.name, used, len(got))
			}
		}
	}
}

func TestARecordingHasEveryValueThatWasAskedFor(t *testing.T) {
	for _, c := range append(validScripts(), runScripts()...) {
		for _, v := range []impl.Visit{{}, lively(), visit(fork(), 999, 9999, 0, 999)} {
			asked := []impl.Want{}
			for _, s := range impl.TraceVisit(c.l, v) {
				if w := impl.WantOf(c.l, s); w.Kind != 0 {
					asked = append(asked, w)
				}
			}
			got, _ := impl.RecordVisit(c.l, v)
			if len(got) != len(asked) {
				t.Fatalf("%s: %d values were asked for, and %d are recorded", c.name, len(asked), len(got))
			}
			for n, w := range asked {
				if got[n] != entry(w.Kind, w.Address, impl.LiveValue(v, w, n)) {
					t.Errorf("%s: the entry %d of %v is %v", c.name, n, w, got[n])
				}
			}
		}
	}
}

// TestRecordingsDependOnTheirArgumentsOnly makes other recordings in between, also at the same time.
func TestRecordingsDependOnTheirArgumentsOnly(t *testing.T) {
	done := make(chan bool)
	list := append(runScripts(), brokenScripts()...)
	for i := range 8 {
		go func() {
			same := true
			for n := range list {
				l := list[(n*(2*i+1))%len(list)].l
				want, states := wantedRun(l, lively())
				got, last := impl.RecordVisit(l, lively())
				trace := impl.TraceVisit(l, lively())
				same = same && slices.Equal(got, want) && sameState(last, states[len(states)-1]) && slices.EqualFunc(trace, states, sameState)
			}
			done <- same
		}()
	}
	for range 8 {
		if !<-done {
			t.Error("a recording depends on another one")
		}
	}
}

func TestAreEntries(t *testing.T) {
	wantAreEntries(t, "nil", nil, true)
	wantAreEntries(t, "empty", entries(), true)
	wantAreEntries(t, "a fetch", entries(entry(1, home, 5)), true)
	wantAreEntries(t, "the zero entry", entries(impl.Entry{}), false)
	wantAreEntries(t, "equal entries", entries(plain(2, 5), plain(2, 5)), true)
	wantAreEntries(t, "one of each kind", entries(entry(1, far, 5), plain(2, 0), plain(3, 999), plain(4, 1)), true)
}

func TestAreEntriesTakesEntriesUpToTheLimit(t *testing.T) {
	for n := range 40 {
		name := strconv.Itoa(n) + " entries"
		wantAreEntries(t, name, plainEntries(n), n <= 16)
		wantAreEntries(t, name+" of a longer list", plainEntries(40)[:n], n <= 16)
		wantAreEntries(t, name+" of a fetch", slices.Repeat(entries(entry(1, home, 5)), n), n <= 16)
		wantAreEntries(t, name+" that are zero", make([]impl.Entry, n), n == 0)
	}
	wantAreEntries(t, "65536 entries", plainEntries(65536), false)
}

// wantInAnyPlace looks at an entry alone, first, between, last, and at the ends of MaxOps entries.
func wantInAnyPlace(t *testing.T, name string, e impl.Entry, want bool) {
	t.Helper()
	others := plainEntries(15)
	wantAreEntries(t, name+" alone", entries(e), want)
	wantAreEntries(t, name+" first", append(entries(e), others[:2]...), want)
	wantAreEntries(t, name+" between", entries(others[0], e, others[1]), want)
	wantAreEntries(t, name+" last", append(slices.Clone(others[:2]), e), want)
	wantAreEntries(t, name+" as the first of 16", append(entries(e), others...), want)
	wantAreEntries(t, name+" as the last of 16", append(slices.Clone(others), e), want)
	wantAreEntries(t, name+" as the last of 17", append(plainEntries(16), e), false)
}

func TestAreEntriesOfEveryKind(t *testing.T) {
	for kind := -20; kind <= 20; kind++ {
		wantInAnyPlace(t, "the Kind "+strconv.Itoa(kind), plain(kind, 5), kind >= 2 && kind <= 4)
		wantInAnyPlace(t, "the Kind "+strconv.Itoa(kind)+" with an address", entry(kind, home, 5), kind == 1)
	}
	for _, kind := range kindsThatDoNotAsk() {
		wantInAnyPlace(t, "the Kind "+strconv.Itoa(kind), plain(kind, 5), false)
		wantInAnyPlace(t, "the Kind "+strconv.Itoa(kind)+" with an address", entry(kind, home, 5), false)
	}
}

func TestAreEntriesOfEveryValue(t *testing.T) {
	for n := -20; n <= 1020; n++ {
		for kind := 2; kind <= 4; kind++ {
			wantAreEntries(t, "a Value", entries(plain(kind, n)), n >= 0 && n <= 999)
		}
		wantAreEntries(t, "a Value of a fetch", entries(entry(1, home, n)), n >= 0 && n <= 999)
	}
	for _, n := range []int{0, 1, 998, 999} {
		wantInAnyPlace(t, "the Value "+strconv.Itoa(n), plain(2, n), true)
		wantInAnyPlace(t, "the Value "+strconv.Itoa(n)+" of a fetch", entry(1, home, n), true)
	}
	for _, n := range badNumbers {
		wantInAnyPlace(t, "the Value "+strconv.Itoa(n), plain(4, n), false)
		wantInAnyPlace(t, "the Value "+strconv.Itoa(n)+" of a fetch", entry(1, home, n), false)
	}
}

func TestAreEntriesOfEveryAddress(t *testing.T) {
	wantInAnyPlace(t, "a fetch of no address", plain(1, 5), false)
	for _, a := range mixedAddresses() {
		wantInAnyPlace(t, "a fetch", entry(1, a, 5), a.Host >= 1 && !slices.Contains(invalidAddresses, a))
		for kind := 2; kind <= 4; kind++ {
			wantInAnyPlace(t, "another kind", entry(kind, a, 5), a == impl.Address{})
		}
	}
	for _, a := range addressesThatAreNotZero() {
		wantInAnyPlace(t, "a clock with an address", entry(2, a, 5), false)
	}
}

func TestEntryText(t *testing.T) {
	cases := []struct {
		e    impl.Entry
		want string
	}{
		{entry(1, home, 5), "fetch 1/0=5"},
		{entry(1, address(1, 1, 2), 21), "fetch 1/1?2=21"},
		{entry(1, address(9, 99, 99), 999), "fetch 9/99?99=999"},
		{entry(1, home, 0), "fetch 1/0=0"},
		{plain(1, 5), "fetch=5"},
		{entry(1, address(10, 0, 0), 5), "fetch=5"},
		{entry(1, address(1, 0, 100), 5), "fetch=5"},
		{entry(1, address(1, -1, 0), 5), "fetch=5"},
		{plain(2, 7), "clock=7"},
		{plain(3, 248), "random=248"},
		{plain(4, 2), "input=2"},
		{entry(2, home, 7), "clock 1/0=7"},
		{entry(3, address(2, 3, 4), 7), "random 2/3?4=7"},
		{entry(4, far, 0), "input 2/0=0"},
		{entry(4, address(0, 1, 1), 0), "input=0"},
		{plain(5, 7), "add=7"},
		{plain(6, 7), "put=7"},
		{plain(7, 7), "skip=7"},
		{plain(8, 7), "get=7"},
		{plain(9, 7), "keep=7"},
		{entry(9, home, 7), "keep 1/0=7"},
		{plain(10, 7), "=7"},
		{plain(-1, 7), "=7"},
		{entry(10, home, 7), " 1/0=7"},
		{entry(0, address(1, 0, 3), -7), " 1/0?3=-7"},
		{impl.Entry{}, "=0"},
		{plain(2, 999), "clock=999"},
		{plain(2, 1000), "clock=1000"},
		{plain(2, -1), "clock=-1"},
		{plain(2, -999), "clock=-999"},
		{plain(2, math.MinInt), "clock=-9223372036854775808"},
		{plain(2, math.MaxInt), "clock=9223372036854775807"},
		{entry(1, home, math.MinInt), "fetch 1/0=-9223372036854775808"},
		{plain(math.MinInt, 1), "=1"},
		{plain(math.MaxInt, 1), "=1"},
	}
	for _, c := range cases {
		wantEntryText(t, c.e, c.want)
	}
}

func TestEntryTextOfAnyEntries(t *testing.T) {
	names := map[int]string{}
	for _, k := range opKinds {
		names[k.kind] = k.name
	}
	for _, kind := range append([]int{1, 2, 3, 4}, kindsThatDoNotAsk()...) {
		for _, a := range mixedAddresses() {
			for _, value := range []int{0, 1, 999, -1, math.MinInt, math.MaxInt} {
				want := names[kind]
				if !slices.Contains(invalidAddresses, a) {
					want += " " + impl.AddressText(a)
				}
				wantEntryText(t, entry(kind, a, value), want+"="+strconv.Itoa(value))
			}
		}
	}
}

func TestEqualEntries(t *testing.T) {
	wantEqualEntries(t, "nil", nil, nil, true)
	wantEqualEntries(t, "nil and an empty list", nil, entries(), true)
	wantEqualEntries(t, "empty lists", entries(), entries(), true)
	wantEqualEntries(t, "nil and the zero entry", nil, entries(impl.Entry{}), false)
	wantEqualEntries(t, "an empty list and the zero entry", entries(), entries(impl.Entry{}), false)
	wantEqualEntries(t, "another order", entries(plain(2, 1), plain(3, 2)), entries(plain(3, 2), plain(2, 1)), false)
	wantEqualEntries(t, "Kind and Value exchanged", entries(plain(2, 3)), entries(plain(3, 2)), false)
	wantEqualEntries(t, "Host and Path exchanged", entries(entry(1, address(2, 3, 0), 1)), entries(entry(1, address(3, 2, 0), 1)), false)
	wantEqualEntries(t, "entries that are not valid", entries(entry(-5, address(-1, -2, -3), -4)), entries(entry(-5, address(-1, -2, -3), -4)), true)
}

func TestEqualEntriesOfOtherLengths(t *testing.T) {
	for n := range 20 {
		for m := range 20 {
			wantEqualEntries(t, "beginnings of one list", plainEntries(n), plainEntries(m), n == m)
			wantEqualEntries(t, "zero entries", make([]impl.Entry, n), make([]impl.Entry, m), n == m)
		}
	}
}

func TestEqualEntriesThatDifferInOneNumber(t *testing.T) {
	first := entry(1, address(2, 3, 4), 5)
	others := []struct {
		name string
		e    impl.Entry
	}{
		{"the Kind", entry(2, address(2, 3, 4), 5)},
		{"the Host", entry(1, address(1, 3, 4), 5)},
		{"the Path", entry(1, address(2, 2, 4), 5)},
		{"the Query", entry(1, address(2, 3, 3), 5)},
		{"the Value", entry(1, address(2, 3, 4), 4)},
		{"high bits of the Kind", entry(1<<32+1, address(2, 3, 4), 5)},
		{"high bits of the Host", entry(1, address(1<<32+2, 3, 4), 5)},
		{"high bits of the Path", entry(1, address(2, 1<<32+3, 4), 5)},
		{"high bits of the Query", entry(1, address(2, 3, 1<<32+4), 5)},
		{"high bits of the Value", entry(1, address(2, 3, 4), 1<<32+5)},
		{"the least Value", entry(1, address(2, 3, 4), math.MinInt)},
	}
	for _, c := range others {
		for n := 1; n <= 17; n++ {
			for _, at := range []int{0, n / 2, n - 1} {
				a := slices.Repeat(entries(first), n)
				b := slices.Clone(a)
				b[at] = c.e
				name := c.name + " at " + strconv.Itoa(at) + " of " + strconv.Itoa(n)
				wantEqualEntries(t, name, a, b, false)
				wantEqualEntries(t, name, b, slices.Clone(b), true)
			}
		}
	}
}

func TestEqualEntriesOfRecordings(t *testing.T) {
	list := append(runScripts(), brokenScripts()...)
	for _, c := range list {
		a, _ := impl.RecordVisit(c.l, lively())
		for _, d := range list {
			b, _ := impl.RecordVisit(d.l, lively())
			wantEqualEntries(t, c.name+" and "+d.name, a, b, slices.Equal(a, b))
		}
	}
}

func overwriteEntries(l []impl.Entry) {
	l = l[:cap(l)]
	for i := range l {
		l[i] = entry(-99, address(-99, -99, -99), -99)
	}
}

func overwriteStates(l []impl.State) {
	for _, s := range l {
		overwriteState(s)
	}
	l = l[:cap(l)]
	for i := range l {
		l[i] = impl.State{Pc: -99}
	}
}

// roomyOps returns a copy of l with spare memory behind it, and all of this memory.
func roomyOps(l []impl.Op) ([]impl.Op, []impl.Op) {
	whole := append(slices.Clone(l), slices.Repeat(script(op(-7, -7, -7, -7)), 24)...)
	return whole[:len(l)], whole
}

func TestRecordingsLeaveTheirArguments(t *testing.T) {
	for _, c := range slices.Concat(runScripts(), brokenScripts(), validScripts()) {
		for _, given := range []impl.Visit{{}, lively(), visit(fork(), 1001, 9, 2, 3)} {
			l, whole := roomyOps(c.l)
			was := slices.Clone(whole)
			v, isAsItWas := roomyVisit(given)
			got, last := impl.RecordVisit(l, v)
			overwriteStates(impl.TraceVisit(l, v))
			overwriteEntries(got)
			overwriteState(last)
			if !isAsItWas() || !slices.Equal(whole, was) {
				t.Fatalf("%s: an argument was changed, or a result shares its memory", c.name)
			}
		}
	}
}

func TestFunctionsOfEntriesLeaveTheirArguments(t *testing.T) {
	for n := range 20 {
		whole := append(plainEntries(n), slices.Repeat(entries(plain(-7, -7)), 16)...)
		other := slices.Clone(whole)
		was := slices.Clone(whole)
		impl.AreEntries(whole[:n])
		impl.EqualEntries(whole[:n], other[:n])
		impl.EqualEntries(whole[:n], other[:n/2])
		for _, e := range whole[:n] {
			impl.EntryText(e)
		}
		if !slices.Equal(whole, was) || !slices.Equal(other, was) {
			t.Fatalf("%d entries were changed", n)
		}
	}
}

func TestRecordingsShareNoMemory(t *testing.T) {
	for _, c := range slices.Concat(runScripts(), brokenScripts(), validScripts()) {
		want, states := wantedRun(c.l, lively())
		got, last := impl.RecordVisit(c.l, lively())
		trace := impl.TraceVisit(c.l, lively())

		otherEntries, otherLast := impl.RecordVisit(c.l, lively())
		overwriteEntries(otherEntries)
		overwriteState(otherLast)
		overwriteStates(impl.TraceVisit(c.l, lively()))
		overwriteState(impl.StartState())
		if !slices.Equal(got, want) || !sameState(last, states[len(states)-1]) || !slices.EqualFunc(trace, states, sameState) {
			t.Fatalf("%s: two results share memory", c.name)
		}
		wantRun(t, c.name+" once more", c.l, lively())
	}
}

func TestStatesOfATraceShareNoMemory(t *testing.T) {
	for _, c := range append(runScripts(), brokenScripts()...) {
		_, states := wantedRun(c.l, lively())
		for at := range states {
			trace := impl.TraceVisit(c.l, lively())
			overwriteState(trace[at])
			for i, s := range trace {
				if i != at && !sameState(s, states[i]) {
					t.Fatalf("%s: the states %d and %d share memory", c.name, i, at)
				}
			}
		}
	}
}

// TestListsOfATracedStateGrowApart writes behind each list of a state, where another list may not stand.
func TestListsOfATracedStateGrowApart(t *testing.T) {
	_, last := impl.RecordVisit(askingOps(), lively())
	_, states := wantedRun(askingOps(), lively())
	for at, s := range append(impl.TraceVisit(askingOps(), lively()), last) {
		for i := range lists {
			_ = append(*listOf(&s, i), 77, 77, 77, 77)
		}
		if want := states[min(at, len(states)-1)]; !sameState(s, want) {
			t.Errorf("the state %d became %v", at, s)
		}
	}
}

func TestRecordingsStayWhenTheirArgumentsChange(t *testing.T) {
	l, v := slices.Repeat(askingOps(), 2), lively()
	want, states := wantedRun(l, v)
	got, last := impl.RecordVisit(l, v)
	trace := impl.TraceVisit(l, v)
	for i := range l {
		l[i] = op(-7, -7, -7, -7)
	}
	for i := range v.Site {
		overwriteInts(v.Site[i].Resource.Body)
		v.Site[i].Address = address(8, 8, 8)
	}
	overwriteInts(v.Inputs)
	if !slices.Equal(got, want) || !sameState(last, states[len(states)-1]) || !slices.EqualFunc(trace, states, sameState) {
		t.Errorf("the recording became %v, %v and %v", got, last, trace)
	}
}
