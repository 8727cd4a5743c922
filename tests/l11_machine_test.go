package tests

import (
	"math"
	"slices"
	"strconv"
	"testing"

	"loop.example/g03002/impl"
)

// Promise 11: a step keeps a state valid.

func state(pc int, regs []int, slots []int, nodes []int) impl.State {
	return impl.State{Pc: pc, Regs: regs, Slots: slots, Nodes: nodes}
}

// zeroState returns a state with only zeros beside its Pc.
func zeroState(pc int) impl.State {
	return state(pc, []int{0, 0, 0, 0}, []int{0, 0, 0}, []int{0, 0, 0, 0})
}

// registers returns a state at the Pc 0 with numbers that differ, and these registers.
func registers(regs ...int) impl.State {
	return state(0, regs, []int{51, 52, 53}, []int{61, 62, 63, 64})
}

// held returns a state whose numbers all differ.
func held(pc int) impl.State {
	return state(pc, []int{41, 42, 43, 44}, []int{51, 52, 53}, []int{61, 62, 63, 64})
}

func clonedState(s impl.State) impl.State {
	return state(s.Pc, slices.Clone(s.Regs), slices.Clone(s.Slots), slices.Clone(s.Nodes))
}

func sameState(a impl.State, b impl.State) bool {
	return a.Pc == b.Pc && slices.Equal(a.Regs, b.Regs) && slices.Equal(a.Slots, b.Slots) && slices.Equal(a.Nodes, b.Nodes)
}

func overwriteState(s impl.State) {
	overwriteInts(s.Regs)
	overwriteInts(s.Slots)
	overwriteInts(s.Nodes)
}

// roomyState returns a copy of s with spare capacity, and a function that tells whether all of its memory is as it was.
func roomyState(s impl.State) (impl.State, func() bool) {
	regs, allRegs := roomyInts(s.Regs)
	slots, allSlots := roomyInts(s.Slots)
	nodes, allNodes := roomyInts(s.Nodes)
	was := state(0, slices.Clone(allRegs), slices.Clone(allSlots), slices.Clone(allNodes))
	return state(s.Pc, regs, slots, nodes), func() bool {
		return sameState(was, state(0, allRegs, allSlots, allNodes))
	}
}

type namedState struct {
	name string
	s    impl.State
}

// lists are the three lists of a state, with their lengths as the document names them.
var lists = []struct {
	name  string
	count int
}{
	{"registers", 4},
	{"slots", 3},
	{"nodes", 4},
}

// listOf returns the list number i of a state, in the order of lists.
func listOf(s *impl.State, i int) *[]int {
	return []*[]int{&s.Regs, &s.Slots, &s.Nodes}[i]
}

func validStates() []namedState {
	all := slices.Repeat([]int{999}, 4)
	list := []namedState{{"the first state", impl.StartState()}, {"all 999", state(19, all, all[:3], all)}}
	for pc := range 20 {
		list = append(list, namedState{"the Pc " + strconv.Itoa(pc), held(pc)})
	}
	for i, l := range lists {
		for at := range l.count {
			for _, n := range []int{0, 1, 998, 999} {
				s := held(at)
				(*listOf(&s, i))[at] = n
				list = append(list, namedState{l.name + " with a " + strconv.Itoa(n), s})
			}
		}
	}
	return list
}

// badNumbers are numbers that no register, slot or node can hold; some have low bits that it could.
var badNumbers = []int{-1, -2, -999, -1000, 1000, 1001, 1998, 1 << 32, 1<<32 + 5, -1 << 32, 1 << 16, math.MinInt, math.MinInt + 1, math.MaxInt - 1, math.MaxInt}

// badPcs are numbers that no Pc can be.
var badPcs = []int{-1, -2, -16, -20, 20, 21, 22, 100, 1 << 32, 1<<32 + 1, -1 << 32, math.MinInt, math.MinInt + 1, math.MaxInt - 1, math.MaxInt}

func invalidStates() []namedState {
	list := []namedState{{"the zero state", impl.State{}}}
	for _, pc := range badPcs {
		list = append(list, namedState{"the Pc " + strconv.Itoa(pc), held(pc)})
	}
	for i, l := range lists {
		for at := range l.count {
			for _, n := range badNumbers {
				s := held(0)
				(*listOf(&s, i))[at] = n
				list = append(list, namedState{l.name + " with a " + strconv.Itoa(n), s})
			}
		}
		for n := range 12 {
			if n == l.count {
				continue
			}
			s := held(0)
			*listOf(&s, i) = counted(0, n)
			list = append(list, namedState{strconv.Itoa(n) + " " + l.name, s})
		}
		s := held(1)
		*listOf(&s, i) = nil
		list = append(list, namedState{"no " + l.name, s})
	}
	return list
}

func allStates() []namedState {
	return append(validStates(), invalidStates()...)
}

// wantedState tells whether a state is valid, by the words of the document.
func wantedState(s impl.State) bool {
	valid := s.Pc >= 0 && s.Pc <= 19
	for i, l := range lists {
		values := *listOf(&s, i)
		valid = valid && len(values) == l.count
		for _, n := range values {
			valid = valid && n >= 0 && n <= 999
		}
	}
	return valid
}

func canStep(l []impl.Op, s impl.State) bool {
	valid := len(l) <= 16
	for _, o := range l {
		valid = valid && wantedOp(o)
	}
	return valid && wantedState(s) && s.Pc < len(l)
}

// wantedWant tells what a step needs, by the words of the document.
func wantedWant(l []impl.Op, s impl.State) impl.Want {
	if !canStep(l, s) || l[s.Pc].Kind > 4 {
		return impl.Want{}
	}
	o := l[s.Pc]
	w := impl.Want{Kind: o.Kind}
	if o.Kind == 1 {
		w.Address = address(o.B, o.C, s.Regs[o.A]%100)
	}
	return w
}

// wantedStep makes a step by the words of the document.
func wantedStep(l []impl.Op, s impl.State, value int) impl.State {
	next := clonedState(s)
	if !canStep(l, s) {
		return next
	}
	o := l[s.Pc]
	next.Pc = s.Pc + 1
	if o.Kind == 7 && s.Regs[o.A]%2 == 0 {
		next.Pc = s.Pc + 1 + o.B
	}
	switch o.Kind {
	case 1, 2, 3, 4:
		next.Regs[o.A] = max(0, min(999, value))
	case 5:
		next.Regs[o.A] = (s.Regs[o.B] + s.Regs[o.C]) % 1000
	case 6:
		next.Nodes[o.B] = s.Regs[o.A]
	case 8:
		next.Regs[o.A] = s.Slots[o.B]
	case 9:
		next.Slots[o.B] = s.Regs[o.A]
	}
	return next
}

// someValues are values from outside, of which some are not in their range.
var someValues = []int{0, 1, 7, 500, 998, 999, 1000, 1001, 1 << 32, 1<<32 + 3, -1, -2, -1000, -1 << 32, math.MinInt, math.MaxInt}

func wantIsState(t *testing.T, name string, s impl.State, want bool) {
	t.Helper()
	if got := impl.IsState(s); got != want {
		t.Errorf("%s: IsState(%v) = %v", name, s, got)
	}
}

func wantWant(t *testing.T, name string, l []impl.Op, s impl.State, want impl.Want) {
	t.Helper()
	if got := impl.WantOf(l, s); got != want {
		t.Errorf("%s: WantOf(%v, %v) = %v, want %v", name, l, s, got, want)
	}
}

func wantStep(t *testing.T, name string, l []impl.Op, s impl.State, value int, want impl.State) {
	t.Helper()
	if got := impl.StepState(l, s, value); !sameState(got, want) {
		t.Errorf("%s: StepState(%v, %v, %d) = %v, want %v", name, l, s, value, got, want)
	}
}

func wantDone(t *testing.T, name string, l []impl.Op, s impl.State, want bool) {
	t.Helper()
	if got := impl.IsDone(l, s); got != want {
		t.Errorf("%s: IsDone of %d steps and the Pc %d = %v", name, len(l), s.Pc, got)
	}
}

func TestStartState(t *testing.T) {
	if s := impl.StartState(); !sameState(s, zeroState(0)) {
		t.Errorf("StartState() = %v", s)
	}
}

func TestStartStateHasItsOwnMemory(t *testing.T) {
	s, other := impl.StartState(), impl.StartState()
	overwriteState(s)
	if !sameState(other, zeroState(0)) || !sameState(impl.StartState(), zeroState(0)) {
		t.Error("two results of StartState share memory")
	}
}

func TestIsState(t *testing.T) {
	for _, c := range validStates() {
		wantIsState(t, c.name, c.s, true)
	}
}

func TestIsStateRejects(t *testing.T) {
	for _, c := range invalidStates() {
		wantIsState(t, c.name, c.s, false)
	}
}

func TestIsStateOfEveryPc(t *testing.T) {
	for pc := -50; pc <= 50; pc++ {
		wantIsState(t, "a Pc", held(pc), pc >= 0 && pc <= 19)
	}
}

func TestIsStateOfEveryLength(t *testing.T) {
	for regs := range 7 {
		for slots := range 7 {
			for nodes := range 7 {
				s := state(0, counted(0, regs), counted(0, slots), counted(0, nodes))
				wantIsState(t, "lengths", s, regs == 4 && slots == 3 && nodes == 4)
			}
		}
	}
}

func TestIsStateOfEveryNumber(t *testing.T) {
	for i, l := range lists {
		for at := range l.count {
			for n := -3; n <= 1003; n++ {
				s := held(0)
				(*listOf(&s, i))[at] = n
				wantIsState(t, l.name, s, n >= 0 && n <= 999)
			}
		}
	}
}

func TestIsStateTakesAPartOfALongerList(t *testing.T) {
	long := counted(0, 9)
	wantIsState(t, "parts of a longer list", state(0, long[:4], long[:3], long[:4]), true)
	wantIsState(t, "a part that is too long", state(0, long[:5], long[:3], long[:4]), false)
}

func TestWantOf(t *testing.T) {
	cases := []struct {
		name string
		o    impl.Op
		regs []int
		want impl.Want
	}{
		{"the least fetch", op(1, 0, 1, 0), []int{0, 9, 9, 9}, impl.Want{Kind: 1, Address: address(1, 0, 0)}},
		{"the greatest fetch", op(1, 3, 9, 99), []int{9, 9, 9, 99}, impl.Want{Kind: 1, Address: address(9, 99, 99)}},
		{"a fetch with 100 in its register", op(1, 1, 2, 3), []int{9, 100, 9, 9}, impl.Want{Kind: 1, Address: address(2, 3, 0)}},
		{"a fetch with 101 in its register", op(1, 1, 2, 3), []int{9, 101, 9, 9}, impl.Want{Kind: 1, Address: address(2, 3, 1)}},
		{"a fetch with 999 in its register", op(1, 2, 2, 3), []int{9, 9, 999, 9}, impl.Want{Kind: 1, Address: address(2, 3, 99)}},
		{"a fetch with 500 in its register", op(1, 2, 2, 3), []int{9, 9, 500, 9}, impl.Want{Kind: 1, Address: address(2, 3, 0)}},
		{"a clock", op(2, 3, 0, 0), []int{1, 2, 3, 4}, impl.Want{Kind: 2}},
		{"a random number", op(3, 2, 0, 0), []int{1, 2, 3, 4}, impl.Want{Kind: 3}},
		{"an input", op(4, 1, 0, 0), []int{1, 2, 3, 4}, impl.Want{Kind: 4}},
		{"a sum", op(5, 1, 2, 3), []int{1, 2, 3, 4}, impl.Want{}},
		{"a put", op(6, 1, 2, 0), []int{1, 2, 3, 4}, impl.Want{}},
		{"a skip of an even register", op(7, 1, 2, 0), []int{1, 2, 3, 4}, impl.Want{}},
		{"a skip of an odd register", op(7, 0, 2, 0), []int{1, 2, 3, 4}, impl.Want{}},
		{"a get", op(8, 1, 2, 0), []int{1, 2, 3, 4}, impl.Want{}},
		{"a keep", op(9, 1, 2, 0), []int{1, 2, 3, 4}, impl.Want{}},
		{"the zero step", impl.Op{}, []int{1, 2, 3, 4}, impl.Want{}},
		{"a clock with a B", op(2, 0, 1, 0), []int{1, 2, 3, 4}, impl.Want{}},
		{"a fetch with the Host 0", op(1, 0, 0, 0), []int{1, 2, 3, 4}, impl.Want{}},
		{"a fetch with the register 4", op(1, 4, 1, 0), []int{1, 2, 3, 4}, impl.Want{}},
	}
	for _, c := range cases {
		wantWant(t, c.name, script(c.o), registers(c.regs...), c.want)
		s := registers(c.regs...)
		s.Pc = 2
		if c.want.Kind != 0 {
			wantWant(t, c.name+" as the last of three", append(clocks(2), c.o), s, c.want)
		}
		wantWant(t, c.name+" before the Pc", append(script(c.o), op(9, 0, 0, 0), op(5, 0, 0, 0)), s, impl.Want{})
	}
}

func TestWantOfAFetchWithEveryNumber(t *testing.T) {
	for n := range 1000 {
		want := impl.Want{Kind: impl.OpFetch, Address: address(4, 5, n%100)}
		wantWant(t, "a fetch", script(op(1, 3, 4, 5)), registers(1, 1, 1, n), want)
	}
}

func TestAddressesOfFetchesAreValid(t *testing.T) {
	for _, o := range validOps() {
		for n := range 1000 {
			w := impl.WantOf(script(o), registers(n, n, n, n))
			if impl.IsAddress(w.Address) != (o.Kind == impl.OpFetch) {
				t.Fatalf("the step %v with the registers %d wants %v", o, n, w)
			}
		}
	}
}

func TestExactlyStepsThatAskWant(t *testing.T) {
	for _, o := range validOps() {
		w := impl.WantOf(script(o), held(0))
		want := 0
		if impl.Asks(o.Kind) {
			want = o.Kind
		}
		if w.Kind != want || o.Kind != impl.OpFetch && w.Address != (impl.Address{}) {
			t.Errorf("the step %v wants %v", o, w)
		}
	}
}

func TestStepState(t *testing.T) {
	cases := []struct {
		name  string
		o     impl.Op
		value int
		want  impl.State
	}{
		{"a fetch", op(1, 0, 1, 0), 7, state(1, []int{7, 42, 43, 44}, []int{51, 52, 53}, []int{61, 62, 63, 64})},
		{"a clock", op(2, 3, 0, 0), 999, state(1, []int{41, 42, 43, 999}, []int{51, 52, 53}, []int{61, 62, 63, 64})},
		{"a random number", op(3, 1, 0, 0), 0, state(1, []int{41, 0, 43, 44}, []int{51, 52, 53}, []int{61, 62, 63, 64})},
		{"an input", op(4, 2, 0, 0), 500, state(1, []int{41, 42, 500, 44}, []int{51, 52, 53}, []int{61, 62, 63, 64})},
		{"a value of 1000", op(4, 2, 0, 0), 1000, state(1, []int{41, 42, 999, 44}, []int{51, 52, 53}, []int{61, 62, 63, 64})},
		{"a value of -1", op(2, 0, 0, 0), -1, state(1, []int{0, 42, 43, 44}, []int{51, 52, 53}, []int{61, 62, 63, 64})},
		{"the greatest value", op(1, 0, 1, 0), math.MaxInt, state(1, []int{999, 42, 43, 44}, []int{51, 52, 53}, []int{61, 62, 63, 64})},
		{"the least value", op(3, 3, 0, 0), math.MinInt, state(1, []int{41, 42, 43, 0}, []int{51, 52, 53}, []int{61, 62, 63, 64})},
		{"a sum", op(5, 0, 1, 2), 7, state(1, []int{85, 42, 43, 44}, []int{51, 52, 53}, []int{61, 62, 63, 64})},
		{"a sum with itself", op(5, 3, 3, 3), 7, state(1, []int{41, 42, 43, 88}, []int{51, 52, 53}, []int{61, 62, 63, 64})},
		{"a put", op(6, 0, 3, 0), 7, state(1, []int{41, 42, 43, 44}, []int{51, 52, 53}, []int{61, 62, 63, 41})},
		{"a put into the node 0", op(6, 3, 0, 0), 7, state(1, []int{41, 42, 43, 44}, []int{51, 52, 53}, []int{44, 62, 63, 64})},
		{"a skip of an odd register", op(7, 0, 3, 0), 7, held(1)},
		{"a skip of an odd register with an even value", op(7, 2, 3, 0), 8, held(1)},
		{"a skip of 1", op(7, 1, 1, 0), 7, held(2)},
		{"a skip of 2", op(7, 3, 2, 0), 7, held(3)},
		{"a skip of 3", op(7, 1, 3, 0), 7, held(4)},
		{"a get", op(8, 3, 0, 0), 7, state(1, []int{41, 42, 43, 51}, []int{51, 52, 53}, []int{61, 62, 63, 64})},
		{"a get of the last slot", op(8, 0, 2, 0), 7, state(1, []int{53, 42, 43, 44}, []int{51, 52, 53}, []int{61, 62, 63, 64})},
		{"a keep", op(9, 3, 0, 0), 7, state(1, []int{41, 42, 43, 44}, []int{44, 52, 53}, []int{61, 62, 63, 64})},
		{"a keep in the last slot", op(9, 0, 2, 0), 7, state(1, []int{41, 42, 43, 44}, []int{51, 52, 41}, []int{61, 62, 63, 64})},
		{"the zero step", impl.Op{}, 7, held(0)},
		{"a clock with a B", op(2, 0, 1, 0), 7, held(0)},
		{"a put into the node 4", op(6, 0, 4, 0), 7, held(0)},
		{"a get of the slot 3", op(8, 0, 3, 0), 7, held(0)},
		{"a keep of the register 4", op(9, 4, 0, 0), 7, held(0)},
		{"a skip of 4", op(7, 1, 4, 0), 7, held(0)},
	}
	for _, c := range cases {
		wantStep(t, c.name, script(c.o), held(0), c.value, c.want)
	}
}

func TestStepStateAdds(t *testing.T) {
	cases := []struct {
		b, c, want int
	}{
		{0, 0, 0}, {0, 999, 999}, {999, 0, 999}, {1, 998, 999}, {500, 499, 999}, {500, 500, 0}, {1, 999, 0}, {999, 1, 0}, {2, 999, 1}, {600, 700, 300}, {999, 999, 998}, {999, 998, 997},
	}
	for _, c := range cases {
		want := registers(c.want, c.b, c.c, 8)
		want.Pc = 1
		wantStep(t, "a sum", script(op(5, 0, 1, 2)), registers(5, c.b, c.c, 8), 7, want)
		want = registers(c.want, c.c, 6, 8)
		want.Pc = 1
		wantStep(t, "a sum into its B", script(op(5, 0, 0, 1)), registers(c.b, c.c, 6, 8), 7, want)
		want = registers(6, c.b, c.want, 8)
		want.Pc = 1
		wantStep(t, "a sum into its C", script(op(5, 2, 1, 2)), registers(6, c.b, c.c, 8), 7, want)
	}
	for n := range 1000 {
		want := registers(1, 2, n*2%1000, 4)
		want.Pc = 1
		wantStep(t, "a sum with A, B and C the same", script(op(5, 2, 2, 2)), registers(1, 2, n, 4), 7, want)
	}
}

func TestStepStateSkips(t *testing.T) {
	for n := range 1000 {
		for b := 1; b <= 3; b++ {
			want := registers(1, 1, n, 1)
			want.Pc = 1
			if n%2 == 0 {
				want.Pc = 1 + b
			}
			wantStep(t, "a skip", append(script(op(7, 2, b, 0)), clocks(5)...), registers(1, 1, n, 1), 7, want)
		}
	}
}

func TestStepStateSkipsBeyondTheEnd(t *testing.T) {
	for n := 1; n <= 16; n++ {
		for at := range n {
			for b := 1; b <= 3; b++ {
				l := clocks(n)
				l[at] = op(7, 1, b, 0)
				even, odd := held(at), held(at)
				odd.Regs[1] = 1
				next, other := held(at+1+b), held(at+1)
				other.Regs[1] = 1
				name := "a skip of " + strconv.Itoa(b)
				wantStep(t, name, l, even, 7, next)
				wantStep(t, name, l, odd, 7, other)
				wantIsState(t, name, impl.StepState(l, even, 7), true)
				wantDone(t, name, l, next, at+1+b >= n)
				if at+1+b >= n {
					wantStep(t, name+" and one more step", l, next, 7, next)
					wantWant(t, name+" and one more step", l, next, impl.Want{})
				}
			}
		}
	}
}

func TestThePcGrowsToNineteen(t *testing.T) {
	l := append(clocks(15), op(7, 1, 3, 0))
	s := impl.StepState(l, held(15), 0)
	if s.Pc != 19 || !impl.IsState(s) || !impl.IsDone(l, s) {
		t.Errorf("the last skip of the longest script leads to %v", s)
	}
	wantStep(t, "beyond the longest script", l, s, 5, s)
	wantWant(t, "beyond the longest script", l, s, impl.Want{})
}

func TestStepStateOfEveryPc(t *testing.T) {
	for n := range 18 {
		l := clocks(n)
		for pc := -2; pc <= 21; pc++ {
			want, wanted := held(pc), impl.Want{}
			if n <= 16 && pc >= 0 && pc < n {
				want.Pc = pc + 1
				want.Regs[1] = 8
				wanted.Kind = impl.OpClock
			}
			name := "the Pc " + strconv.Itoa(pc) + " of " + strconv.Itoa(n)
			wantStep(t, name, l, held(pc), 8, want)
			wantWant(t, name, l, held(pc), wanted)
			wantDone(t, name, l, held(pc), pc >= n)
		}
	}
}

func TestStepStateOfEveryValue(t *testing.T) {
	for _, o := range validOps() {
		for _, value := range append(someValues, counted(-5, 1010)...) {
			wantStep(t, "a value", script(o), held(0), value, wantedStep(script(o), held(0), value))
		}
	}
}

func TestStepsOfAnyStates(t *testing.T) {
	for _, o := range append(validOps(), op(0, 0, 0, 0), op(10, 0, 0, 0), op(2, 0, 0, 1), op(7, 0, 4, 0)) {
		for _, l := range [][]impl.Op{script(o), append(script(o), clocks(2)...), append(everyKind(), o), append(slices.Repeat(script(o), 15), op(7, 0, 3, 0)), slices.Repeat(script(o), 17)} {
			for _, c := range allStates() {
				wantStep(t, c.name, l, c.s, 321, wantedStep(l, c.s, 321))
				wantWant(t, c.name, l, c.s, wantedWant(l, c.s))
			}
		}
	}
}

func TestStepsOfAnyScripts(t *testing.T) {
	for _, c := range allScripts() {
		for _, s := range []impl.State{impl.StartState(), held(0), held(1), held(8), held(15), held(16), held(19), held(20), held(-1), {}} {
			wantStep(t, c.name, c.l, s, 654, wantedStep(c.l, s, 654))
			wantWant(t, c.name, c.l, s, wantedWant(c.l, s))
			wantDone(t, c.name, c.l, s, s.Pc >= len(c.l))
		}
	}
}

func TestAStepThatIsNotValidStopsTheOthers(t *testing.T) {
	for at := range 10 {
		l := slices.Insert(everyKind(), at, op(6, 0, 4, 0))
		for pc := range 12 {
			wantStep(t, "a script that is not valid", l, held(pc), 5, held(pc))
			wantWant(t, "a script that is not valid", l, held(pc), impl.Want{})
		}
	}
}

func TestIsDone(t *testing.T) {
	cases := []struct {
		name string
		l    []impl.Op
		s    impl.State
		want bool
	}{
		{"no steps", nil, impl.StartState(), true},
		{"an empty script", script(), impl.StartState(), true},
		{"one step", clocks(1), impl.StartState(), false},
		{"after one step", clocks(1), held(1), true},
		{"beyond one step", clocks(1), held(4), true},
		{"at the last step of 16", clocks(16), held(15), false},
		{"after 16 steps", clocks(16), held(16), true},
		{"beyond 16 steps", clocks(16), held(19), true},
		{"the zero state and no steps", nil, impl.State{}, true},
		{"the zero state and a step", clocks(1), impl.State{}, false},
		{"the Pc -1 and no steps", nil, held(-1), false},
		{"the Pc -1 and a step", clocks(1), held(-1), false},
		{"the Pc 20", clocks(16), held(20), true},
		{"the least Pc", nil, held(math.MinInt), false},
		{"the least Pc and a step", clocks(1), held(math.MinInt), false},
		{"the greatest Pc", clocks(3), held(math.MaxInt), true},
		{"at the last one of 17 steps", clocks(17), held(16), false},
		{"after 17 steps", clocks(17), held(17), true},
		{"below 1000 steps", clocks(1000), held(999), false},
		{"after 1000 steps", clocks(1000), held(1000), true},
		{"before a step that is not valid", script(impl.Op{}), held(0), false},
		{"after a step that is not valid", script(impl.Op{}), held(1), true},
		{"without registers", clocks(2), state(2, nil, nil, nil), true},
		{"without registers, before the end", clocks(2), state(1, nil, nil, nil), false},
		{"with numbers that are too great", clocks(2), state(2, []int{1000}, nil, []int{-1}), true},
	}
	for _, c := range cases {
		wantDone(t, c.name, c.l, c.s, c.want)
	}
}

func TestEqualStates(t *testing.T) {
	list := allStates()
	for i, a := range list {
		for j, b := range list {
			if i > 60 && j > 60 && i != j {
				continue
			}
			if got := impl.EqualStates(a.s, clonedState(b.s)); got != sameState(a.s, b.s) {
				t.Errorf("EqualStates(%v, %v) = %v", a.s, b.s, got)
			}
		}
	}
}

func TestEqualStatesThatDifferInOneNumber(t *testing.T) {
	for _, n := range []int{0, 39, 65, 999, 1000, -1, 1<<32 + 41, math.MinInt, math.MaxInt} {
		pc := held(n)
		if impl.EqualStates(pc, held(1)) || impl.EqualStates(held(1), pc) || !impl.EqualStates(pc, held(n)) {
			t.Errorf("the Pc %d", n)
		}
		for i, l := range lists {
			for at := range l.count {
				s := held(1)
				(*listOf(&s, i))[at] = n
				if impl.EqualStates(s, held(1)) || impl.EqualStates(held(1), s) || !impl.EqualStates(s, clonedState(s)) {
					t.Errorf("the number %d of the %s is %d", at, l.name, n)
				}
			}
		}
	}
}

func TestEqualStatesThatDifferInALength(t *testing.T) {
	for i, l := range lists {
		short, empty, none, long := held(1), held(1), held(1), held(1)
		whole := *listOf(&short, i)
		*listOf(&short, i) = whole[:l.count-1]
		*listOf(&empty, i) = []int{}
		*listOf(&none, i) = nil
		*listOf(&long, i) = append(slices.Clone(whole), 0)
		for _, s := range []impl.State{short, empty, none, long} {
			if impl.EqualStates(s, held(1)) || impl.EqualStates(held(1), s) || !impl.EqualStates(s, clonedState(s)) {
				t.Errorf("%v and %v", s, held(1))
			}
		}
		if impl.EqualStates(short, empty) || impl.EqualStates(long, short) {
			t.Errorf("different numbers of %s are equal", l.name)
		}
		if !impl.EqualStates(empty, none) || !impl.EqualStates(none, empty) {
			t.Errorf("no %s are not equal to none", l.name)
		}
	}
	if !impl.EqualStates(impl.State{}, state(0, []int{}, []int{}, []int{})) {
		t.Error("the zero state is not equal to one of empty lists")
	}
}

func TestEqualStatesLooksAtEachListByItself(t *testing.T) {
	a := state(0, []int{1, 2}, []int{3}, []int{4})
	b := state(0, []int{1}, []int{2, 3}, []int{4})
	c := state(0, []int{1, 2}, []int{4}, []int{3})
	if impl.EqualStates(a, b) || impl.EqualStates(a, c) || impl.EqualStates(state(0, []int{1}, nil, nil), state(0, nil, nil, []int{1})) {
		t.Error("states with the same numbers in other lists are equal")
	}
}

// run makes all steps of a script, and checks every state on its way.
func run(t *testing.T, l []impl.Op, s impl.State, value func(n int) int) {
	t.Helper()
	for n := 0; !impl.IsDone(l, s); n++ {
		next := impl.StepState(l, s, value(n))
		if !impl.IsState(next) || !sameState(next, wantedStep(l, s, value(n))) || next.Pc <= s.Pc {
			t.Fatalf("a step of %v leads from %v to %v", l, s, next)
		}
		s = next
	}
	wantStep(t, "a run that is done", l, s, 5, s)
	wantWant(t, "a run that is done", l, s, impl.Want{})
}

func TestEveryRunKeepsItsStateValid(t *testing.T) {
	ops := validOps()
	for first := range ops {
		for step := 1; step < len(ops); step += 2 {
			l := script()
			for n := range 16 {
				l = append(l, ops[(first+n*step)%len(ops)])
			}
			run(t, l, impl.StartState(), func(n int) int { return someValues[(first+n+step)%len(someValues)] })
		}
	}
}

func TestAStepKeepsAnyStateValid(t *testing.T) {
	for _, o := range validOps() {
		for _, c := range validStates() {
			l := slices.Repeat(script(o), 16)
			for _, value := range someValues {
				next := impl.StepState(l, c.s, value)
				if !impl.IsState(next) {
					t.Errorf("%s: the step %v with the value %d leads to %v", c.name, o, value, next)
				}
			}
		}
	}
}

func TestTheMachineLeavesItsArguments(t *testing.T) {
	for _, o := range append(validOps(), impl.Op{}) {
		for _, c := range allStates() {
			whole := append(script(o, o, op(7, 0, 1, 0)), slices.Repeat(script(op(-7, -7, -7, -7)), 8)...)
			was := slices.Clone(whole)
			l := whole[:3]
			s, isAsItWas := roomyState(c.s)
			impl.IsState(s)
			impl.WantOf(l, s)
			impl.IsDone(l, s)
			impl.EqualStates(s, s)
			overwriteState(impl.StepState(l, s, 5))
			if !isAsItWas() || !slices.Equal(whole, was) {
				t.Fatalf("%s: an argument was changed by the step %v", c.name, o)
			}
		}
	}
}

func TestStatesShareNoMemory(t *testing.T) {
	for _, l := range [][]impl.Op{nil, everyKind(), clocks(16), clocks(17), script(op(5, 0, 0, 0)), script(op(6, 0, 0, 0)), script(op(7, 0, 1, 0)), script(op(8, 0, 0, 0)), script(op(9, 0, 0, 0))} {
		for _, c := range allStates() {
			s := clonedState(c.s)
			next := impl.StepState(l, s, 5)
			want := wantedStep(l, s, 5)
			overwriteState(impl.StepState(l, s, 5))
			overwriteState(s)
			if !sameState(next, want) {
				t.Fatalf("%s: a state shares memory: %v", c.name, next)
			}
		}
	}
}

// TestListsOfAStateGrowApart holds a list of a state against what is written behind another one.
func TestListsOfAStateGrowApart(t *testing.T) {
	for _, got := range []impl.State{impl.StartState(), impl.StepState(clocks(1), zeroState(0), 0), impl.StepState(nil, zeroState(0), 0)} {
		pc := got.Pc
		for i := range lists {
			grown := append(*listOf(&got, i), 77, 77, 77, 77)
			grown[0] = 77
			*listOf(&got, i) = append(*listOf(&got, i), -1)
		}
		want := state(pc, []int{0, 0, 0, 0, -1}, []int{0, 0, 0, -1}, []int{0, 0, 0, 0, -1})
		for i, l := range lists {
			(*listOf(&got, i))[0] = 0
			if !slices.Equal(*listOf(&got, i), *listOf(&want, i)) {
				t.Errorf("the %s became %v", l.name, *listOf(&got, i))
			}
		}
	}
}
