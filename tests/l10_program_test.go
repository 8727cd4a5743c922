package tests

import (
	"math"
	"slices"
	"strconv"
	"testing"

	"loop.example/g03002/impl"
)

// Promise 10: exactly steps that ask need values.

func op(kind int, a int, b int, c int) impl.Op {
	return impl.Op{Kind: kind, A: a, B: b, C: c}
}

func script(l ...impl.Op) []impl.Op {
	return l
}

// opKinds are the nine kinds of steps as the document names them, with the least and the greatest B and C; a number that the kind does not have is from 0 to 0.
var opKinds = []struct {
	kind int
	name string
	lowB int
	topB int
	lowC int
	topC int
	asks bool
}{
	{1, "fetch", 1, 9, 0, 99, true},
	{2, "clock", 0, 0, 0, 0, true},
	{3, "random", 0, 0, 0, 0, true},
	{4, "input", 0, 0, 0, 0, true},
	{5, "add", 0, 3, 0, 3, false},
	{6, "put", 0, 3, 0, 0, false},
	{7, "skip", 1, 3, 0, 0, false},
	{8, "get", 0, 2, 0, 0, false},
	{9, "keep", 0, 2, 0, 0, false},
}

// noOpKinds are numbers that are no kind of a step.
var noOpKinds = []int{0, -1, -2, -9, 10, 11, 16, 100, 256 + 1, 1<<32 + 1, 1<<32 + 9, 1 << 32, -1 << 32, math.MinInt, math.MinInt + 1, math.MaxInt - 1, math.MaxInt}

// extremes are numbers that no kind has for its A, B or C; the last ones have low bits that are valid.
var extremes = []int{math.MinInt, math.MinInt + 1, math.MaxInt, math.MaxInt - 1, 1 << 32, 1<<32 + 1, 1<<32 + 2, 256 + 1, -1 << 32, math.MinInt + 2}

// wantedOp tells whether a step is valid, by the table of the kinds.
func wantedOp(o impl.Op) bool {
	for _, k := range opKinds {
		if o.Kind == k.kind {
			return o.A >= 0 && o.A <= 3 && o.B >= k.lowB && o.B <= k.topB && o.C >= k.lowC && o.C <= k.topC
		}
	}
	return false
}

// validOps are, for each kind, steps with every A and the least and the greatest B and C.
func validOps() []impl.Op {
	list := script()
	for _, k := range opKinds {
		for a := range 4 {
			list = append(list, op(k.kind, a, k.lowB, k.lowC), op(k.kind, a, k.topB, k.lowC), op(k.kind, a, k.lowB, k.topC), op(k.kind, a, k.topB, k.topC))
		}
	}
	return list
}

// badOps are steps that break just one rule.
func badOps() []impl.Op {
	list := script()
	for _, k := range opKinds {
		for _, a := range append([]int{-1, -2, -4, 4, 5, 9}, extremes...) {
			list = append(list, op(k.kind, a, k.lowB, k.lowC), op(k.kind, a, k.topB, k.topC))
		}
		for _, b := range append([]int{k.lowB - 1, k.lowB - 2, k.topB + 1, k.topB + 2, k.topB + 90}, extremes...) {
			list = append(list, op(k.kind, 0, b, k.lowC), op(k.kind, 3, b, k.topC))
		}
		for _, c := range append([]int{k.lowC - 1, k.lowC - 2, k.topC + 1, k.topC + 2, k.topC + 90}, extremes...) {
			list = append(list, op(k.kind, 0, k.lowB, c), op(k.kind, 3, k.topB, c))
		}
	}
	for _, kind := range noOpKinds {
		list = append(list, op(kind, 0, 0, 0), op(kind, 0, 1, 0), op(kind, 3, 1, 1))
	}
	return list
}

// clocks returns a script of n steps.
func clocks(n int) []impl.Op {
	return slices.Repeat(script(op(impl.OpClock, 1, 0, 0)), n)
}

// everyKind returns one valid step of each kind.
func everyKind() []impl.Op {
	return script(op(1, 3, 9, 99), op(2, 0, 0, 0), op(3, 1, 0, 0), op(4, 2, 0, 0), op(5, 1, 3, 2), op(6, 0, 3, 0), op(7, 0, 3, 0), op(8, 0, 2, 0), op(9, 3, 2, 0))
}

type namedScript struct {
	name string
	l    []impl.Op
}

func validScripts() []namedScript {
	list := []namedScript{
		{"nil", nil},
		{"empty", script()},
		{"every kind", everyKind()},
		{"15 steps", clocks(15)},
		{"16 steps", clocks(16)},
		{"16 fetches", slices.Repeat(script(op(impl.OpFetch, 0, 1, 0)), 16)},
		{"equal steps", script(op(impl.OpAdd, 1, 1, 1), op(impl.OpAdd, 1, 1, 1))},
		{"a skip of the only step that follows", script(op(impl.OpSkip, 0, 1, 0), op(impl.OpClock, 0, 0, 0))},
		{"a skip of 3 steps, of which 2 follow", append(script(op(impl.OpSkip, 0, 3, 0)), clocks(2)...)},
		{"a skip of 2 steps, of which 1 follows", append(script(op(impl.OpSkip, 0, 2, 0)), clocks(1)...)},
		{"16 skips of 3 steps", slices.Repeat(script(op(impl.OpSkip, 3, 3, 0)), 16)},
	}
	for b := 1; b <= 3; b++ {
		name := "a skip of " + strconv.Itoa(b)
		list = append(list,
			namedScript{name + " alone", script(op(impl.OpSkip, 0, b, 0))},
			namedScript{name + " as the last step", append(clocks(4), op(impl.OpSkip, 0, b, 0))},
			namedScript{name + " as the last one of 16", append(clocks(15), op(impl.OpSkip, 3, b, 0))})
	}
	for i, o := range validOps() {
		list = append(list, namedScript{"valid step " + strconv.Itoa(i), script(o)})
	}
	return list
}

func invalidScripts() []namedScript {
	list := []namedScript{
		{"17 steps", clocks(17)},
		{"18 steps", clocks(18)},
		{"17 skips", slices.Repeat(script(op(impl.OpSkip, 0, 1, 0)), 17)},
		{"17 steps of every kind", append(everyKind(), everyKind()[:8]...)},
		{"32 steps", clocks(32)},
		{"1000 steps", clocks(1000)},
		{"65536 steps", clocks(65536)},
		{"the zero step", script(impl.Op{})},
		{"16 zero steps", make([]impl.Op, 16)},
		{"17 zero steps", make([]impl.Op, 17)},
	}
	for i, o := range badOps() {
		name := "bad step " + strconv.Itoa(i)
		list = append(list,
			namedScript{name + " alone", script(o)},
			namedScript{name + " first", append(script(o), everyKind()...)},
			namedScript{name + " last", append(everyKind(), o)},
			namedScript{name + " between", append(append(clocks(3), o), clocks(3)...)},
			namedScript{name + " as the last one of 16", append(clocks(15), o)},
			namedScript{name + " twice", script(o, o)})
	}
	return list
}

func allScripts() []namedScript {
	return append(validScripts(), invalidScripts()...)
}

// wantedInts puts the numbers of the steps one behind the other.
func wantedInts(l []impl.Op) []int {
	values := []int{}
	for _, o := range l {
		values = append(values, []int{o.Kind, o.A, o.B, o.C}...)
	}
	return values
}

// wantedAsks counts the steps of the first four kinds.
func wantedAsks(l []impl.Op) int {
	count := 0
	for _, o := range l {
		if o.Kind == 1 || o.Kind == 2 || o.Kind == 3 || o.Kind == 4 {
			count++
		}
	}
	return count
}

func wantIsScript(t *testing.T, name string, l []impl.Op, want bool) {
	t.Helper()
	if got := impl.IsScript(l); got != want {
		t.Errorf("%s: IsScript(%v) = %v", name, l, got)
	}
}

func wantScriptInts(t *testing.T, name string, l []impl.Op, want []int) {
	t.Helper()
	if got := impl.ScriptInts(l); !slices.Equal(got, want) {
		t.Errorf("%s: ScriptInts(%v) = %v, want %v", name, l, got, want)
	}
}

func wantCountAsks(t *testing.T, name string, l []impl.Op, want int) {
	t.Helper()
	if got := impl.CountAsks(l); got != want {
		t.Errorf("%s: CountAsks(%v) = %d, want %d", name, l, got, want)
	}
}

func TestConstantsOfScripts(t *testing.T) {
	kinds := []int{impl.OpFetch, impl.OpClock, impl.OpRandom, impl.OpInput, impl.OpAdd, impl.OpPut, impl.OpSkip, impl.OpGet, impl.OpKeep}
	limits := []int{impl.MaxOps, impl.Registers, impl.Slots, impl.Nodes}
	if !slices.Equal(kinds, counted(1, 9)) || !slices.Equal(limits, []int{16, 4, 3, 4}) {
		t.Error("the constants of chapter 10 are not those of the document")
	}
}

func TestIsScript(t *testing.T) {
	for _, c := range validScripts() {
		wantIsScript(t, c.name, c.l, true)
	}
}

func TestIsScriptRejects(t *testing.T) {
	for _, c := range invalidScripts() {
		wantIsScript(t, c.name, c.l, false)
	}
}

func TestIsScriptTakesStepsUpToTheLimit(t *testing.T) {
	for n := range 40 {
		for _, o := range everyKind() {
			wantIsScript(t, strconv.Itoa(n)+" steps", slices.Repeat(script(o), n), n <= 16)
		}
	}
}

func TestIsScriptOfOneStep(t *testing.T) {
	cases := []struct {
		name string
		o    impl.Op
		want bool
	}{
		{"the zero step", impl.Op{}, false},
		{"the least fetch", op(impl.OpFetch, 0, 1, 0), true},
		{"the greatest fetch", op(impl.OpFetch, 3, 9, 99), true},
		{"a fetch with the Host 0", op(impl.OpFetch, 0, 0, 0), false},
		{"a fetch with the Host 10", op(impl.OpFetch, 0, 10, 0), false},
		{"a fetch with the Path -1", op(impl.OpFetch, 0, 1, -1), false},
		{"a fetch with the Path 100", op(impl.OpFetch, 0, 1, 100), false},
		{"a fetch with the register 4", op(impl.OpFetch, 4, 1, 0), false},
		{"a fetch with the register -1", op(impl.OpFetch, -1, 1, 0), false},
		{"a clock", op(impl.OpClock, 3, 0, 0), true},
		{"a clock with a B", op(impl.OpClock, 0, 1, 0), false},
		{"a clock with a negative B", op(impl.OpClock, 0, -1, 0), false},
		{"a clock with a C", op(impl.OpClock, 0, 0, 1), false},
		{"a clock with a B and a C that cancel", op(impl.OpClock, 0, 1, -1), false},
		{"a random number", op(impl.OpRandom, 3, 0, 0), true},
		{"a random number with a B", op(impl.OpRandom, 0, 1, 0), false},
		{"a random number with a C", op(impl.OpRandom, 0, 0, 1), false},
		{"an input", op(impl.OpInput, 3, 0, 0), true},
		{"an input with a B", op(impl.OpInput, 0, 1, 0), false},
		{"an input with a C", op(impl.OpInput, 0, 0, 1), false},
		{"the least sum", op(impl.OpAdd, 0, 0, 0), true},
		{"the greatest sum", op(impl.OpAdd, 3, 3, 3), true},
		{"a sum with the register 4 as B", op(impl.OpAdd, 0, 4, 0), false},
		{"a sum with the register 4 as C", op(impl.OpAdd, 0, 0, 4), false},
		{"a sum with the register -1 as B", op(impl.OpAdd, 0, -1, 0), false},
		{"a sum with the register -1 as C", op(impl.OpAdd, 0, 0, -1), false},
		{"a put into the node 0", op(impl.OpPut, 0, 0, 0), true},
		{"a put into the node 3", op(impl.OpPut, 3, 3, 0), true},
		{"a put into the node 4", op(impl.OpPut, 0, 4, 0), false},
		{"a put into the node -1", op(impl.OpPut, 0, -1, 0), false},
		{"a put with a C", op(impl.OpPut, 0, 0, 1), false},
		{"a skip of 0", op(impl.OpSkip, 0, 0, 0), false},
		{"a skip of 1", op(impl.OpSkip, 0, 1, 0), true},
		{"a skip of 3", op(impl.OpSkip, 3, 3, 0), true},
		{"a skip of 4", op(impl.OpSkip, 0, 4, 0), false},
		{"a skip of -1", op(impl.OpSkip, 0, -1, 0), false},
		{"a skip with a C", op(impl.OpSkip, 0, 1, 1), false},
		{"a get of the slot 0", op(impl.OpGet, 0, 0, 0), true},
		{"a get of the slot 2", op(impl.OpGet, 3, 2, 0), true},
		{"a get of the slot 3", op(impl.OpGet, 0, 3, 0), false},
		{"a get of the slot -1", op(impl.OpGet, 0, -1, 0), false},
		{"a get with a C", op(impl.OpGet, 0, 0, 1), false},
		{"a keep in the slot 0", op(impl.OpKeep, 0, 0, 0), true},
		{"a keep in the slot 2", op(impl.OpKeep, 3, 2, 0), true},
		{"a keep in the slot 3", op(impl.OpKeep, 0, 3, 0), false},
		{"a keep in the slot -1", op(impl.OpKeep, 0, -1, 0), false},
		{"a keep with a C", op(impl.OpKeep, 0, 0, 1), false},
		{"the kind 0 with the numbers of a fetch", op(0, 0, 1, 0), false},
		{"the kind 10", op(10, 0, 0, 0), false},
		{"the kind -1", op(-1, 0, 0, 0), false},
		{"the least kind", op(math.MinInt, 0, 0, 0), false},
		{"the greatest kind", op(math.MaxInt, 0, 0, 0), false},
		{"the least integer everywhere", op(math.MinInt, math.MinInt, math.MinInt, math.MinInt), false},
		{"the greatest integer everywhere", op(math.MaxInt, math.MaxInt, math.MaxInt, math.MaxInt), false},
	}
	for _, c := range cases {
		wantIsScript(t, c.name, script(c.o), c.want)
	}
}

func TestIsScriptOfEveryRegister(t *testing.T) {
	for _, k := range opKinds {
		for a := -10; a <= 20; a++ {
			wantIsScript(t, k.name, script(op(k.kind, a, k.lowB, k.lowC)), a >= 0 && a <= 3)
		}
	}
}

func TestIsScriptOfAnyStep(t *testing.T) {
	kinds := append(counted(-1, 13), math.MinInt, math.MaxInt, 1<<32+1)
	firsts := append(counted(-1, 7), math.MinInt, math.MaxInt, 1<<32)
	others := append(append(counted(-1, 13), 98, 99, 100, 101), extremes...)
	for _, kind := range kinds {
		for _, a := range firsts {
			for _, b := range others {
				for _, c := range others {
					o := op(kind, a, b, c)
					if got := impl.IsScript(script(o)); got != wantedOp(o) {
						t.Errorf("IsScript of %v alone = %v", o, got)
					}
				}
			}
		}
	}
}

func TestIsScriptLooksAtEveryStep(t *testing.T) {
	for n := 1; n <= 16; n++ {
		for at := range n {
			for _, bad := range script(impl.Op{}, op(10, 0, 0, 0), op(impl.OpSkip, 0, 4, 0), op(impl.OpClock, 4, 0, 0)) {
				l := clocks(n)
				l[at] = bad
				wantIsScript(t, "a bad step at "+strconv.Itoa(at), l, false)
			}
		}
	}
}

func TestIsScriptTakesSkipsAnywhere(t *testing.T) {
	for n := 1; n <= 16; n++ {
		for at := range n {
			for b := 0; b <= 4; b++ {
				l := clocks(n)
				l[at] = op(impl.OpSkip, 2, b, 0)
				wantIsScript(t, "a skip of "+strconv.Itoa(b)+" at "+strconv.Itoa(at), l, b >= 1 && b <= 3)
			}
		}
	}
}

func TestOpName(t *testing.T) {
	for _, k := range opKinds {
		if got := impl.OpName(k.kind); got != k.name {
			t.Errorf("OpName(%d) = %q, want %q", k.kind, got, k.name)
		}
	}
}

func TestOpNameOfOtherNumbers(t *testing.T) {
	for _, kind := range append(noOpKinds, append(counted(-300, 301), counted(10, 300)...)...) {
		if got := impl.OpName(kind); got != "" {
			t.Errorf("OpName(%d) = %q", kind, got)
		}
	}
}

func TestAsks(t *testing.T) {
	for _, k := range opKinds {
		if got := impl.Asks(k.kind); got != k.asks {
			t.Errorf("Asks(%d) = %v", k.kind, got)
		}
	}
}

func TestAsksOfOtherNumbers(t *testing.T) {
	for _, kind := range append(noOpKinds, append(counted(-300, 301), counted(10, 300)...)...) {
		if impl.Asks(kind) {
			t.Errorf("Asks(%d) = true", kind)
		}
	}
}

func TestScriptInts(t *testing.T) {
	cases := []struct {
		name string
		l    []impl.Op
		want []int
	}{
		{"nil", nil, nil},
		{"empty", script(), nil},
		{"a fetch", script(op(impl.OpFetch, 3, 9, 99)), []int{1, 3, 9, 99}},
		{"a clock", script(op(impl.OpClock, 2, 0, 0)), []int{2, 2, 0, 0}},
		{"two steps", script(op(impl.OpAdd, 1, 2, 3), op(impl.OpKeep, 3, 2, 0)), []int{5, 1, 2, 3, 9, 3, 2, 0}},
		{"two steps turned round", script(op(impl.OpKeep, 3, 2, 0), op(impl.OpAdd, 1, 2, 3)), []int{9, 3, 2, 0, 5, 1, 2, 3}},
		{"equal steps", script(op(impl.OpPut, 1, 2, 0), op(impl.OpPut, 1, 2, 0)), []int{6, 1, 2, 0, 6, 1, 2, 0}},
		{"a skip of the end", script(op(impl.OpSkip, 0, 3, 0), op(impl.OpGet, 0, 1, 0)), []int{7, 0, 3, 0, 8, 0, 1, 0}},
		{"the zero step", script(impl.Op{}), []int{0, 0, 0, 0}},
		{"no kind", script(op(10, 20, 30, 40)), []int{10, 20, 30, 40}},
		{"numbers that the kind does not have", script(op(impl.OpClock, 4, 5, 6)), []int{2, 4, 5, 6}},
		{"negative numbers", script(op(-1, -2, -3, -4)), []int{-1, -2, -3, -4}},
		{"the least and the greatest integer", script(op(math.MinInt, math.MaxInt, math.MinInt, math.MaxInt)), []int{math.MinInt, math.MaxInt, math.MinInt, math.MaxInt}},
		{"a step that is not valid between others", script(op(2, 0, 0, 0), op(0, 7, 8, 9), op(3, 1, 0, 0)), []int{2, 0, 0, 0, 0, 7, 8, 9, 3, 1, 0, 0}},
		{"17 steps", clocks(17), slices.Repeat([]int{2, 1, 0, 0}, 17)},
		{"1000 steps", clocks(1000), slices.Repeat([]int{2, 1, 0, 0}, 1000)},
	}
	for _, c := range cases {
		wantScriptInts(t, c.name, c.l, c.want)
	}
}

func TestScriptIntsOfAnyScripts(t *testing.T) {
	for _, c := range allScripts() {
		wantScriptInts(t, c.name, c.l, wantedInts(c.l))
	}
}

func TestCountAsks(t *testing.T) {
	cases := []struct {
		name string
		l    []impl.Op
		want int
	}{
		{"nil", nil, 0},
		{"empty", script(), 0},
		{"a fetch", script(op(impl.OpFetch, 0, 1, 0)), 1},
		{"a clock", script(op(impl.OpClock, 0, 0, 0)), 1},
		{"a random number", script(op(impl.OpRandom, 0, 0, 0)), 1},
		{"an input", script(op(impl.OpInput, 0, 0, 0)), 1},
		{"a sum", script(op(impl.OpAdd, 0, 0, 0)), 0},
		{"a put", script(op(impl.OpPut, 0, 0, 0)), 0},
		{"a skip", script(op(impl.OpSkip, 0, 1, 0)), 0},
		{"a get", script(op(impl.OpGet, 0, 0, 0)), 0},
		{"a keep", script(op(impl.OpKeep, 0, 0, 0)), 0},
		{"every kind", everyKind(), 4},
		{"none that asks", everyKind()[4:], 0},
		{"all ask", everyKind()[:4], 4},
		{"the last one asks", script(op(impl.OpAdd, 0, 0, 0), op(impl.OpInput, 0, 0, 0)), 1},
		{"the first one asks", script(op(impl.OpFetch, 0, 1, 0), op(impl.OpKeep, 0, 0, 0)), 1},
		{"a step that is left out counts as well", script(op(impl.OpSkip, 0, 1, 0), op(impl.OpClock, 0, 0, 0)), 1},
		{"equal steps count each", clocks(5), 5},
		{"16 steps", clocks(16), 16},
		{"17 steps", clocks(17), 17},
		{"1000 steps", clocks(1000), 1000},
		{"16 steps that do not ask", slices.Repeat(script(op(impl.OpAdd, 0, 0, 0)), 16), 0},
		{"100 of every kind", slices.Repeat(everyKind(), 100), 400},
		{"the zero step", script(impl.Op{}), 0},
		{"the kind 10", script(op(10, 0, 0, 0)), 0},
		{"the kind -1", script(op(-1, 0, 0, 0)), 0},
		{"the least and the greatest kind", script(op(math.MinInt, 0, 0, 0), op(math.MaxInt, 0, 0, 0)), 0},
		{"a kind with the low bits of one that asks", script(op(1<<32+1, 0, 1, 0)), 0},
		{"kinds that are none around one that asks", script(op(0, 0, 0, 0), op(2, 0, 0, 0), op(10, 0, 0, 0)), 1},
		{"steps that ask and are not valid", script(op(1, 4, 0, 100), op(2, -1, 5, 5), op(3, 0, 1, 0), op(4, math.MaxInt, 0, math.MinInt)), 4},
		{"steps that do not ask and are not valid", script(op(5, 4, 4, 4), op(6, 0, 9, 9), op(7, 0, 0, 0), op(8, 0, 3, 0), op(9, -1, 0, 0)), 0},
	}
	for _, c := range cases {
		wantCountAsks(t, c.name, c.l, c.want)
	}
}

func TestCountAsksOfAnyScripts(t *testing.T) {
	for _, c := range allScripts() {
		wantCountAsks(t, c.name, c.l, wantedAsks(c.l))
	}
}

func TestExactlyStepsThatAskNeedValues(t *testing.T) {
	kinds := append(counted(-1, 13), math.MinInt, math.MaxInt)
	for _, first := range kinds {
		for _, second := range kinds {
			for _, third := range kinds {
				l := script(op(first, 0, 1, 0), op(second, 4, 0, 0), op(third, 0, 0, 0))
				want := 0
				for _, o := range l {
					if impl.Asks(o.Kind) {
						want++
					}
				}
				if want != wantedAsks(l) {
					t.Errorf("Asks holds for %d of the steps %v", want, l)
				}
				wantCountAsks(t, "three steps", l, want)
			}
		}
	}
}

func TestExactlyKindsOfValidStepsHaveANameAndOnlySuchAsk(t *testing.T) {
	for _, kind := range append(counted(-300, 600), noOpKinds...) {
		isKind := impl.IsScript(script(op(kind, 0, 1, 0))) || impl.IsScript(script(op(kind, 0, 0, 0)))
		if isKind != (impl.OpName(kind) != "") || impl.Asks(kind) && !isKind {
			t.Errorf("the kind %d: valid %v, named %q, asks %v", kind, isKind, impl.OpName(kind), impl.Asks(kind))
		}
	}
}

func TestScriptsLeaveTheirArguments(t *testing.T) {
	for _, c := range allScripts() {
		whole := append(slices.Clone(c.l), slices.Repeat(script(op(-7, -7, -7, -7)), 8)...)
		was := slices.Clone(whole)
		l := whole[:len(c.l)]
		impl.IsScript(l)
		impl.CountAsks(l)
		overwriteInts(impl.ScriptInts(l))
		if !slices.Equal(whole, was) {
			t.Errorf("%s: the script %v was changed", c.name, c.l)
		}
	}
}

func TestResultsOfScriptsShareNoMemory(t *testing.T) {
	for _, c := range allScripts() {
		values := impl.ScriptInts(c.l)
		overwriteInts(impl.ScriptInts(c.l))
		if !slices.Equal(values, wantedInts(c.l)) {
			t.Errorf("%s: two results share memory", c.name)
		}
	}
}

func TestNumbersOfAScriptStayWhenItChanges(t *testing.T) {
	l := everyKind()
	want := wantedInts(l)
	values := impl.ScriptInts(l)
	clear(l)
	if !slices.Equal(values, want) {
		t.Errorf("the numbers of a script became %v", values)
	}
}
