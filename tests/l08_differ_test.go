package tests

import (
	"math"
	"slices"
	"strconv"
	"testing"

	"loop.example/g03002/impl"
)

// Promise 8: a body follows from an older one and the pieces.

func piece(from int, count int, numbers ...int) impl.Piece {
	return impl.Piece{From: from, Count: count, New: numbers}
}

func pieces(l ...impl.Piece) []impl.Piece {
	return l
}

// counted returns n numbers, from first on.
func counted(first int, n int) []int {
	l := []int{}
	for i := range n {
		l = append(l, first+i)
	}
	return l
}

func samePieces(a []impl.Piece, b []impl.Piece) bool {
	return slices.EqualFunc(a, b, func(p impl.Piece, q impl.Piece) bool {
		return p.From == q.From && p.Count == q.Count && slices.Equal(p.New, q.New)
	})
}

type pair struct {
	name  string
	older []int
	newer []int
}

type differingPair struct {
	pair
	begin int
	new   []int
	end   int
}

// differingPairs are bodies of at most 100 numbers with what they have in common.
func differingPairs() []differingPair {
	hundred, other := counted(1, 100), counted(1001, 100)
	return []differingPair{
		{pair{"both nil", nil, nil}, 0, nil, 0},
		{pair{"both empty", []int{}, []int{}}, 0, nil, 0},
		{pair{"nil and empty", nil, []int{}}, 0, nil, 0},
		{pair{"empty and nil", []int{}, nil}, 0, nil, 0},
		{pair{"the older one nil", nil, []int{1, 2}}, 0, []int{1, 2}, 0},
		{pair{"the older one empty", []int{}, []int{1, 2}}, 0, []int{1, 2}, 0},
		{pair{"the newer one nil", []int{1, 2}, nil}, 0, nil, 0},
		{pair{"the newer one empty", []int{1, 2}, []int{}}, 0, nil, 0},
		{pair{"equal, of one number", []int{7}, []int{7}}, 1, nil, 0},
		{pair{"different, of one number", []int{7}, []int{8}}, 0, []int{8}, 0},
		{pair{"zero and one", []int{0}, []int{1}}, 0, []int{1}, 0},
		{pair{"one and two numbers, the beginning", []int{7}, []int{7, 8}}, 1, []int{8}, 0},
		{pair{"one and two numbers, the end", []int{8}, []int{7, 8}}, 0, []int{7}, 1},
		{pair{"one and two numbers, neither", []int{9}, []int{7, 8}}, 0, []int{7, 8}, 0},
		{pair{"two and one numbers, the beginning", []int{7, 8}, []int{7}}, 1, nil, 0},
		{pair{"two and one numbers, the end", []int{7, 8}, []int{8}}, 0, nil, 1},
		{pair{"equal", []int{1, 2, 3, 4, 5}, []int{1, 2, 3, 4, 5}}, 5, nil, 0},
		{pair{"one number changed", []int{1, 2, 3, 4, 5}, []int{1, 2, 9, 4, 5}}, 2, []int{9}, 2},
		{pair{"one number added", []int{1, 2, 3, 4, 5}, []int{1, 2, 9, 3, 4, 5}}, 2, []int{9}, 3},
		{pair{"one number left out", []int{1, 2, 3, 4, 5}, []int{1, 2, 4, 5}}, 2, nil, 2},
		{pair{"no common beginning", []int{1, 2, 3, 4}, []int{9, 2, 3, 4}}, 0, []int{9}, 3},
		{pair{"no common beginning, a longer one", []int{1, 2, 3, 4}, []int{9, 8, 7, 3, 4}}, 0, []int{9, 8, 7}, 2},
		{pair{"no common end", []int{1, 2, 3, 4}, []int{1, 2, 3, 9}}, 3, []int{9}, 0},
		{pair{"no common end, a shorter one", []int{1, 2, 3, 4}, []int{1, 9}}, 1, []int{9}, 0},
		{pair{"neither", []int{1, 2, 3, 4}, []int{9, 2, 3, 8}}, 0, []int{9, 2, 3, 8}, 0},
		{pair{"neither, turned round", []int{1, 2, 3, 4}, []int{4, 3, 2, 1}}, 0, []int{4, 3, 2, 1}, 0},
		{pair{"neither, moved", []int{1, 2, 3, 4}, []int{2, 3, 4, 1}}, 0, []int{2, 3, 4, 1}, 0},
		{pair{"the newer one is the beginning", []int{1, 2, 3, 4}, []int{1, 2}}, 2, nil, 0},
		{pair{"the older one is the beginning", []int{1, 2}, []int{1, 2, 3, 4}}, 2, []int{3, 4}, 0},
		{pair{"the newer one is the end", []int{1, 2, 3, 4}, []int{3, 4}}, 0, nil, 2},
		{pair{"the older one is the end", []int{3, 4}, []int{1, 2, 3, 4}}, 0, []int{1, 2}, 2},
		{pair{"the newer one is the middle", []int{1, 2, 3, 4}, []int{2, 3}}, 0, []int{2, 3}, 0},
		{pair{"the beginning and the end of the newer one", []int{1, 2, 3, 4}, []int{1, 2, 7, 8, 9, 3, 4}}, 2, []int{7, 8, 9}, 2},
		{pair{"fewer of one number", []int{5, 5, 5, 5, 5}, []int{5, 5, 5}}, 3, nil, 0},
		{pair{"more of one number", []int{5, 5, 5}, []int{5, 5, 5, 5, 5}}, 3, []int{5, 5}, 0},
		{pair{"one number in place of five", []int{5, 5, 5, 5, 5}, []int{5}}, 1, nil, 0},
		{pair{"five in place of one", []int{5}, []int{5, 5, 5, 5, 5}}, 1, []int{5, 5, 5, 5}, 0},
		{pair{"the number between equal ones left out", []int{5, 5, 6, 5, 5}, []int{5, 5, 5, 5}}, 2, nil, 2},
		{pair{"a number between equal ones", []int{5, 5, 5}, []int{5, 5, 6, 5, 5}}, 2, []int{6, 5}, 1},
		{pair{"two numbers in turn, longer", []int{1, 2, 1}, []int{1, 2, 1, 2, 1}}, 3, []int{2, 1}, 0},
		{pair{"two numbers in turn, shorter", []int{1, 2, 1, 2, 1}, []int{1, 2, 1}}, 3, nil, 0},
		{pair{"overlapping in the older one", []int{1, 2, 3}, []int{1, 2, 9, 2, 3}}, 2, []int{9, 2}, 1},
		{pair{"overlapping in the newer one", []int{1, 2, 9, 2, 3}, []int{1, 2, 3}}, 2, nil, 1},
		{pair{"repeated", []int{1, 2, 3}, []int{1, 2, 3, 1, 2, 3}}, 3, []int{1, 2, 3}, 0},
		{pair{"the extremes", []int{math.MinInt, 0, math.MaxInt}, []int{math.MinInt, -1, math.MaxInt}}, 1, []int{-1}, 1},
		{pair{"numbers that are equal in 32 bits", []int{1, 1 << 32, 2}, []int{1, 0, 2}}, 1, []int{0}, 1},
		{pair{"100 equal numbers", hundred, counted(1, 100)}, 100, nil, 0},
		{pair{"100 other numbers", hundred, other}, 0, other, 0},
		{pair{"100 numbers and nil", hundred, nil}, 0, nil, 0},
		{pair{"nil and 100 numbers", nil, hundred}, 0, hundred, 0},
		{pair{"99 and 100 numbers", counted(1, 99), hundred}, 99, []int{100}, 0},
		{pair{"100 and 99 numbers", hundred, counted(2, 99)}, 0, nil, 99},
		{pair{"100 numbers, the first changed", hundred, append([]int{0}, counted(2, 99)...)}, 0, []int{0}, 99},
		{pair{"100 numbers, the last changed", hundred, append(counted(1, 99), 0)}, 99, []int{0}, 0},
		{pair{"100 numbers, one changed", hundred, slices.Concat(counted(1, 49), []int{0}, counted(51, 50))}, 49, []int{0}, 50},
		{pair{"100 and 99 of one number", slices.Repeat([]int{5}, 100), slices.Repeat([]int{5}, 99)}, 99, nil, 0},
		{pair{"99 and 100 of one number", slices.Repeat([]int{5}, 99), slices.Repeat([]int{5}, 100)}, 99, []int{5}, 0},
	}
}

// longPairs have a body of more than 100 numbers.
func longPairs() []pair {
	list := []pair{}
	for _, n := range []int{101, 102, 200, 1000, 5000} {
		long, size := counted(1, n), strconv.Itoa(n)
		for _, short := range [][]int{nil, {}, {1}, {n}, {0}, counted(1, 99), counted(1, 100), counted(n-99, 100)} {
			list = append(list,
				pair{size + " numbers of the older one, and " + strconv.Itoa(len(short)), long, short},
				pair{size + " numbers of the newer one, and " + strconv.Itoa(len(short)), short, long})
		}
		list = append(list, pair{"both of " + size + " numbers", long, counted(1, n)}, pair{size + " and 101 numbers", long, counted(1, 101)})
	}
	return list
}

// smallBodies are all bodies of at most n numbers from 0 to 2, in which beginnings and ends often overlap.
func smallBodies(n int) [][]int {
	list := [][]int{nil}
	for at := 0; at < len(list); at++ {
		if len(list[at]) == n {
			break
		}
		for number := range 3 {
			list = append(list, append(slices.Clone(list[at]), number))
		}
	}
	return list
}

// wantedPieces returns what PiecesOf returns for bodies of at most 100 numbers, by trying beginnings and ends from the longest on.
func wantedPieces(older []int, newer []int) []impl.Piece {
	least := min(len(older), len(newer))
	begin := least
	for !slices.Equal(older[:begin], newer[:begin]) {
		begin--
	}
	end := least - begin
	for !slices.Equal(older[len(older)-end:], newer[len(newer)-end:]) {
		end--
	}
	return pieces(piece(0, begin, newer[begin:len(newer)-end]...), piece(len(older)-end, end))
}

func wantPieces(t *testing.T, name string, older []int, newer []int, want []impl.Piece) {
	t.Helper()
	if got := impl.PiecesOf(older, newer); !samePieces(got, want) {
		t.Errorf("%s: PiecesOf(%v, %v) = %v, want %v", name, older, newer, got, want)
	}
}

func wantBody(t *testing.T, name string, older []int, l []impl.Piece, want []int) {
	t.Helper()
	if got, ok := impl.ApplyPieces(older, l); !ok || !slices.Equal(got, want) {
		t.Errorf("%s: ApplyPieces(%v, %v) = %v, %v, want %v, true", name, older, l, got, ok, want)
	}
}

func wantNoBody(t *testing.T, name string, older []int, l []impl.Piece) {
	t.Helper()
	if got, ok := impl.ApplyPieces(older, l); ok || len(got) != 0 {
		t.Errorf("%s: ApplyPieces of %d numbers and %v = %v, %v, want no body", name, len(older), l, got, ok)
	}
}

func TestPiecesOf(t *testing.T) {
	for _, c := range differingPairs() {
		wantPieces(t, c.name, c.older, c.newer, pieces(piece(0, c.begin, c.new...), piece(len(c.older)-c.end, c.end)))
	}
}

func TestPiecesOfLongBodies(t *testing.T) {
	for _, c := range longPairs() {
		wantPieces(t, c.name, c.older, c.newer, nil)
	}
}

func TestPiecesOfBodiesUpToTheLimit(t *testing.T) {
	for n := range 105 {
		for m := range 105 {
			if got := len(impl.PiecesOf(counted(1, n), counted(50, m))); (got == 2) != (n <= 100 && m <= 100) || got != 2 && got != 0 {
				t.Errorf("PiecesOf of %d and %d numbers has %d pieces", n, m, got)
			}
		}
	}
}

func TestPiecesOfSmallBodies(t *testing.T) {
	for _, older := range smallBodies(4) {
		for _, newer := range smallBodies(5) {
			wantPieces(t, "small", older, newer, wantedPieces(older, newer))
		}
	}
}

func TestPiecesOfBodiesOfOneNumber(t *testing.T) {
	for n := range 101 {
		for m := range 101 {
			same := min(n, m)
			want := pieces(piece(0, same, slices.Repeat([]int{5}, m-same)...), piece(n, 0))
			wantPieces(t, "one number repeated", slices.Repeat([]int{5}, n), slices.Repeat([]int{5}, m), want)
		}
	}
}

func TestBodiesFollowFromThePieces(t *testing.T) {
	for _, c := range differingPairs() {
		wantBody(t, c.name, c.older, impl.PiecesOf(c.older, c.newer), c.newer)
	}
	for _, older := range smallBodies(4) {
		for _, newer := range smallBodies(4) {
			wantBody(t, "small", older, impl.PiecesOf(older, newer), newer)
		}
	}
	hundred := counted(1, 100)
	for at := range 96 {
		for _, n := range []int{0, 1, 2, 5} {
			newer := slices.Concat(hundred[:at], counted(-5, n), hundred[at+5:])
			wantBody(t, "five numbers changed", hundred, impl.PiecesOf(hundred, newer), newer)
		}
	}
}

func TestApplyPieces(t *testing.T) {
	older := []int{1, 2, 3, 4, 5}
	cases := []struct {
		name  string
		older []int
		l     []impl.Piece
		want  []int
	}{
		{"no pieces, nil", older, nil, nil},
		{"no pieces, empty", older, pieces(), nil},
		{"no pieces of nil", nil, nil, nil},
		{"no pieces of an empty body", []int{}, pieces(), nil},
		{"the zero piece", older, pieces(impl.Piece{}), nil},
		{"the zero piece of nil", nil, pieces(impl.Piece{}), nil},
		{"the zero piece of an empty body", []int{}, pieces(impl.Piece{}), nil},
		{"New is empty", older, pieces(impl.Piece{From: 1, Count: 2, New: []int{}}), []int{2, 3}},
		{"New is nil", older, pieces(impl.Piece{From: 1, Count: 2}), []int{2, 3}},
		{"only New", older, pieces(piece(0, 0, 7, 8)), []int{7, 8}},
		{"only New of nil", nil, pieces(piece(0, 0, 7, 8)), []int{7, 8}},
		{"New stands behind what is taken", older, pieces(piece(0, 1, 7, 8)), []int{1, 7, 8}},
		{"all", older, pieces(piece(0, 5)), older},
		{"all and New", older, pieces(piece(0, 5, 6)), []int{1, 2, 3, 4, 5, 6}},
		{"all but the last", older, pieces(piece(0, 4)), []int{1, 2, 3, 4}},
		{"all but the first", older, pieces(piece(1, 4)), []int{2, 3, 4, 5}},
		{"the first", older, pieces(piece(0, 1)), []int{1}},
		{"the last", older, pieces(piece(4, 1)), []int{5}},
		{"nothing at the last", older, pieces(piece(4, 0)), nil},
		{"nothing at the end", older, pieces(piece(5, 0)), nil},
		{"New at the end", older, pieces(piece(5, 0, 9)), []int{9}},
		{"the only number", []int{7}, pieces(piece(0, 1)), []int{7}},
		{"nothing behind the only number", []int{7}, pieces(piece(1, 0)), nil},
		{"two pieces", older, pieces(piece(0, 2, 9), piece(3, 2)), []int{1, 2, 9, 4, 5}},
		{"the same numbers twice", older, pieces(piece(1, 2), piece(1, 2)), []int{2, 3, 2, 3}},
		{"all twice", older, pieces(piece(0, 5), piece(0, 5)), []int{1, 2, 3, 4, 5, 1, 2, 3, 4, 5}},
		{"overlapping numbers", older, pieces(piece(0, 3), piece(1, 3)), []int{1, 2, 3, 2, 3, 4}},
		{"another order", older, pieces(piece(3, 2, 8), piece(0, 1)), []int{4, 5, 8, 1}},
		{"turned round", older, pieces(piece(4, 1), piece(3, 1), piece(2, 1), piece(1, 1), piece(0, 1)), []int{5, 4, 3, 2, 1}},
		{"pieces of nothing between", older, pieces(piece(0, 0), piece(2, 1), piece(5, 0), piece(0, 1), piece(3, 0)), []int{3, 1}},
		{"New of all pieces", older, pieces(piece(0, 0, 7), piece(0, 1, 8), piece(0, 0, 9)), []int{7, 1, 8, 9}},
		{"New is no part of the older body", []int{1}, pieces(piece(0, 1, 2, 3), piece(0, 1, 2, 3)), []int{1, 2, 3, 1, 2, 3}},
		{"any numbers", []int{math.MinInt, -1, math.MaxInt}, pieces(piece(1, 2, math.MaxInt, -5), piece(0, 1)), []int{-1, math.MaxInt, math.MaxInt, -5, math.MinInt}},
	}
	for _, c := range cases {
		wantBody(t, c.name, c.older, c.l, c.want)
	}
}

// badPieces cannot be applied to a body of n numbers.
func badPieces(n int) []impl.Piece {
	return pieces(
		piece(-1, 0), piece(-1, 1), piece(-1, 2), piece(-1, n), piece(-1, n+1), piece(-n-1, n), piece(-2, 0), piece(math.MinInt, 0), piece(math.MinInt, n), piece(math.MinInt+1, 1),
		piece(0, -1), piece(1, -1), piece(n, -1), piece(n+1, -1), piece(n+5, -5), piece(n, -n-1), piece(0, math.MinInt), piece(n, math.MinInt), piece(1, math.MinInt+1),
		piece(-1, -1), piece(math.MinInt, math.MinInt), piece(math.MinInt, math.MaxInt), piece(math.MaxInt, math.MinInt),
		piece(0, n+1), piece(1, n), piece(n, 1), piece(n, 2), piece(n/2, n-n/2+1),
		piece(n+1, 0), piece(n+1, 1), piece(n+2, 0), piece(1<<32, 0), piece(0, 1<<32), piece(1<<32, 1<<32),
		piece(math.MaxInt, 0), piece(0, math.MaxInt), piece(math.MaxInt, 1), piece(1, math.MaxInt), piece(math.MaxInt, n), piece(n, math.MaxInt), piece(math.MaxInt, n+1), piece(n+1, math.MaxInt),
		piece(math.MaxInt, math.MaxInt), piece(math.MaxInt-n, n+1), piece(n+1, math.MaxInt-n), piece(1<<62, 1<<62), piece(1<<62, 1<<62+1), piece(math.MaxInt-1, 3),
	)
}

func TestApplyPiecesRejects(t *testing.T) {
	for _, n := range []int{0, 1, 2, 5, 100, 101, 1000, 1001} {
		older := counted(1, n)
		for i, p := range badPieces(n) {
			name := "piece " + strconv.Itoa(i)
			wantNoBody(t, name, older, pieces(p))
			wantNoBody(t, name+" with New", older, pieces(piece(p.From, p.Count, 7, 8)))
			wantNoBody(t, name+" ahead of others", older, pieces(p, piece(0, 0, 7)))
			wantNoBody(t, name+" behind others", older, pieces(piece(0, min(n, 3), 7), piece(n, 0), p))
			wantNoBody(t, name+" between others", older, pieces(piece(0, 0, 7), p, piece(0, min(n, 3))))
		}
	}
	for _, p := range badPieces(0) {
		wantNoBody(t, "nil", nil, pieces(p))
	}
}

func TestApplyPiecesTakesWhatThereIs(t *testing.T) {
	for n := range 6 {
		older := counted(1, n)
		for from := -2; from <= n+2; from++ {
			for count := -2; count <= n+2; count++ {
				if from < 0 || count < 0 || from+count > n {
					wantNoBody(t, "beyond", older, pieces(piece(from, count, 9)))
				} else {
					wantBody(t, "within", older, pieces(piece(from, count, 9)), append(counted(1+from, count), 9))
				}
			}
		}
	}
}

func TestApplyPiecesMakesBodiesUpToTheLimit(t *testing.T) {
	older := counted(1, 1001)
	ten := slices.Repeat(pieces(piece(0, 100)), 10)
	cases := []struct {
		name string
		l    []impl.Piece
		want []int
	}{
		{"taken", pieces(piece(0, 1000)), counted(1, 1000)},
		{"taken from the end", pieces(piece(1, 1000)), counted(2, 1000)},
		{"taken by ten pieces", ten, slices.Repeat(counted(1, 100), 10)},
		{"New", pieces(piece(0, 0, counted(1, 1000)...)), counted(1, 1000)},
		{"taken and New", pieces(piece(0, 999, 1000)), counted(1, 1000)},
		{"one taken and New", pieces(piece(0, 1, counted(2, 999)...)), counted(1, 1000)},
		{"taken by one and New of another", pieces(piece(0, 500), piece(0, 0, counted(501, 500)...)), counted(1, 1000)},
		{"New of one and taken by another", pieces(piece(0, 0, counted(1, 500)...), piece(500, 500)), counted(1, 1000)},
		{"and then nothing", pieces(piece(0, 1000), piece(0, 0), piece(1001, 0)), counted(1, 1000)},
		{"one by one", slices.Repeat(pieces(piece(6, 1)), 1000), slices.Repeat([]int{7}, 1000)},
		{"New one by one", slices.Repeat(pieces(piece(0, 0, 7)), 1000), slices.Repeat([]int{7}, 1000)},
	}
	for _, c := range cases {
		wantBody(t, c.name, older, c.l, c.want)
		wantNoBody(t, c.name+" and one taken", older, append(slices.Clone(c.l), piece(0, 1)))
		wantNoBody(t, c.name+" and one of New", older, append(slices.Clone(c.l), piece(0, 0, 1)))
		wantNoBody(t, c.name+" behind one of New", older, append(pieces(piece(0, 0, 1)), c.l...))
		wantNoBody(t, c.name+" with the first piece longer", older, append(pieces(piece(c.l[0].From, c.l[0].Count, append(slices.Clone(c.l[0].New), 1)...)), c.l[1:]...))
	}
	wantNoBody(t, "1001 taken", older, pieces(piece(0, 1001)))
	wantNoBody(t, "1001 of New", older, pieces(piece(0, 0, counted(1, 1001)...)))
	wantNoBody(t, "1001 of New of nil", nil, pieces(piece(0, 0, counted(1, 1001)...)))
	wantNoBody(t, "1000 taken and New", older, pieces(piece(0, 1000, 1)))
	wantNoBody(t, "1002", older, pieces(piece(0, 501), piece(0, 501)))
	wantNoBody(t, "very many", counted(1, 5000), slices.Repeat(pieces(piece(0, 5000, counted(1, 5000)...)), 50))
}

func TestApplyPiecesOfManyPieces(t *testing.T) {
	wantBody(t, "many pieces of nothing", []int{1}, slices.Repeat(pieces(impl.Piece{}), 5000), nil)
	wantBody(t, "a number behind many pieces", []int{1}, append(slices.Repeat(pieces(piece(1, 0)), 5000), piece(0, 1)), []int{1})
	wantNoBody(t, "a bad piece behind many", []int{1}, append(slices.Repeat(pieces(piece(1, 0)), 5000), piece(1, 1)))
	wantBody(t, "a long older body", counted(0, 100000), pieces(piece(99999, 1), piece(50000, 2)), []int{99999, 50000, 50001})
}

func TestCostOf(t *testing.T) {
	cases := []struct {
		name string
		l    []impl.Piece
		want int
	}{
		{"nil", nil, 0},
		{"empty", pieces(), 0},
		{"the zero piece", pieces(impl.Piece{}), 1},
		{"New is nil", pieces(impl.Piece{From: 1, Count: 7}), 1},
		{"New is empty", pieces(impl.Piece{From: 1, Count: 7, New: []int{}}), 1},
		{"one of New", pieces(piece(0, 0, 9)), 2},
		{"three of New", pieces(piece(4, 5, 9, 8, 7)), 4},
		{"two pieces", pieces(piece(0, 2, 9), piece(3, 2)), 3},
		{"the second has New", pieces(piece(0, 2), piece(3, 2, 9, 9)), 4},
		{"both have New", pieces(piece(0, 2, 1), piece(3, 2, 9, 9)), 5},
		{"pieces that cannot be applied", pieces(piece(-1, -1, -1), piece(math.MaxInt, math.MaxInt, math.MaxInt), piece(math.MinInt, 5)), 5},
		{"1001 of New", pieces(piece(0, 0, counted(1, 1001)...)), 1002},
		{"many empty pieces", slices.Repeat(pieces(impl.Piece{}), 5000), 5000},
		{"many pieces", slices.Repeat(pieces(piece(0, 1, 2, 3)), 3000), 9000},
	}
	for _, c := range cases {
		if got := impl.CostOf(c.l); got != c.want {
			t.Errorf("%s: CostOf = %d, want %d", c.name, got, c.want)
		}
	}
}

func TestCostOfPiecesOf(t *testing.T) {
	for _, c := range differingPairs() {
		if got := impl.CostOf(impl.PiecesOf(c.older, c.newer)); got != 2+len(c.new) {
			t.Errorf("%s: the cost is %d, want %d", c.name, got, 2+len(c.new))
		}
	}
}

func TestIsWorth(t *testing.T) {
	cases := []struct {
		pair
		want bool
	}{
		{pair{"both nil", nil, nil}, false},
		{pair{"both empty", []int{}, []int{}}, false},
		{pair{"a newer body that is nil", []int{1, 2, 3}, nil}, false},
		{pair{"a newer body that is empty", []int{1, 2, 3}, []int{}}, false},
		{pair{"an older body that is nil", nil, []int{1, 2, 3}}, false},
		{pair{"an older body that is empty", []int{}, counted(1, 100)}, false},
		{pair{"one equal number", []int{1}, []int{1}}, false},
		{pair{"two equal numbers", []int{1, 2}, []int{1, 2}}, false},
		{pair{"three equal numbers", []int{1, 2, 3}, []int{1, 2, 3}}, true},
		{pair{"two in common at the beginning", []int{1, 2}, []int{1, 2, 3, 4, 5}}, false},
		{pair{"three in common at the beginning", []int{1, 2, 3}, []int{1, 2, 3, 4, 5}}, true},
		{pair{"two in common at the end", []int{4, 5}, []int{1, 2, 3, 4, 5}}, false},
		{pair{"three in common at the end", []int{3, 4, 5}, []int{1, 2, 3, 4, 5}}, true},
		{pair{"one in common on either side", []int{1, 5}, []int{1, 2, 3, 4, 5}}, false},
		{pair{"one and two in common", []int{1, 4, 5}, []int{1, 2, 3, 4, 5}}, true},
		{pair{"two and one in common", []int{1, 2, 5}, []int{1, 2, 3, 4, 5}}, true},
		{pair{"nothing in common", counted(1, 100), counted(500, 100)}, false},
		{pair{"a long older body does not count", counted(1, 100), []int{1, 100}}, false},
		{pair{"100 equal numbers", counted(1, 100), counted(1, 100)}, true},
		{pair{"98 other numbers of 100", counted(1, 100), slices.Concat([]int{1}, counted(500, 98), []int{100})}, false},
		{pair{"97 other numbers of 100", counted(1, 100), slices.Concat([]int{1}, counted(500, 97), []int{99, 100})}, true},
	}
	for _, c := range cases {
		if got := impl.IsWorth(c.older, c.newer); got != c.want {
			t.Errorf("%s: IsWorth(%v, %v) = %v", c.name, c.older, c.newer, got)
		}
	}
}

// The empty list for a body of more than 100 numbers has no cost, which is less than the number of elements of any newer body but the empty one.
func TestIsWorthOfLongBodies(t *testing.T) {
	for _, c := range longPairs() {
		if got := impl.IsWorth(c.older, c.newer); got != (len(c.newer) > 0) {
			t.Errorf("%s: IsWorth = %v", c.name, got)
		}
	}
}

func TestIsWorthOfSmallBodies(t *testing.T) {
	for _, older := range smallBodies(4) {
		for _, newer := range smallBodies(5) {
			want := 2+len(wantedPieces(older, newer)[0].New) < len(newer)
			if got := impl.IsWorth(older, newer); got != want {
				t.Errorf("IsWorth(%v, %v) = %v", older, newer, got)
			}
		}
	}
}

// anyPairs are all the pairs of this file.
func anyPairs() []pair {
	list := longPairs()
	for _, c := range differingPairs() {
		list = append(list, c.pair)
	}
	return list
}

func TestDifferencesLeaveBodies(t *testing.T) {
	for _, c := range anyPairs() {
		older, wholeOlder := roomyInts(c.older)
		newer, wholeNewer := roomyInts(c.newer)
		wasOlder, wasNewer := slices.Clone(wholeOlder), slices.Clone(wholeNewer)
		l := impl.PiecesOf(older, newer)
		impl.IsWorth(older, newer)
		impl.ApplyPieces(older, l)
		for i := range l {
			overwriteInts(l[i].New)
		}
		if !slices.Equal(wholeOlder, wasOlder) || !slices.Equal(wholeNewer, wasNewer) {
			t.Errorf("%s: an argument was changed, or a piece shares its memory", c.name)
		}
	}
}

func TestPiecesShareNoMemory(t *testing.T) {
	for _, c := range anyPairs() {
		first, second := impl.PiecesOf(c.older, c.newer), impl.PiecesOf(c.older, c.newer)
		for i := range first {
			was := slices.Clone(second[i].New)
			overwriteInts(first[i].New)
			if !slices.Equal(second[i].New, was) {
				t.Errorf("%s: two results share memory", c.name)
			}
		}
		first = first[:cap(first)]
		for i := range first {
			first[i] = piece(-99, -99, -99)
		}
		if got := impl.PiecesOf(c.older, c.newer); !samePieces(got, second) {
			t.Errorf("%s: PiecesOf depends on an earlier result", c.name)
		}
	}
}

// roomyPieces returns a copy of l whose list and bodies have spare memory behind them, and a function that tells whether all of this memory is as it was.
func roomyPieces(l []impl.Piece) ([]impl.Piece, func() bool) {
	whole := append(slices.Clone(l), slices.Repeat(pieces(piece(-7, -7)), 8)...)
	bodies, wasBodies := [][]int{}, [][]int{}
	for i := range l {
		body, wholeBody := roomyInts(l[i].New)
		whole[i].New = body
		bodies = append(bodies, wholeBody)
		wasBodies = append(wasBodies, slices.Clone(wholeBody))
	}
	was := slices.Clone(whole)
	return whole[:len(l)], func() bool {
		return samePieces(whole, was) && slices.EqualFunc(bodies, wasBodies, slices.Equal[[]int])
	}
}

// someLists are lists of pieces for a body of five numbers, of which some cannot be applied.
func someLists() [][]impl.Piece {
	return [][]impl.Piece{
		nil, pieces(), pieces(impl.Piece{}), pieces(piece(0, 5)), pieces(piece(0, 0, 7, 8)), pieces(piece(1, 2), piece(0, 3)), pieces(piece(5, 0)), pieces(piece(3, 2, 8), piece(0, 1, 9)),
		pieces(piece(0, 5, counted(6, 995)...)), pieces(piece(0, 5, counted(6, 996)...)), pieces(piece(0, 0, counted(1, 2000)...)),
		pieces(piece(0, 6)), pieces(piece(0, 5), piece(-1, 0)), pieces(piece(0, 5, 6), piece(0, -1)), pieces(piece(0, 5, 6), piece(6, 0)), pieces(piece(math.MaxInt, 1, 5)), pieces(piece(1, math.MaxInt)),
	}
}

func TestApplyPiecesLeavesItsArguments(t *testing.T) {
	for i, l := range someLists() {
		older, whole := roomyInts(counted(1, 5))
		was := slices.Clone(whole)
		given, isAsItWas := roomyPieces(l)
		impl.CostOf(given)
		got, ok := impl.ApplyPieces(older, given)
		again, againOK := impl.ApplyPieces(older, given)
		want := slices.Clone(again)
		overwriteInts(got)
		if !isAsItWas() || !slices.Equal(whole, was) {
			t.Errorf("list %d: an argument was changed, or the result shares its memory", i)
		}
		if ok != againOK || !slices.Equal(again, want) {
			t.Errorf("list %d: two results share memory", i)
		}
	}
}
