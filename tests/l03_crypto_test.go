package tests

import (
	"math"
	"slices"
	"testing"

	"loop.example/g03002/impl"
)

func TestEqualInts(t *testing.T) {
	lists := [][]int{{}, {0}, {0, 0}, {1}, {-1}, {1, 2}, {2, 1}, {1, 3}, {1, 2, 3}, {math.MinInt}, {math.MaxInt}}
	for i, a := range lists {
		for j, b := range lists {
			if got := impl.EqualInts(slices.Clone(a), slices.Clone(b)); got != (i == j) {
				t.Errorf("EqualInts(%v, %v) = %v", a, b, got)
			}
		}
		if got := impl.EqualInts(nil, a); got != (len(a) == 0) {
			t.Errorf("EqualInts(nil, %v) = %v", a, got)
		}
		if got := impl.EqualInts(a, nil); got != (len(a) == 0) {
			t.Errorf("EqualInts(%v, nil) = %v", a, got)
		}
	}
	if !impl.EqualInts(nil, nil) {
		t.Error("EqualInts(nil, nil) = false")
	}
}
