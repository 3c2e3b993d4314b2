package tests

import (
	"math"
	"slices"
	"testing"

	"loop.example/g00586/impl"
)

func TestEqualInts(t *testing.T) {
	lists := [][]int{{}, {0}, {1}, {-1}, {0, 0}, {0, 1}, {1, 0}, {1, 2}, {1, 2, 0}, {0, 1, 2}, {1, 2, 3}, {1, 258}, {257, 2},
		{1 << 32}, {1<<32 + 1}, {math.MaxInt}, {math.MinInt}, {math.MaxInt, math.MinInt}}
	for i, a := range lists {
		for j, b := range lists {
			if got := impl.EqualInts(a, slices.Clone(b)); got != (i == j) {
				t.Errorf("EqualInts(%v, %v) is %t", a, b, got)
			}
		}
		if impl.EqualInts(a, nil) != (i == 0) || impl.EqualInts(nil, a) != (i == 0) {
			t.Errorf("EqualInts of %v and nil", a)
		}
	}
	if !impl.EqualInts(nil, nil) {
		t.Error("EqualInts(nil, nil) is false")
	}
}

func TestEqualIntsLeavesArgumentsAlone(t *testing.T) {
	checkApart(t, "EqualInts", []int{5, 300}, 170, 0, func(l []int) []int { impl.EqualInts(l, l[1:]); return nil }, 85)
}
