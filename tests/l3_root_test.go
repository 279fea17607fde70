package tests

import (
	"slices"
	"testing"

	"loop.example/g01275/impl"
)

func TestRootQuota(t *testing.T) {
	for _, x := range []struct {
		weights []int
		want    int
	}{
		{[]int{10, 5, 3}, 15},
		// One weight that is not 0 is its own root.
		{[]int{1}, 1},
		{[]int{2}, 2},
		{[]int{1000}, 1000},
		{[]int{0, 1}, 1},
		{[]int{0, 0, 7, 0}, 7},
		{[]int{0, 0, 0, 0, 0, 0, 0, 0, 1000}, 1000},
		// Sums of squares that are squares.
		{[]int{3, 4}, 6},
		{[]int{4, 0, 3}, 6},
		{[]int{5, 12}, 15},
		{[]int{1, 2, 2}, 4},
		{[]int{1, 1, 1, 1}, 3},
		{[]int{600, 800}, 1200},
		{[]int{1000, 1000, 1000, 1000}, 3000},
		{ofWeight(1, 9), 6},
		{ofWeight(1000, 9), 6000},
		// One less: 8, 24, 80, and 2000 times itself less 1.
		{[]int{2, 2}, 4},
		{[]int{2, 2, 4}, 7},
		{[]int{8, 4}, 11},
		{[]int{1, 1, 1}, 3},
		{[]int{1000, 1000, 1000, 999, 44, 7, 3, 2}, 3028},
		// One more: 2, 5, 10, 26, 1000001, 4000001.
		{[]int{1, 1}, 2},
		{[]int{1, 2}, 3},
		{[]int{3, 1}, 4},
		{[]int{5, 1}, 6},
		{[]int{1, 1000}, 1001},
		{[]int{1000, 1000, 1000, 1000, 1}, 3001},
		// Two more: the root exceeds a whole number by little, and needs a whole one more.
		{[]int{5, 1, 1}, 7},
		{[]int{1000, 1, 1}, 1002},
		{[]int{1000, 1000, 1000, 1000, 1, 1}, 3002},
	} {
		if got, ok := impl.RootQuota(x.weights); !ok || got != x.want {
			t.Errorf("RootQuota(%v) = %v, %v, want %d", x.weights, got, ok, x.want)
		}
	}
}

// reachesHalf reports whether a whole number is at least half the sum of the sum and the root, told without roots.
func reachesHalf(q int, weights []int) bool {
	sum, squares := 0, 0
	for _, w := range weights {
		sum += w
		squares += w * w
	}
	more := 2*q - sum
	return more >= 0 && more*more >= squares
}

func checkRootQuota(t *testing.T, weights []int) {
	t.Helper()
	q, ok := impl.RootQuota(weights)
	if !ok || !reachesHalf(q, weights) || reachesHalf(q-1, weights) {
		t.Fatalf("RootQuota(%v) = %v, %v", weights, q, ok)
	}
	if c := committee(q, weights...); !impl.IsCommittee(c) {
		t.Fatalf("%v is no committee", c)
	}
}

// TestRootQuotasByTheirWords has all pairs of weights, three that are low, and many lists of any length.
func TestRootQuotasByTheirWords(t *testing.T) {
	for a := range impl.MaxWeight + 1 {
		for b := max(1, a); b <= impl.MaxWeight; b++ {
			checkRootQuota(t, []int{a, b})
		}
	}
	for a := range 41 {
		for b := range 41 {
			for c := 1; c <= 41; c++ {
				checkRootQuota(t, []int{a, b, c})
			}
		}
	}
	for _, c := range manyCommittees() {
		checkRootQuota(t, c.Weights)
	}
}

func TestRootCommittee(t *testing.T) {
	for _, x := range []struct {
		people []int
		want   string
	}{
		{[]int{100, 25, 9}, "15:10,5,3"},
		{[]int{9, 100, 25}, "15:3,10,5"},
		{[]int{1}, "1:1"},
		{[]int{3}, "1:1"},
		{[]int{4}, "2:2"},
		{[]int{8}, "2:2"},
		{[]int{1000000}, "1000:1000"},
		{[]int{999999}, "999:999"},
		{[]int{998001}, "999:999"},
		{[]int{998000}, "998:998"},
		{[]int{1, 1000000}, "1001:1,1000"},
		{[]int{120, 35, 15}, "15:10,5,3"},
		{[]int{99, 24, 8}, "13:9,4,2"},
		{ofWeight(1, 9), "6:1,1,1,1,1,1,1,1,1"},
		{ofWeight(1000000, 9), "6000:1000,1000,1000,1000,1000,1000,1000,1000,1000"},
	} {
		c, ok := impl.RootCommittee(x.people)
		if !ok || !sameCommittee(c, mustParse(t, x.want)) {
			t.Errorf("RootCommittee(%v) = %v, %v, want %s", x.people, c, ok, x.want)
		}
	}
}

// TestRootsOfAllPeople goes through all numbers of people.
func TestRootsOfAllPeople(t *testing.T) {
	for people := range slices.Chunk(fromTo(1, impl.MaxPeople), 9) {
		c, ok := impl.RootCommittee(people)
		if !ok || !impl.IsCommittee(c) || len(c.Weights) != len(people) {
			t.Fatalf("RootCommittee(%v) = %v, %v", people, c, ok)
		}
		for i, w := range c.Weights {
			if w*w > people[i] || (w+1)*(w+1) <= people[i] {
				t.Fatalf("RootCommittee(%v) = %v", people, c)
			}
		}
		if !reachesHalf(c.Quota, c.Weights) || reachesHalf(c.Quota-1, c.Weights) {
			t.Fatalf("RootCommittee(%v) = %v", people, c)
		}
	}
}
