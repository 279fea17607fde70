package tests

import (
	"slices"
	"testing"

	"loop.example/g01275/impl"
)

func TestConstants(t *testing.T) {
	if impl.MaxMembers != 9 || impl.MaxWeight != 1000 {
		t.Error(impl.MaxMembers, impl.MaxWeight)
	}
}

func TestIsCommittee(t *testing.T) {
	for _, c := range manyCommittees() {
		if !impl.IsCommittee(c) {
			t.Errorf("%v is a committee", c)
		}
	}
	for _, c := range invalidCommittees() {
		if impl.IsCommittee(c) {
			t.Errorf("%v is no committee", c)
		}
	}
}

func TestSetLists(t *testing.T) {
	none := [][]int{}
	justNone := [][]int{{}}
	for _, x := range []struct {
		text                      string
		winning, losing, blocking [][]int
	}{
		{"5:3,2,2,1", [][]int{{0, 1}, {0, 2}, {1, 2, 3}}, [][]int{{0, 3}, {1, 2}, {1, 3}, {2, 3}}, [][]int{{0, 1}, {0, 2}, {0, 3}, {1, 2}}},
		{"4:4,1,1", [][]int{{0}}, [][]int{{1, 2}}, [][]int{{0}}},
		{"5:4,1,1", [][]int{{0, 1}, {0, 2}}, [][]int{{0}, {1, 2}}, [][]int{{0}, {1, 2}}},
		{"1:1,1,1", [][]int{{0}, {1}, {2}}, justNone, [][]int{{0, 1, 2}}},
		{"3:1,1,1", [][]int{{0, 1, 2}}, [][]int{{0, 1}, {0, 2}, {1, 2}}, [][]int{{0}, {1}, {2}}},
		{"1:1", [][]int{{0}}, justNone, [][]int{{0}}},
		{"1:0,1", [][]int{{1}}, [][]int{{0}}, [][]int{{1}}},
		{"2:1,0,1", [][]int{{0, 2}}, [][]int{{0, 1}, {1, 2}}, [][]int{{0}, {2}}},
		{"9000:1000,1000,1000,1000,1000,1000,1000,1000,1000", [][]int{{0, 1, 2, 3, 4, 5, 6, 7, 8}}, nil, nil},
		{"1:1,1,1,1,1,1,1,1,1", nil, justNone, [][]int{{0, 1, 2, 3, 4, 5, 6, 7, 8}}},
	} {
		c := mustParse(t, x.text)
		if got, ok := impl.LeastWinning(c); !ok || x.winning != nil && !sameSets(got, x.winning) {
			t.Errorf("LeastWinning(%s) = %v, %v", x.text, got, ok)
		}
		if got, ok := impl.GreatestLosing(c); !ok || x.losing != nil && !sameSets(got, x.losing) {
			t.Errorf("GreatestLosing(%s) = %v, %v", x.text, got, ok)
		}
		if got, ok := impl.LeastBlocking(c); !ok || x.blocking != nil && !sameSets(got, x.blocking) {
			t.Errorf("LeastBlocking(%s) = %v, %v", x.text, got, ok)
		}
	}
	if sameSets(none, justNone) {
		t.Error("the tests cannot tell no sets from the set without members")
	}
}

func TestMembers(t *testing.T) {
	for _, x := range []struct {
		text            string
		dictator        int
		vetoes, dummies []int
	}{
		{"5:3,2,2,1", -1, nil, nil},
		{"4:4,1,1", 0, []int{0}, []int{1, 2}},
		{"5:4,1,1", -1, []int{0}, nil},
		{"4:1,1,4", 2, []int{2}, []int{0, 1}},
		{"2:1,2,1", -1, nil, nil},
		{"3:1,3,1", 1, []int{1}, []int{0, 2}},
		{"1:1", 0, []int{0}, nil},
		{"1:1000", 0, []int{0}, nil},
		{"1:0,1", 1, []int{1}, []int{0}},
		{"1:1,1", -1, nil, nil},
		{"2:1,1", -1, []int{0, 1}, nil},
		{"8:3,2,2,1", -1, []int{0, 1, 2, 3}, nil},
		{"8:3,2,0,2,1", -1, []int{0, 1, 3, 4}, []int{2}},
		{"1:3,2,2,1", -1, nil, nil},
		{"1:3,0,2,0", -1, nil, []int{1, 3}},
		{"4:2,2,1", -1, []int{0, 1}, []int{2}},
		{"51:50,49,1", -1, []int{0}, nil},
		{"9:1,1,1,1,1,1,1,1,1", -1, []int{0, 1, 2, 3, 4, 5, 6, 7, 8}, nil},
		{"1:0,0,0,0,0,0,0,0,7", 8, []int{8}, []int{0, 1, 2, 3, 4, 5, 6, 7}},
	} {
		c := mustParse(t, x.text)
		k, ok := impl.DictatorOf(c)
		if ok != (x.dictator >= 0) || k != max(x.dictator, 0) {
			t.Errorf("DictatorOf(%s) = %v, %v", x.text, k, ok)
		}
		if got, ok := impl.VetoMembers(c); !ok || !slices.Equal(got, x.vetoes) {
			t.Errorf("VetoMembers(%s) = %v, %v", x.text, got, ok)
		}
		if got, ok := impl.DummiesOf(c); !ok || !slices.Equal(got, x.dummies) {
			t.Errorf("DummiesOf(%s) = %v, %v", x.text, got, ok)
		}
	}
}

func TestWeightsAndCounts(t *testing.T) {
	for _, x := range []struct {
		text         string
		total, count int
		bySize       []int
	}{
		{"5:3,2,2,1", 8, 7, []int{0, 0, 2, 4, 1}},
		{"4:4,1,1", 6, 4, []int{0, 1, 2, 1}},
		{"5:4,1,1", 6, 3, []int{0, 0, 2, 1}},
		{"1:1", 1, 1, []int{0, 1}},
		{"1:0,1", 1, 2, []int{0, 1, 1}},
		{"8:3,2,2,1", 8, 1, []int{0, 0, 0, 0, 1}},
		{"1:3,2,2,1", 8, 15, []int{0, 4, 6, 4, 1}},
		{"5:1,1,1,1,1,1,1,1,1", 9, 256, []int{0, 0, 0, 0, 0, 126, 84, 36, 9, 1}},
		{"9000:1000,1000,1000,1000,1000,1000,1000,1000,1000", 9000, 1, []int{0, 0, 0, 0, 0, 0, 0, 0, 0, 1}},
	} {
		c := mustParse(t, x.text)
		if n, ok := impl.TotalWeight(c); !ok || n != x.total {
			t.Errorf("TotalWeight(%s) = %v, %v", x.text, n, ok)
		}
		if n, ok := impl.CountWinning(c); !ok || n != x.count {
			t.Errorf("CountWinning(%s) = %v, %v", x.text, n, ok)
		}
		for size, want := range x.bySize {
			if n, ok := impl.CountWinningOf(c, size); !ok || n != want {
				t.Errorf("CountWinningOf(%s, %d) = %v, %v", x.text, size, n, ok)
			}
		}
	}
}

func TestSetsOfOneCommittee(t *testing.T) {
	c := committee(5, 3, 2, 2, 1)
	for _, x := range []struct {
		set          []int
		weight       int
		wins, blocks bool
	}{
		{nil, 0, false, false},
		{[]int{}, 0, false, false},
		{[]int{0}, 3, false, false},
		{[]int{3}, 1, false, false},
		{[]int{0, 1}, 5, true, true},
		{[]int{0, 3}, 4, false, true},
		{[]int{1, 2}, 4, false, true},
		{[]int{1, 3}, 3, false, false},
		{[]int{1, 2, 3}, 5, true, true},
		{[]int{0, 1, 2, 3}, 8, true, true},
	} {
		if n, ok := impl.WeightOfSet(c, x.set); !ok || n != x.weight {
			t.Errorf("WeightOfSet(%v) = %v, %v", x.set, n, ok)
		}
		if b, ok := impl.IsWinning(c, x.set); !ok || b != x.wins {
			t.Errorf("IsWinning(%v) = %v, %v", x.set, b, ok)
		}
		if b, ok := impl.IsBlocking(c, x.set); !ok || b != x.blocks {
			t.Errorf("IsBlocking(%v) = %v, %v", x.set, b, ok)
		}
	}
}

func TestProperAndStrong(t *testing.T) {
	for _, x := range []struct {
		text           string
		proper, strong bool
	}{
		{"5:3,2,2,1", true, false},
		{"4:3,2,2,1", false, true},
		{"2:1,1,1", true, true},
		{"4:4,1,1", true, true},
		{"1:1,1", false, true},
		{"2:1,1", true, false},
		{"1:1", true, true},
		{"1:0,1", true, true},
		{"4:2,2,1,1", true, false},
		{"3:2,2,1,1", false, true},
		{"1:1,1,1,1,1,1,1,1,1", false, true},
		{"5:1,1,1,1,1,1,1,1,1", true, true},
		{"9:1,1,1,1,1,1,1,1,1", true, false},
		// Weights whose half no set has: the same sets win from one half up to more.
		{"2:3,1", true, true},
		{"3:5,1,1", true, true},
	} {
		c := mustParse(t, x.text)
		if b, ok := impl.IsProper(c); !ok || b != x.proper {
			t.Errorf("IsProper(%s) = %v, %v", x.text, b, ok)
		}
		if b, ok := impl.IsStrong(c); !ok || b != x.strong {
			t.Errorf("IsStrong(%s) = %v, %v", x.text, b, ok)
		}
	}
}

func TestDualCommittee(t *testing.T) {
	for _, x := range [][2]string{
		{"5:3,2,2,1", "4:3,2,2,1"},
		{"1:1", "1:1"},
		{"1:3,2,2,1", "8:3,2,2,1"},
		{"1:0,1", "1:0,1"},
		{"9000:1000,1000,1000,1000,1000,1000,1000,1000,1000", "1:1000,1000,1000,1000,1000,1000,1000,1000,1000"},
	} {
		for _, y := range [][2]string{x, {x[1], x[0]}} {
			d, ok := impl.DualCommittee(mustParse(t, y[0]))
			if !ok || !sameCommittee(d, mustParse(t, y[1])) {
				t.Errorf("DualCommittee(%s) = %v, %v", y[0], d, ok)
			}
		}
	}
}

func TestRenameCommittee(t *testing.T) {
	for _, x := range []struct {
		c     impl.Committee
		order []int
		want  impl.Committee
	}{
		{committee(5, 3, 2, 2, 1), []int{3, 0, 1, 2}, committee(5, 1, 3, 2, 2)},
		{committee(5, 4, 1, 0), []int{1, 2, 0}, committee(5, 1, 0, 4)},
		{committee(1, 7), []int{0}, committee(1, 7)},
		{committee(45, 1, 2, 3, 4, 5, 6, 7, 8, 9), []int{8, 7, 6, 5, 4, 3, 2, 1, 0}, committee(45, 9, 8, 7, 6, 5, 4, 3, 2, 1)},
	} {
		if got, ok := impl.RenameCommittee(x.c, x.order); !ok || !sameCommittee(got, x.want) {
			t.Errorf("RenameCommittee(%v, %v) = %v, %v", x.c, x.order, got, ok)
		}
	}
}

func TestDropMember(t *testing.T) {
	for _, x := range []struct {
		c    impl.Committee
		k    int
		want impl.Committee
		ok   bool
	}{
		{committee(5, 3, 2, 2, 1), 0, committee(5, 2, 2, 1), true},
		{committee(5, 3, 2, 2, 1), 1, committee(5, 3, 2, 1), true},
		{committee(5, 3, 2, 2, 1), 3, committee(5, 3, 2, 2), true},
		{committee(6, 3, 2, 2, 1), 1, committee(6, 3, 2, 1), true},
		{committee(7, 3, 2, 2, 1), 1, impl.Committee{}, false},
		{committee(7, 3, 2, 2, 1), 3, committee(7, 3, 2, 2), true},
		{committee(8, 3, 2, 2, 1), 3, impl.Committee{}, false},
		{committee(1, 1), 0, impl.Committee{}, false},
		{committee(1, 0, 1), 0, committee(1, 1), true},
		{committee(1, 0, 1), 1, impl.Committee{}, false},
		{committee(8, ofWeight(1, 9)...), 8, committee(8, ofWeight(1, 8)...), true},
		{committee(9, ofWeight(1, 9)...), 8, impl.Committee{}, false},
	} {
		if got, ok := impl.DropMember(x.c, x.k); ok != x.ok || !sameCommittee(got, x.want) {
			t.Errorf("DropMember(%v, %d) = %v, %v", x.c, x.k, got, ok)
		}
	}
}

func TestAreSameVotes(t *testing.T) {
	for _, x := range []struct {
		a, b string
		want bool
	}{
		{"5:3,2,2,1", "5:3,2,2,1", true},
		{"5:3,2,2,1", "50:30,20,20,10", true},
		{"5:3,2,2,1", "4:3,2,2,1", false},
		{"5:3,2,2,1", "5:2,3,2,1", false},
		{"5:3,2,2,1", "5:3,2,2", false},
		{"5:3,2,2,1", "5:3,2,2,1,0", false},
		{"2:1,1,1", "4:3,3,3", true},
		{"2:1,1,1", "51:50,49,2", true},
		{"2:1,1,1", "51:50,49,1", false},
		{"1:1", "1000:1000", true},
		{"1:1", "1:1,0", false},
		{"1:1,0", "1:1", false},
		{"1:1,0", "1:0,1", false},
		{"9:1,1,1,1,1,1,1,1,1", "9000:1000,1000,1000,1000,1000,1000,1000,1000,1000", true},
		{"8001:1000,1000,1000,1000,1000,1000,1000,1000,1000", "9:1,1,1,1,1,1,1,1,1", true},
		{"8000:1000,1000,1000,1000,1000,1000,1000,1000,1000", "9:1,1,1,1,1,1,1,1,1", false},
	} {
		if got, ok := impl.AreSameVotes(mustParse(t, x.a), mustParse(t, x.b)); !ok || got != x.want {
			t.Errorf("AreSameVotes(%s, %s) = %v, %v", x.a, x.b, got, ok)
		}
	}
}
