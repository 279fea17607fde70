package tests

import (
	"slices"
	"testing"

	"loop.example/g01275/impl"
)

// powersWanted has what is told of the members of one committee.
type powersWanted struct {
	text                   string
	swings, pivots         []int
	decide                 impl.Share
	swingPowers, swingPart []impl.Share
	orders                 []impl.Share
	blocks, starts, agrees []impl.Share
	groups                 [][]int
	strongest              []int
}

func knownPowers() []powersWanted {
	return []powersWanted{
		{
			text: "5:3,2,2,1", swings: []int{5, 3, 3, 1}, pivots: []int{10, 6, 6, 2}, decide: share(7, 16),
			swingPowers: sharesOf(5, 8, 3, 8, 3, 8, 1, 8), swingPart: sharesOf(5, 12, 1, 4, 1, 4, 1, 12), orders: sharesOf(5, 12, 1, 4, 1, 4, 1, 12),
			blocks: sharesOf(5, 7, 3, 7, 3, 7, 1, 7), starts: sharesOf(5, 9, 1, 3, 1, 3, 1, 9), agrees: sharesOf(13, 16, 11, 16, 11, 16, 9, 16),
			groups: [][]int{{0}, {1, 2}, {3}}, strongest: []int{0},
		},
		{ // a dictator and dummies
			text: "4:4,1,1", swings: []int{4, 0, 0}, pivots: []int{6, 0, 0}, decide: share(1, 2),
			swingPowers: sharesOf(1, 1, 0, 1, 0, 1), swingPart: sharesOf(1, 1, 0, 1, 0, 1), orders: sharesOf(1, 1, 0, 1, 0, 1),
			blocks: sharesOf(1, 1, 0, 1, 0, 1), starts: sharesOf(1, 1, 0, 1, 0, 1), agrees: sharesOf(1, 1, 1, 2, 1, 2),
			groups: [][]int{{0}, {1, 2}}, strongest: []int{0},
		},
		{ // swing shares that are no order powers
			text: "5:4,1,1", swings: []int{3, 1, 1}, pivots: []int{4, 1, 1}, decide: share(3, 8),
			swingPowers: sharesOf(3, 4, 1, 4, 1, 4), swingPart: sharesOf(3, 5, 1, 5, 1, 5), orders: sharesOf(2, 3, 1, 6, 1, 6),
			blocks: sharesOf(1, 1, 1, 3, 1, 3), starts: sharesOf(3, 5, 1, 5, 1, 5), agrees: sharesOf(7, 8, 5, 8, 5, 8),
			groups: [][]int{{0}, {1, 2}}, strongest: []int{0},
		},
		{ // one member
			text: "1:1", swings: []int{1}, pivots: []int{1}, decide: share(1, 2),
			swingPowers: sharesOf(1, 1), swingPart: sharesOf(1, 1), orders: sharesOf(1, 1),
			blocks: sharesOf(1, 1), starts: sharesOf(1, 1), agrees: sharesOf(1, 1),
			groups: [][]int{{0}}, strongest: []int{0},
		},
		{ // a member without weight, before the dictator
			text: "1:0,1", swings: []int{0, 2}, pivots: []int{0, 2}, decide: share(1, 2),
			swingPowers: sharesOf(0, 1, 1, 1), swingPart: sharesOf(0, 1, 1, 1), orders: sharesOf(0, 1, 1, 1),
			blocks: sharesOf(0, 1, 1, 1), starts: sharesOf(0, 1, 1, 1), agrees: sharesOf(1, 2, 1, 1),
			groups: [][]int{{0}, {1}}, strongest: []int{1},
		},
		{ // the Quota 1
			text: "1:3,2,0,1", swings: []int{2, 2, 0, 2}, pivots: []int{8, 8, 0, 8}, decide: share(7, 8),
			swingPowers: sharesOf(1, 4, 1, 4, 0, 1, 1, 4), swingPart: sharesOf(1, 3, 1, 3, 0, 1, 1, 3), orders: sharesOf(1, 3, 1, 3, 0, 1, 1, 3),
			blocks: sharesOf(1, 7, 1, 7, 0, 1, 1, 7), starts: sharesOf(1, 1, 1, 1, 0, 1, 1, 1), agrees: sharesOf(5, 8, 5, 8, 1, 2, 5, 8),
			groups: [][]int{{0, 1, 3}, {2}}, strongest: []int{0, 1, 3},
		},
		{ // the Quota of all weights together
			text: "6:3,2,0,1", swings: []int{2, 2, 0, 2}, pivots: []int{8, 8, 0, 8}, decide: share(1, 8),
			swingPowers: sharesOf(1, 4, 1, 4, 0, 1, 1, 4), swingPart: sharesOf(1, 3, 1, 3, 0, 1, 1, 3), orders: sharesOf(1, 3, 1, 3, 0, 1, 1, 3),
			blocks: sharesOf(1, 1, 1, 1, 0, 1, 1, 1), starts: sharesOf(1, 7, 1, 7, 0, 1, 1, 7), agrees: sharesOf(5, 8, 5, 8, 1, 2, 5, 8),
			groups: [][]int{{0, 1, 3}, {2}}, strongest: []int{0, 1, 3},
		},
		{ // a dummy with weight
			text: "4:2,2,1", swings: []int{2, 2, 0}, pivots: []int{3, 3, 0}, decide: share(1, 4),
			swingPowers: sharesOf(1, 2, 1, 2, 0, 1), swingPart: sharesOf(1, 2, 1, 2, 0, 1), orders: sharesOf(1, 2, 1, 2, 0, 1),
			blocks: sharesOf(1, 1, 1, 1, 0, 1), starts: sharesOf(1, 3, 1, 3, 0, 1), agrees: sharesOf(3, 4, 3, 4, 1, 2),
			groups: [][]int{{0, 1}, {2}}, strongest: []int{0, 1},
		},
		{ // members of the same power that are not next to each other
			text: "4:1,2,1,2", swings: []int{2, 4, 2, 4}, pivots: []int{4, 8, 4, 8}, decide: share(3, 8),
			swingPowers: sharesOf(1, 4, 1, 2, 1, 4, 1, 2), swingPart: sharesOf(1, 6, 1, 3, 1, 6, 1, 3), orders: sharesOf(1, 6, 1, 3, 1, 6, 1, 3),
			blocks: sharesOf(1, 3, 2, 3, 1, 3, 2, 3), starts: sharesOf(1, 5, 2, 5, 1, 5, 2, 5), agrees: sharesOf(5, 8, 3, 4, 5, 8, 3, 4),
			groups: [][]int{{0, 2}, {1, 3}}, strongest: []int{1, 3},
		},
	}
}

func TestKnownPowers(t *testing.T) {
	for _, x := range knownPowers() {
		c := mustParse(t, x.text)
		checkNumbers(t, "SwingsOf", c, impl.SwingsOf, x.swings)
		checkNumbers(t, "PivotCounts", c, impl.PivotCounts, x.pivots)
		checkNumbers(t, "StrongestByOrders", c, impl.StrongestByOrders, x.strongest)
		checkShares(t, "SwingPowers", c, impl.SwingPowers, x.swingPowers)
		checkShares(t, "SwingShares", c, impl.SwingShares, x.swingPart)
		checkShares(t, "OrderPowers", c, impl.OrderPowers, x.orders)
		checkShares(t, "BlockPowers", c, impl.BlockPowers, x.blocks)
		checkShares(t, "StartPowers", c, impl.StartPowers, x.starts)
		checkShares(t, "AgreeChances", c, impl.AgreeChances, x.agrees)
		if s, ok := impl.DecidePower(c); !ok || s != x.decide {
			t.Errorf("DecidePower(%s) = %v, %v", x.text, s, ok)
		}
		if got, ok := impl.SamePower(c); !ok || !sameSets(got, x.groups) {
			t.Errorf("SamePower(%s) = %v, %v", x.text, got, ok)
		}
	}
}

func checkNumbers(t *testing.T, name string, c impl.Committee, fn func(impl.Committee) ([]int, bool), want []int) {
	t.Helper()
	if got, ok := fn(c); !ok || !slices.Equal(got, want) {
		t.Fatalf("%s(%v) = %v, %v, want %v", name, c, got, ok, want)
	}
}

func checkShares(t *testing.T, name string, c impl.Committee, fn func(impl.Committee) ([]impl.Share, bool), want []impl.Share) {
	t.Helper()
	if got, ok := fn(c); !ok || !slices.Equal(got, want) {
		t.Fatalf("%s(%v) = %v, %v, want %v", name, c, got, ok, want)
	}
}

// TestNineMembers has the greatest numbers that there can be.
func TestNineMembers(t *testing.T) {
	for _, x := range []struct {
		text      string
		swings    int
		decide    impl.Share
		blockPart impl.Share
		startPart impl.Share
	}{
		{"5:1,1,1,1,1,1,1,1,1", 70, share(1, 2), share(35, 128), share(35, 128)},
		{"1:1,1,1,1,1,1,1,1,1", 1, share(511, 512), share(1, 511), share(1, 1)},
		{"9000:1000,1000,1000,1000,1000,1000,1000,1000,1000", 1, share(1, 512), share(1, 1), share(1, 511)},
	} {
		c := mustParse(t, x.text)
		checkNumbers(t, "SwingsOf", c, impl.SwingsOf, ofWeight(x.swings, 9))
		checkNumbers(t, "PivotCounts", c, impl.PivotCounts, ofWeight(40320, 9))
		checkNumbers(t, "StrongestByOrders", c, impl.StrongestByOrders, upTo(9))
		checkShares(t, "OrderPowers", c, impl.OrderPowers, partsOf(ofWeight(1, 9), 9))
		checkShares(t, "SwingShares", c, impl.SwingShares, partsOf(ofWeight(1, 9), 9))
		checkShares(t, "SwingPowers", c, impl.SwingPowers, partsOf(ofWeight(x.swings, 9), 256))
		checkShares(t, "BlockPowers", c, impl.BlockPowers, slices.Repeat([]impl.Share{x.blockPart}, 9))
		checkShares(t, "StartPowers", c, impl.StartPowers, slices.Repeat([]impl.Share{x.startPart}, 9))
		if s, ok := impl.DecidePower(c); !ok || s != x.decide {
			t.Errorf("DecidePower(%s) = %v, %v", x.text, s, ok)
		}
		if got, ok := impl.SamePower(c); !ok || !sameSets(got, [][]int{upTo(9)}) {
			t.Errorf("SamePower(%s) = %v, %v", x.text, got, ok)
		}
	}
	dictator := mustParse(t, "1:0,0,0,0,0,0,0,0,7")
	checkNumbers(t, "SwingsOf", dictator, impl.SwingsOf, []int{0, 0, 0, 0, 0, 0, 0, 0, 256})
	checkNumbers(t, "PivotCounts", dictator, impl.PivotCounts, []int{0, 0, 0, 0, 0, 0, 0, 0, 362880})
	checkShares(t, "OrderPowers", dictator, impl.OrderPowers, sharesOf(0, 1, 0, 1, 0, 1, 0, 1, 0, 1, 0, 1, 0, 1, 0, 1, 1, 1))
}

func TestSwingSets(t *testing.T) {
	for _, x := range []struct {
		text   string
		k      int
		want   [][]int
		bySize []int
	}{
		{"5:3,2,2,1", 0, [][]int{{1}, {1, 2}, {1, 3}, {2}, {2, 3}}, []int{0, 2, 3, 0}},
		{"5:3,2,2,1", 1, [][]int{{0}, {0, 3}, {2, 3}}, []int{0, 1, 2, 0}},
		{"5:3,2,2,1", 2, [][]int{{0}, {0, 3}, {1, 3}}, []int{0, 1, 2, 0}},
		{"5:3,2,2,1", 3, [][]int{{1, 2}}, []int{0, 0, 1, 0}},
		{"4:4,1,1", 0, [][]int{{}, {1}, {1, 2}, {2}}, []int{1, 2, 1}},
		{"4:4,1,1", 1, nil, []int{0, 0, 0}},
		{"4:4,1,1", 2, nil, []int{0, 0, 0}},
		{"1:1", 0, [][]int{{}}, []int{1}},
		{"1:0,1", 0, nil, []int{0, 0}},
		{"1:0,1", 1, [][]int{{}, {0}}, []int{1, 1}},
		{"8:3,2,2,1", 2, [][]int{{0, 1, 3}}, []int{0, 0, 0, 1}},
		{"1:3,2,2,1", 2, [][]int{{}}, []int{1, 0, 0, 0}},
		{"9:1,1,1,1,1,1,1,1,1", 0, [][]int{{1, 2, 3, 4, 5, 6, 7, 8}}, []int{0, 0, 0, 0, 0, 0, 0, 0, 1}},
		{"9:1,1,1,1,1,1,1,1,1", 8, [][]int{{0, 1, 2, 3, 4, 5, 6, 7}}, []int{0, 0, 0, 0, 0, 0, 0, 0, 1}},
	} {
		c := mustParse(t, x.text)
		if got, ok := impl.SwingSets(c, x.k); !ok || !sameSets(got, x.want) {
			t.Errorf("SwingSets(%s, %d) = %v, %v", x.text, x.k, got, ok)
		}
		if got, ok := impl.SwingsBySize(c, x.k); !ok || !slices.Equal(got, x.bySize) {
			t.Errorf("SwingsBySize(%s, %d) = %v, %v", x.text, x.k, got, ok)
		}
	}
}

func TestPivotOf(t *testing.T) {
	for _, x := range []struct {
		text  string
		order []int
		want  int
	}{
		{"5:3,2,2,1", []int{3, 1, 0, 2}, 0},
		{"5:3,2,2,1", []int{0, 1, 2, 3}, 1},
		{"5:3,2,2,1", []int{3, 2, 1, 0}, 1},
		{"5:3,2,2,1", []int{1, 2, 3, 0}, 3},
		{"5:3,2,2,1", []int{1, 2, 0, 3}, 0},
		{"4:4,1,1", []int{0, 1, 2}, 0},
		{"4:4,1,1", []int{1, 2, 0}, 0},
		{"1:1", []int{0}, 0},
		{"1:0,1", []int{0, 1}, 1},
		{"1:0,1", []int{1, 0}, 1},
		{"1:1,1,1", []int{2, 0, 1}, 2},
		{"3:1,1,1", []int{2, 0, 1}, 1},
		{"8:3,2,2,1", []int{0, 1, 3, 2}, 2},
		{"9:1,1,1,1,1,1,1,1,1", []int{8, 7, 6, 5, 4, 3, 2, 1, 0}, 0},
		{"5:1,1,1,1,1,1,1,1,1", []int{8, 0, 6, 5, 7, 3, 2, 1, 4}, 7},
	} {
		if k, ok := impl.PivotOf(mustParse(t, x.text), x.order); !ok || k != x.want {
			t.Errorf("PivotOf(%s, %v) = %v, %v", x.text, x.order, k, ok)
		}
	}
}
