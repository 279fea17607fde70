package tests

import (
	"slices"
	"testing"

	"loop.example/g01275/impl"
)

// chapter2Calls has each function of the chapter that takes a committee, with other arguments that fit every one.
func chapter2Calls(c impl.Committee) []call {
	return []call{
		callOf("SwingsOf", impl.SwingsOf, c),
		callOf("SwingSets", impl.SwingSets, c, 0),
		callOf("SwingPowers", impl.SwingPowers, c),
		callOf("SwingShares", impl.SwingShares, c),
		callOf("OrderPowers", impl.OrderPowers, c),
		callOf("PivotCounts", impl.PivotCounts, c),
		callOf("PivotOf", impl.PivotOf, c, upTo(len(c.Weights))),
		callOf("SwingsBySize", impl.SwingsBySize, c, 0),
		callOf("DecidePower", impl.DecidePower, c),
		callOf("BlockPowers", impl.BlockPowers, c),
		callOf("StartPowers", impl.StartPowers, c),
		callOf("AgreeChances", impl.AgreeChances, c),
		callOf("SamePower", impl.SamePower, c),
		callOf("StrongestByOrders", impl.StrongestByOrders, c),
	}
}

func TestPowersOfInvalidCommittees(t *testing.T) {
	for _, c := range append(invalidCommittees(), committee(1, ofWeight(1, 64)...), committee(1, ofWeight(1, 5000)...)) {
		for _, x := range chapter2Calls(c) {
			x.mustFail(t)
		}
		callOf("PivotOf", impl.PivotOf, c, []int(nil)).mustFail(t)
		for _, k := range someInts {
			callOf("SwingSets", impl.SwingSets, c, k).mustFail(t)
			callOf("SwingsBySize", impl.SwingsBySize, c, k).mustFail(t)
			callOf("PivotOf", impl.PivotOf, c, []int{k}).mustFail(t)
		}
	}
}

func TestPivotsOfInvalidOrders(t *testing.T) {
	for _, c := range []impl.Committee{committee(5, 3, 2, 2, 1), committee(1, 3, 2, 2, 1), committee(8, 3, 2, 2, 1)} {
		for _, order := range noOrders() {
			callOf("PivotOf", impl.PivotOf, c, order).mustFail(t)
		}
	}
	callOf("PivotOf", impl.PivotOf, committee(1, 1), []int{1}).mustFail(t)
	callOf("PivotOf", impl.PivotOf, committee(1, 1), []int{0, 0}).mustFail(t)
	callOf("PivotOf", impl.PivotOf, committee(1, ofWeight(1, 9)...), upTo(10)).mustFail(t)
	callOf("PivotOf", impl.PivotOf, committee(1, ofWeight(1, 9)...), upTo(8)).mustFail(t)
}

func TestPowersOfInvalidMembers(t *testing.T) {
	for _, c := range []impl.Committee{committee(5, 3, 2, 2, 1), committee(1, 1), committee(4, 4, 1, 1), committee(1, ofWeight(1, 9)...)} {
		n := len(c.Weights)
		for _, k := range slices.Concat(someInts, upTo(12)) {
			if k < 0 || k >= n {
				callOf("SwingSets", impl.SwingSets, c, k).mustFail(t)
				callOf("SwingsBySize", impl.SwingsBySize, c, k).mustFail(t)
				continue
			}
			if sets, ok := impl.SwingSets(c, k); !ok {
				t.Errorf("SwingSets(%v, %d) = %v, %v", c, k, sets, ok)
			}
			if counts, ok := impl.SwingsBySize(c, k); !ok || len(counts) != n {
				t.Errorf("SwingsBySize(%v, %d) = %v, %v", c, k, counts, ok)
			}
		}
	}
}

// TestPowersKeepArguments checks for calls that succeed and for calls that fail that they change, share and keep nothing.
func TestPowersKeepArguments(t *testing.T) {
	for _, c := range slices.Concat(validCommittees(), mixedCommittees(), invalidCommittees()) {
		for _, x := range chapter2Calls(c) {
			x.mustKeepArguments(t)
		}
	}
	c := committee(5, 3, 2, 2, 1)
	for _, order := range append(noOrders(), []int{3, 2, 1, 0}, []int{1, 0, 3, 2}, []int{0, 1, 2, 3}) {
		callOf("PivotOf", impl.PivotOf, c, order).mustKeepArguments(t)
	}
	for _, k := range someInts {
		callOf("SwingSets", impl.SwingSets, c, k).mustKeepArguments(t)
		callOf("SwingsBySize", impl.SwingsBySize, c, k).mustKeepArguments(t)
	}
	for _, s := range append(invalidShares(), share(0, 1), share(1, 1), share(1, 2), share(999999, 1000000)) {
		callOf("CompareShares", impl.CompareShares, s, share(1, 2)).mustKeepArguments(t)
		callOf("AddShares", impl.AddShares, s, share(1, 2)).mustKeepArguments(t)
	}
}

// TestPowersDoNotReadSpareRoom gives a committee and an order behind whose ends there is more.
func TestPowersDoNotReadSpareRoom(t *testing.T) {
	weights := []int{3, 2, 2, 1, 1000, 1000}
	c := impl.Committee{Quota: 5, Weights: weights[:4]}
	checkNumbers(t, "SwingsOf", c, impl.SwingsOf, []int{5, 3, 3, 1})
	checkNumbers(t, "PivotCounts", c, impl.PivotCounts, []int{10, 6, 6, 2})
	order := []int{3, 1, 0, 2, 9}
	if k, ok := impl.PivotOf(c, order[:4]); !ok || k != 0 {
		t.Error("PivotOf", k, ok)
	}
	callOf("PivotOf", impl.PivotOf, c, order[:3]).mustFail(t)
}
