package tests

import (
	"math"
	"slices"
	"testing"

	"loop.example/g01275/impl"
)

// chapter3Calls has each function of the chapter that takes a committee, with other arguments that fit every one.
func chapter3Calls(c impl.Committee) []call {
	return append([]call{
		callOf("LeastSetCounts", impl.LeastSetCounts, c),
		callOf("LeastSetShares", impl.LeastSetShares, c),
		callOf("EvenSetPowers", impl.EvenSetPowers, c),
		callOf("SizesOfLeast", impl.SizesOfLeast, c),
		callOf("SmallestWin", impl.SmallestWin, c),
		callOf("LargestLoss", impl.LargestLoss, c),
		callOf("WeightShares", impl.WeightShares, c),
		callOf("PowerSigns", impl.PowerSigns, c),
		callOf("QuotaSteps", impl.QuotaSteps, c),
		callOf("CountVotings", impl.CountVotings, c),
		callOf("QuotaRange", impl.QuotaRange, c),
	}, scannedCalls(c)...)
}

func TestSharesOfInvalidCommittees(t *testing.T) {
	for _, c := range append(invalidCommittees(), committee(1, ofWeight(1, 64)...), committee(1, ofWeight(0, 60)...), committee(1, ofWeight(1, 5000)...)) {
		for _, x := range chapter3Calls(c) {
			x.mustFail(t)
		}
		for _, k := range someInts {
			callOf("DummyQuotas", impl.DummyQuotas, c, k).mustFail(t)
			callOf("VetoQuotas", impl.VetoQuotas, c, k).mustFail(t)
		}
	}
}

func TestQuotasOfInvalidMembers(t *testing.T) {
	for _, c := range []impl.Committee{committee(5, 3, 2, 2, 1), committee(1, 1), committee(4, 4, 1, 1), committee(60, 60), committee(1, ofWeight(1, 9)...), committee(1, 0, 1)} {
		for _, k := range slices.Concat(someInts, upTo(12)) {
			isMember := k >= 0 && k < len(c.Weights)
			for _, x := range []call{callOf("DummyQuotas", impl.DummyQuotas, c, k), callOf("VetoQuotas", impl.VetoQuotas, c, k)} {
				if !isMember {
					x.mustFail(t)
				} else if out := x.results(t, x.values()); !out[1].Bool() {
					t.Errorf("%v fails", x)
				}
			}
		}
	}
}

// noPeople are no lists of people, each for one reason.
func noPeople() [][]int {
	lists := [][]int{
		nil, {}, {0}, {-1}, {1000001}, {math.MinInt}, {math.MaxInt}, {1 << 32}, {1<<32 + 1}, {-100},
		{0, 100}, {100, 0}, {100, 25, 9, 0}, {100, -25, 9}, {100, 25, 1000001}, {1000001, 1}, {100, math.MaxInt}, {math.MinInt, math.MinInt, 100},
		{1, 1, 1, 1, 1, 1, 1, 1, 0}, {1, 1, 1, 1, 1, 1, 1, 1, 1000001},
	}
	return append(lists, ofWeight(1, 10), ofWeight(1000000, 10), ofWeight(9, 64), ofWeight(4, 5000), ofWeight(0, 9))
}

// noWeights are no lists of weights for which there is a RootQuota, each for one reason.
func noWeights() [][]int {
	lists := [][]int{
		nil, {}, {0}, {0, 0}, ofWeight(0, 9), {-1}, {1001}, {math.MinInt}, {math.MaxInt}, {1 << 32}, {1<<32 + 1}, {-3, -4},
		{3, -4}, {-1, 10}, {10, 5, 3, -1}, {10, 5, 3, 1001}, {1001, 0}, {0, 1001}, {3, math.MaxInt}, {math.MaxInt, math.MaxInt, 3}, {math.MinInt, math.MinInt, 5}, {-5, 5},
	}
	return append(lists, ofWeight(1, 10), ofWeight(0, 10), ofWeight(1000, 10), ofWeight(1, 64), ofWeight(2, 5000), append(ofWeight(0, 9), 1))
}

func TestInvalidPeopleAndWeights(t *testing.T) {
	for _, people := range noPeople() {
		callOf("RootCommittee", impl.RootCommittee, people).mustFail(t)
	}
	for _, weights := range noWeights() {
		callOf("RootQuota", impl.RootQuota, weights).mustFail(t)
	}
	for _, n := range slices.Concat(someInts, []int{999, 1000, 1001, 999999, 1000000, 1000001}) {
		_, ok := impl.RootCommittee([]int{n})
		if ok != (n >= 1 && n <= 1000000) {
			t.Errorf("RootCommittee of %d people gives %v", n, ok)
		}
		_, ok = impl.RootQuota([]int{n})
		if ok != (n >= 1 && n <= 1000) {
			t.Errorf("RootQuota of the weight %d gives %v", n, ok)
		}
		_, ok = impl.RootQuota([]int{1, n})
		if ok != (n >= 0 && n <= 1000) {
			t.Errorf("RootQuota of the weights 1 and %d gives %v", n, ok)
		}
	}
	for n := range 12 {
		if _, ok := impl.RootCommittee(ofWeight(5, n)); ok != (n >= 1 && n <= 9) {
			t.Errorf("RootCommittee of %d numbers gives %v", n, ok)
		}
		if _, ok := impl.RootQuota(ofWeight(5, n)); ok != (n >= 1 && n <= 9) {
			t.Errorf("RootQuota of %d weights gives %v", n, ok)
		}
	}
}

// TestSharesKeepArguments checks for calls that succeed and for calls that fail that they change, share and keep nothing.
func TestSharesKeepArguments(t *testing.T) {
	for _, c := range slices.Concat(validCommittees(), mixedCommittees(), invalidCommittees(), scannedCommittees()[:11]) {
		for _, x := range chapter3Calls(c) {
			x.mustKeepArguments(t)
		}
	}
	c := committee(5, 3, 2, 2, 1)
	for _, k := range someInts {
		callOf("DummyQuotas", impl.DummyQuotas, c, k).mustKeepArguments(t)
		callOf("VetoQuotas", impl.VetoQuotas, c, k).mustKeepArguments(t)
	}
	for _, people := range append(noPeople(), []int{100, 25, 9}, []int{1}, ofWeight(1000000, 9), upTo(10)[1:]) {
		callOf("RootCommittee", impl.RootCommittee, people).mustKeepArguments(t)
	}
	for _, weights := range append(noWeights(), []int{10, 5, 3}, []int{1}, ofWeight(1000, 9), upTo(9)) {
		callOf("RootQuota", impl.RootQuota, weights).mustKeepArguments(t)
	}
}

// TestSharesDoNotReadSpareRoom gives lists behind whose ends there is more.
func TestSharesDoNotReadSpareRoom(t *testing.T) {
	weights := []int{3, 2, 2, 1, 1000, 1000}
	c := impl.Committee{Quota: 5, Weights: weights[:4]}
	checkNumbers(t, "LeastSetCounts", c, impl.LeastSetCounts, []int{2, 2, 2, 1})
	checkNumbers(t, "QuotaSteps", c, impl.QuotaSteps, fromTo(1, 8))
	checkNumber(t, "FairestQuota", c, impl.FairestQuota, 4)
	checkQuotas(t, "DummyQuotas", c, 3, impl.DummyQuotas, []int{2, 7})
	if q, ok := impl.RootQuota([]int{10, 5, 3, 1000}[:3]); !ok || q != 15 {
		t.Error("RootQuota", q, ok)
	}
	people := []int{100, 25, 9, 4, 4}
	if r, ok := impl.RootCommittee(people[:3]); !ok || !sameCommittee(r, committee(15, 10, 5, 3)) || !slices.Equal(people, []int{100, 25, 9, 4, 4}) {
		t.Error("RootCommittee", r, ok, people)
	}
}
