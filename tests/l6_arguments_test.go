package tests

import (
	"math"
	"slices"
	"testing"

	"loop.example/g01275/impl"
)

// chapter6Calls has each function of the chapter, with other arguments that fit every committee of two members or more, if they fit its weights.
func chapter6Calls(c impl.Committee) []call {
	return slices.Concat(setCalls(c, []int{0}), []call{
		callOf("BestPartners", impl.BestPartners, c, 0),
		callOf("BestSplits", impl.BestSplits, c, 0),
		callOf("QuotasOfPower", impl.QuotasOfPower, c, 0),
		callOf("RaiseQuota", impl.RaiseQuota, c, 0),
	}, partCalls(c, 0, 0), newcomerCalls(c, 0), giftCalls(c, 0, 1, 0), quarrelCalls(c, 0, 1))
}

func setCalls(c impl.Committee, set []int) []call {
	return []call{
		callOf("MergeMembers", impl.MergeMembers, c, set),
		callOf("UnionGain", impl.UnionGain, c, set),
		callOf("UnionGainByOrders", impl.UnionGainByOrders, c, set),
	}
}

func partCalls(c impl.Committee, k, part int) []call {
	return []call{callOf("SplitMember", impl.SplitMember, c, k, part), callOf("SplitGain", impl.SplitGain, c, k, part)}
}

func newcomerCalls(c impl.Committee, weight int) []call {
	return []call{callOf("AddMember", impl.AddMember, c, weight), callOf("NewcomerHelps", impl.NewcomerHelps, c, weight)}
}

func giftCalls(c impl.Committee, from, to, weight int) []call {
	return []call{callOf("GiveWeight", impl.GiveWeight, c, from, to, weight), callOf("GiverGains", impl.GiverGains, c, from, to, weight)}
}

func quarrelCalls(c impl.Committee, i, j int) []call {
	return []call{
		callOf("CountQuarrelWins", impl.CountQuarrelWins, c, i, j),
		callOf("QuarrelSwings", impl.QuarrelSwings, c, i, j),
		callOf("QuarrelHelps", impl.QuarrelHelps, c, i, j),
	}
}

// mustSucceedIf checks of each call that it succeeds, or else that all its results are zero.
func mustSucceedIf(t *testing.T, is bool, calls ...call) {
	t.Helper()
	if !is {
		checkFails(t, calls...)
		return
	}
	for _, c := range calls {
		if out := c.results(t, c.values()); !out[1].Bool() {
			t.Fatalf("%v fails", c)
		}
	}
}

func TestUnionsOfInvalidCommittees(t *testing.T) {
	for _, c := range append(invalidCommittees(), committee(1, ofWeight(1, 64)...), committee(1, ofWeight(0, 60)...), committee(1, ofWeight(1, 5000)...)) {
		checkFails(t, chapter6Calls(c)...)
		checkFails(t, setCalls(c, nil)...)
		checkFails(t, setCalls(c, upTo(len(c.Weights)))...)
		for _, k := range someInts {
			checkFails(t, setCalls(c, []int{k})...)
			checkFails(t, partCalls(c, k, 0)...)
			checkFails(t, partCalls(c, 0, k)...)
			checkFails(t, newcomerCalls(c, k)...)
			checkFails(t, giftCalls(c, k, 1, 0)...)
			checkFails(t, giftCalls(c, 1, k, 0)...)
			checkFails(t, giftCalls(c, 0, 1, k)...)
			checkFails(t, quarrelCalls(c, k, 0)...)
			checkFails(t, quarrelCalls(c, 1, k)...)
			checkFails(t, callOf("BestPartners", impl.BestPartners, c, k), callOf("BestSplits", impl.BestSplits, c, k))
			checkFails(t, callOf("RaiseQuota", impl.RaiseQuota, c, k), callOf("QuotasOfPower", impl.QuotasOfPower, c, k))
		}
	}
}

// TestUnionsOfInvalidSets has empty sets, too, which are sets, but have no union.
func TestUnionsOfInvalidSets(t *testing.T) {
	four, nine := committee(5, 3, 2, 2, 1), committee(1, ofWeight(1, 9)...)
	for _, set := range append(noSets(), nil, []int{}) {
		checkFails(t, setCalls(four, set)...)
		checkFails(t, setCalls(committee(1, 0, 0, 0, 1), set)...)
	}
	for _, set := range [][]int{{9}, {8, 9}, {8, 8}, {8, 7}, {1, 0}, upTo(10), {}} {
		checkFails(t, setCalls(nine, set)...)
	}
	for _, set := range [][]int{{}, {1}, {0, 0}, {0, 1}, {-1}} {
		checkFails(t, setCalls(committee(1, 1), set)...)
	}
	mustSucceedIf(t, true, slices.Concat(setCalls(nine, upTo(9)), setCalls(nine, []int{8}), setCalls(committee(1, 1), []int{0}))...)
}

func TestUnionsOfInvalidMembers(t *testing.T) {
	for _, c := range []impl.Committee{committee(5, 3, 2, 2, 1), committee(1, 1, 1), committee(4, 4, 1, 1), committee(1, ofWeight(1, 9)...), committee(1, 0, 1)} {
		n := len(c.Weights)
		for _, k := range slices.Concat(someInts, upTo(12)) {
			isOne := k >= 0 && k < n
			mustSucceedIf(t, isOne, setCalls(c, []int{k})...)
			mustSucceedIf(t, isOne, callOf("BestPartners", impl.BestPartners, c, k), callOf("QuotasOfPower", impl.QuotasOfPower, c, k))
			mustSucceedIf(t, isOne && n < 9, callOf("BestSplits", impl.BestSplits, c, k))
			mustSucceedIf(t, isOne && n < 9, partCalls(c, k, 0)...)
			for _, j := range slices.Concat(someInts, upTo(12)) {
				areTwo := isOne && j >= 0 && j < n && j != k
				mustSucceedIf(t, areTwo, giftCalls(c, k, j, 0)...)
				mustSucceedIf(t, areTwo, quarrelCalls(c, k, j)...)
			}
		}
	}
	for _, k := range someInts {
		// One member has no other one.
		checkFails(t, quarrelCalls(committee(1, 1), 0, k)...)
		checkFails(t, giftCalls(committee(1, 1), 0, k, 0)...)
		checkFails(t, callOf("BestPartners", impl.BestPartners, committee(1, 1), k))
	}
}

// TestUnionsOfAnyNumbers has weights, parts and raises below 0, above what is told, and of any size.
func TestUnionsOfAnyNumbers(t *testing.T) {
	numbers := slices.Concat(someInts, fromTo(-12, 12), []int{499, 500, 501, 999, 1000, 1001, 8999, 9000, 9001, -8999, -9000, -9001, 1<<32 + 1, 1<<32 + 3, 1 << 62, math.MaxInt - 4, math.MaxInt - 5, math.MinInt + 4, math.MinInt + 5})
	lists := []impl.Committee{committee(5, 3, 2, 2, 1), committee(1, 1, 0), committee(1000, 1000, 500), committee(7, 0, 8, 0), committee(8001, ofWeight(1000, 9)...), committee(9000, ofWeight(1000, 9)...), committee(1, ofWeight(1000, 9)...)}
	for _, n := range numbers {
		for _, c := range lists {
			isRoom := len(c.Weights) < 9
			mustSucceedIf(t, isRoom && n >= 0 && n <= 1000, newcomerCalls(c, n)...)
			for k, weight := range c.Weights {
				mustSucceedIf(t, isRoom && n >= 0 && n <= weight, partCalls(c, k, n)...)
				to := (k + 1) % len(c.Weights)
				mustSucceedIf(t, n >= 0 && n <= weight && c.Weights[to] <= 1000-n, giftCalls(c, k, to, n)...)
				checkFails(t, giftCalls(c, k, k, n)...)
			}
			isRaised := n > -c.Quota && n <= totalOf(c.Weights)-c.Quota
			mustSucceedIf(t, isRaised, callOf("RaiseQuota", impl.RaiseQuota, c, n))
		}
	}
}

// TestUnionsKeepArguments checks for calls that succeed and for calls that fail that they change, share and keep nothing.
func TestUnionsKeepArguments(t *testing.T) {
	for _, c := range slices.Concat(validCommittees(), mixedCommittees(), unionCommittees(), invalidCommittees()) {
		for _, x := range chapter6Calls(c) {
			x.mustKeepArguments(t)
		}
		last := max(len(c.Weights)-1, 0)
		for _, x := range slices.Concat(setCalls(c, []int{last}), setCalls(c, []int{0, last}), setCalls(c, upTo(last+1)), newcomerCalls(c, 1000), giftCalls(c, last, 0, 1), quarrelCalls(c, last, 0)) {
			x.mustKeepArguments(t)
		}
	}
	c := committee(5, 3, 2, 2, 1)
	for _, set := range append(noSets(), nil, []int{1}, []int{3}, []int{1, 2}, []int{0, 2}, []int{1, 3}, []int{2, 3}, []int{1, 2, 3}, upTo(4)) {
		for _, x := range setCalls(c, set) {
			x.mustKeepArguments(t)
		}
	}
	for _, k := range slices.Concat(someInts, upTo(5)) {
		for _, x := range slices.Concat(partCalls(c, k, 1), partCalls(c, 0, k), newcomerCalls(c, k), giftCalls(c, k, 0, 1), giftCalls(c, 0, k, 1), giftCalls(c, 0, 1, k), quarrelCalls(c, k, 2), quarrelCalls(c, 2, k)) {
			x.mustKeepArguments(t)
		}
		callOf("BestPartners", impl.BestPartners, c, k).mustKeepArguments(t)
		callOf("BestSplits", impl.BestSplits, c, k).mustKeepArguments(t)
		callOf("RaiseQuota", impl.RaiseQuota, c, k).mustKeepArguments(t)
		callOf("QuotasOfPower", impl.QuotasOfPower, c, k).mustKeepArguments(t)
	}
}

// TestUnionsDoNotReadSpareRoom gives lists behind whose ends there is more.
func TestUnionsDoNotReadSpareRoom(t *testing.T) {
	weights, set := []int{3, 2, 2, 1, 7, 1000}, []int{1, 2, 3, 9}
	c := impl.Committee{Quota: 5, Weights: weights[:4]}
	checkCommittee(t, callOf("MergeMembers", impl.MergeMembers, c, set[:2]), committee(5, 3, 4, 1))
	checkCommittee(t, callOf("MergeMembers", impl.MergeMembers, c, set[1:3]), committee(5, 3, 2, 3))
	checkCommittee(t, callOf("MergeMembers", impl.MergeMembers, c, set[2:3]), committee(5, 3, 2, 2, 1))
	checkAnswer(t, callOf("UnionGain", impl.UnionGain, c, set[:2]), 1)
	checkAnswer(t, callOf("UnionGainByOrders", impl.UnionGainByOrders, c, set[:2]), 1)
	checkFails(t, setCalls(c, set)...)
	checkFails(t, setCalls(c, set[:0])...)
	checkMembersOf(t, callOf("BestPartners", impl.BestPartners, c, 3), []int{0})
	checkCommittee(t, callOf("SplitMember", impl.SplitMember, c, 0, 1), committee(5, 1, 2, 2, 2, 1))
	checkCommittee(t, callOf("SplitMember", impl.SplitMember, c, 3, 1), committee(5, 3, 2, 2, 1, 0))
	checkMembersOf(t, callOf("BestSplits", impl.BestSplits, c, 0), []int{0, 3})
	checkCommittee(t, callOf("AddMember", impl.AddMember, c, 2), committee(5, 3, 2, 2, 1, 2))
	checkMembersOf(t, callOf("NewcomerHelps", impl.NewcomerHelps, c, 2), []int{3})
	checkCommittee(t, callOf("GiveWeight", impl.GiveWeight, c, 0, 3, 2), committee(5, 1, 2, 2, 3))
	checkAnswer(t, callOf("CountQuarrelWins", impl.CountQuarrelWins, c, 0, 1), 3)
	checkMembersOf(t, callOf("QuarrelSwings", impl.QuarrelSwings, c, 0, 1), []int{2, 1, 3, 1})
	checkCommittee(t, callOf("RaiseQuota", impl.RaiseQuota, c, 3), committee(8, 3, 2, 2, 1))
	checkQuotas(t, "QuotasOfPower", c, 0, impl.QuotasOfPower, []int{3, 6})
	for _, x := range slices.Concat(partCalls(c, 4, 0), giftCalls(c, 4, 0, 1), giftCalls(c, 0, 4, 1), quarrelCalls(c, 0, 4)) {
		x.mustFail(t)
	}
	if !slices.Equal(weights, []int{3, 2, 2, 1, 7, 1000}) || !slices.Equal(set, []int{1, 2, 3, 9}) {
		t.Error("the lists are changed:", weights, set)
	}
}

// TestLongUnions takes lists that are far too long, and stops in time.
func TestLongUnions(t *testing.T) {
	for _, c := range []impl.Committee{committee(1, ofWeight(1, 100000)...), committee(math.MaxInt, ofWeight(1000, 100000)...)} {
		checkFails(t, chapter6Calls(c)...)
		checkFails(t, setCalls(c, upTo(100000))...)
	}
	checkFails(t, setCalls(committee(5, 3, 2, 2, 1), upTo(100000))...)
	checkFails(t, setCalls(committee(5, 3, 2, 2, 1), ofWeight(0, 100000))...)
}
