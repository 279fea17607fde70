package tests

import (
	"math/big"
	"slices"
	"testing"

	"loop.example/g01275/impl"
)

// TestReferenceOfPowers holds the counts that the tests of unions compare with against all orders, one by one.
func TestReferenceOfPowers(t *testing.T) {
	for _, c := range unitedCommittees() {
		if len(c.Weights) > 7 {
			continue
		}
		v, count := votesOf(c), powersOf(c)
		if pivots := v.countPivots(func([]int, int) {}); !slices.Equal(count.pivots, pivots) {
			t.Fatalf("the test counts the pivots %v of %v, in all orders %v", count.pivots, c, pivots)
		}
		for k, n := range count.swings {
			if swings := v.swingsByWords(k); n != len(swings) {
				t.Fatalf("the test counts %d swings of %d in %v, they are %v", n, k, c, swings)
			}
		}
	}
}

// TestUnionsByTheirWords has all unions of all these committees.
func TestUnionsByTheirWords(t *testing.T) {
	inParts(t, unitedCommittees(), func(t *testing.T, _ int, c impl.Committee) {
		v, before := votesOf(c), powersOf(c)
		// The empty set is the first one.
		for _, set := range v.sets[1:] {
			merged := mergedByWords(c, set)
			merge, gain, byOrders := callOf("MergeMembers", impl.MergeMembers, c, set), callOf("UnionGain", impl.UnionGain, c, set), callOf("UnionGainByOrders", impl.UnionGainByOrders, c, set)
			if !isOneByLimits(merged) {
				checkFails(t, merge, gain, byOrders)
				continue
			}
			checkCommittee(t, merge, merged)
			checkUnionVotes(t, v, merged, set)
			behind := powersOf(merged)
			checkAnswer(t, gain, heldBy(behind.swings, set[0]).Cmp(heldBy(before.swings, set...)))
			checkAnswer(t, byOrders, heldBy(behind.pivots, set[0]).Cmp(heldBy(before.pivots, set...)))
		}
	})
}

// checkUnionVotes checks promise 6: a set with the union wins exactly if it does before with all its members, and one without it if it does before.
func checkUnionVotes(t *testing.T, v *votes, merged impl.Committee, union []int) {
	t.Helper()
	others := slices.DeleteFunc(upTo(v.members), func(k int) bool { return k != union[0] && slices.Contains(union, k) })
	checkVotes(t, merged, newVotes(len(others), func(set []int) bool {
		var back []int
		for _, k := range set {
			if others[k] == union[0] {
				back = append(back, union...)
			} else {
				back = append(back, others[k])
			}
		}
		return v.isWon(back)
	}))
}

// partnersByWords compares exact differences.
func partnersByWords(c impl.Committee, k int) []int {
	before := powersOf(c)
	var best []int
	var most *big.Rat
	for j := range c.Weights {
		set := []int{min(j, k), max(j, k)}
		merged := mergedByWords(c, set)
		if j == k || !isOneByLimits(merged) {
			continue
		}
		lead := heldBy(powersOf(merged).pivots, set[0])
		lead.Sub(lead, heldBy(before.pivots, set...))
		if most == nil || lead.Cmp(most) > 0 {
			best, most = nil, lead
		}
		if lead.Cmp(most) == 0 {
			best = append(best, j)
		}
	}
	return best
}

func TestPartnersByTheirWords(t *testing.T) {
	inParts(t, unitedCommittees(), func(t *testing.T, _ int, c impl.Committee) {
		for k := range c.Weights {
			x := callOf("BestPartners", impl.BestPartners, c, k)
			if best := partnersByWords(c, k); len(best) > 0 {
				checkMembersOf(t, x, best)
			} else {
				x.mustFail(t)
			}
		}
	})
}

// someParts has all parts of low weights, and those of great ones at both ends and in between; some are none.
func someParts(weight int) []int {
	if weight <= 6 {
		return fromTo(-1, weight+1)
	}
	return []int{-1, 0, 1, weight / 3, weight / 2, weight - 1, weight, weight + 1}
}

// TestSplitsByTheirWords checks promise 6, too: sets with both parts or none win as before, and the union of the parts is the committee before.
func TestSplitsByTheirWords(t *testing.T) {
	inParts(t, unitedCommittees(), func(t *testing.T, _ int, c impl.Committee) {
		v, before := votesOf(c), powersOf(c)
		for k, weight := range c.Weights {
			for _, part := range someParts(weight) {
				split, gain := callOf("SplitMember", impl.SplitMember, c, k, part), callOf("SplitGain", impl.SplitGain, c, k, part)
				if part < 0 || part > weight || v.members == 9 {
					checkFails(t, split, gain)
					continue
				}
				want := splitByWords(c, k, part)
				checkCommittee(t, split, want)
				checkSplitVotes(t, v, want, k)
				checkCommittee(t, callOf("MergeMembers", impl.MergeMembers, want, []int{k, k + 1}), c)
				checkAnswer(t, gain, heldBy(powersOf(want).swings, k, k+1).Cmp(heldBy(before.swings, k)))
			}
		}
	})
}

func checkSplitVotes(t *testing.T, v *votes, split impl.Committee, k int) {
	t.Helper()
	for _, set := range v.sets {
		sum := 0
		for _, i := range set {
			switch {
			case i < k:
				sum += split.Weights[i]
			case i > k:
				sum += split.Weights[i+1]
			default:
				sum += split.Weights[k] + split.Weights[k+1]
			}
		}
		if sum >= split.Quota != v.isWon(set) {
			t.Fatalf("%v has not the votes of the committee before %d was split", split, k)
		}
	}
}

// TestBestSplitsByTheirWords compares the exact shares of all parts.
func TestBestSplitsByTheirWords(t *testing.T) {
	inParts(t, unitedCommittees(), func(t *testing.T, _ int, c impl.Committee) {
		for k, weight := range c.Weights {
			x := callOf("BestSplits", impl.BestSplits, c, k)
			if weight > 20 || len(c.Weights) == 9 {
				x.mustFail(t)
				continue
			}
			var shares []*big.Rat
			for part := range weight + 1 {
				shares = append(shares, heldBy(powersOf(splitByWords(c, k, part)).swings, k, k+1))
			}
			most := slices.MaxFunc(shares, (*big.Rat).Cmp)
			isBest := func(part int) bool { return shares[part].Cmp(most) == 0 }
			checkMembersOf(t, x, slices.DeleteFunc(upTo(weight+1), func(part int) bool { return !isBest(part) }))
		}
	})
}

// TestNewcomersByTheirWords adds weights of each size, and numbers that are none.
func TestNewcomersByTheirWords(t *testing.T) {
	inParts(t, unitedCommittees(), func(t *testing.T, _ int, c impl.Committee) {
		before := powersOf(c).swings
		for _, weight := range []int{-1, 0, 1, 2, 3, c.Weights[0], min(c.Quota-1, 1000), min(c.Quota, 1000), 500, 999, 1000, 1001} {
			add, helps := callOf("AddMember", impl.AddMember, c, weight), callOf("NewcomerHelps", impl.NewcomerHelps, c, weight)
			if weight < 0 || weight > 1000 || len(c.Weights) == 9 {
				checkFails(t, add, helps)
				continue
			}
			want := addedByWords(c, weight)
			checkCommittee(t, add, want)
			behind := powersOf(want).swings
			isHelped := func(k int) bool { return heldBy(behind, k).Cmp(heldBy(before, k)) > 0 }
			checkMembersOf(t, helps, slices.DeleteFunc(upTo(len(before)), func(k int) bool { return !isHelped(k) }))
		}
	})
}

// TestGiftsByTheirWords has gifts from each member to each one, itself with them.
func TestGiftsByTheirWords(t *testing.T) {
	inParts(t, unitedCommittees(), func(t *testing.T, _ int, c impl.Committee) {
		before := powersOf(c).swings
		for from, weight := range c.Weights {
			for to := range c.Weights {
				for _, gift := range someParts(weight) {
					give, gains := callOf("GiveWeight", impl.GiveWeight, c, from, to, gift), callOf("GiverGains", impl.GiverGains, c, from, to, gift)
					if from == to || gift < 0 || gift > weight || c.Weights[to]+gift > 1000 {
						checkFails(t, give, gains)
						continue
					}
					want := givenByWords(c, from, to, gift)
					checkCommittee(t, give, want)
					checkAnswer(t, gains, heldBy(powersOf(want).swings, from).Cmp(heldBy(before, from)))
				}
			}
		}
	})
}

// TestQuarrelsByTheirWords has quarrels of all members with all others.
func TestQuarrelsByTheirWords(t *testing.T) {
	inParts(t, unitedCommittees(), func(t *testing.T, _ int, c impl.Committee) {
		v, before := votesOf(c), powersOf(c).swings
		for i := range c.Weights {
			for j := range c.Weights {
				wins, swings, helps := callOf("CountQuarrelWins", impl.CountQuarrelWins, c, i, j), callOf("QuarrelSwings", impl.QuarrelSwings, c, i, j), callOf("QuarrelHelps", impl.QuarrelHelps, c, i, j)
				if i == j {
					checkFails(t, wins, swings, helps)
					continue
				}
				then := newVotes(v.members, func(set []int) bool { return v.isQuarrelWon(set, i, j) })
				checkAnswer(t, wins, then.countWinning(-1))
				var counts []int
				for k := range v.members {
					counts = append(counts, len(then.swingsByWords(k)))
				}
				checkMembersOf(t, swings, counts)
				checkMembersOf(t, helps, then.membersThat(func(k int) bool { return counts[k] > before[k] }))
			}
		}
	})
}

func TestRaisedByTheirWords(t *testing.T) {
	for _, c := range unitedCommittees() {
		total := totalOf(c.Weights)
		for _, quota := range []int{-1, 0, 1, 2, c.Quota - 1, c.Quota, c.Quota + 1, total / 2, total - 1, total, total + 1, 9000, 9001} {
			x := callOf("RaiseQuota", impl.RaiseQuota, c, quota-c.Quota)
			if quota < 1 || quota > total {
				x.mustFail(t)
			} else {
				checkCommittee(t, x, committee(quota, c.Weights...))
			}
		}
	}
}

// poweredCommittees have at most 200 weights together.
func poweredCommittees() []impl.Committee {
	return append(scannedCommittees(),
		committee(1, 200),
		committee(200, 200, 0),
		committee(101, 100, 100),
		committee(90, 70, 50, 40, 30, 10),
		committee(77, 61, 47, 39, 23, 19, 11),
		committee(120, 99, 1, 100),
		committee(3, 66, 67, 67),
		committee(150, 90, 80, 7, 7, 7, 7, 2),
		committee(104, 60, 51, 43, 21, 10, 9, 5, 1),
		committee(100, 53, 49, 41, 23, 11, 9, 7, 5, 2),
	)
}

// TestQuotasOfPowerByTheirWords counts pivots in all orders for all quotas.
func TestQuotasOfPowerByTheirWords(t *testing.T) {
	inParts(t, poweredCommittees(), func(t *testing.T, _ int, c impl.Committee) {
		counts := pivotsAtQuotas(c.Weights)
		for k := range c.Weights {
			most := 0
			for _, pivots := range counts[1:] {
				most = max(most, pivots[k])
			}
			want := slices.DeleteFunc(fromTo(1, len(counts)-1), func(quota int) bool { return counts[quota][k] < most })
			checkQuotas(t, "QuotasOfPower", c, k, impl.QuotasOfPower, want)
		}
	})
	for _, c := range unitedCommittees() {
		if totalOf(c.Weights) > 200 {
			for k := range c.Weights {
				callOf("QuotasOfPower", impl.QuotasOfPower, c, k).mustFail(t)
			}
		}
	}
}
