package tests

import (
	"math/big"
	"slices"
	"testing"

	"loop.example/g01275/impl"
)

// leastWon returns the least winning sets as the document's words tell them.
func (v *votes) leastWon() [][]int {
	var out [][]int
	for i, s := range v.sets {
		losesWithout := func(k int) bool {
			return !v.isWon(slices.DeleteFunc(slices.Clone(s), func(j int) bool { return j == k }))
		}
		if v.wins[i] && !slices.ContainsFunc(s, func(k int) bool { return !losesWithout(k) }) {
			out = append(out, s)
		}
	}
	return out
}

func shareOfRat(r *big.Rat) impl.Share {
	return share(int(r.Num().Int64()), int(r.Denom().Int64()))
}

func totalOf(numbers []int) int {
	sum := 0
	for _, n := range numbers {
		sum += n
	}
	return sum
}

// TestLeastSetsByTheirWords compares what is told of least winning sets of many committees with what the document's words give.
func TestLeastSetsByTheirWords(t *testing.T) {
	for _, c := range manyCommittees() {
		v := votesOf(c)
		least := v.leastWon()
		counts := make([]int, v.members)
		sizes := make([]int, v.members+1)
		gains := make([]*big.Rat, v.members)
		for k := range gains {
			gains[k] = new(big.Rat)
		}
		for _, s := range least {
			sizes[len(s)]++
			for _, k := range s {
				counts[k]++
				gains[k].Add(gains[k], big.NewRat(1, int64(len(s)*len(least))))
			}
		}
		var even []impl.Share
		for _, gain := range gains {
			even = append(even, shareOfRat(gain))
		}
		checkNumbers(t, "LeastSetCounts", c, impl.LeastSetCounts, counts)
		checkShares(t, "LeastSetShares", c, impl.LeastSetShares, partsOf(counts, totalOf(counts)))
		checkShares(t, "EvenSetPowers", c, impl.EvenSetPowers, even)
		checkNumbers(t, "SizesOfLeast", c, impl.SizesOfLeast, sizes)
	}
}

// TestSizesByTheirWords compares sizes, weight shares and signs of powers with what the document's words give.
func TestSizesByTheirWords(t *testing.T) {
	for _, c := range manyCommittees() {
		v := votesOf(c)
		smallest, largest := v.members, 0
		for i, s := range v.sets {
			if v.wins[i] {
				smallest = min(smallest, len(s))
			} else {
				largest = max(largest, len(s))
			}
		}
		checkNumber(t, "SmallestWin", c, impl.SmallestWin, smallest)
		checkNumber(t, "LargestLoss", c, impl.LargestLoss, largest)
		weights := partsOf(c.Weights, totalOf(c.Weights))
		checkShares(t, "WeightShares", c, impl.WeightShares, weights)
		pivots := v.countPivots(func([]int, int) {})
		var signs []int
		for k, n := range pivots {
			signs = append(signs, big.NewRat(int64(n), int64(ordersOf(v.members))).Cmp(ratOf(weights[k])))
		}
		checkNumbers(t, "PowerSigns", c, impl.PowerSigns, signs)
	}
}

// TestSharesAreTogetherOne adds up the shares of all members.
func TestSharesAreTogetherOne(t *testing.T) {
	for _, c := range manyCommittees() {
		for _, fn := range []func(impl.Committee) ([]impl.Share, bool){impl.LeastSetShares, impl.EvenSetPowers, impl.WeightShares} {
			shares, ok := fn(c)
			if !ok || len(shares) != len(c.Weights) {
				t.Fatalf("the shares of %v are %v, %v", c, shares, ok)
			}
			checkTogether(t, c, shares)
		}
	}
}

// TestSignsOfShares checks that the signs are those of the shares that the program tells, and that dummies are in no least winning set.
func TestSignsOfShares(t *testing.T) {
	for _, c := range manyCommittees() {
		powers, _ := impl.OrderPowers(c)
		weights, _ := impl.WeightShares(c)
		var signs []int
		for k := range powers {
			sign, _ := impl.CompareShares(powers[k], weights[k])
			signs = append(signs, sign)
		}
		checkNumbers(t, "PowerSigns", c, impl.PowerSigns, signs)
		dummies, _ := impl.DummiesOf(c)
		counts, _ := impl.LeastSetCounts(c)
		for k, n := range counts {
			if slices.Contains(dummies, k) != (n == 0) {
				t.Fatalf("%v has the dummies %v, and the counts %v", c, dummies, counts)
			}
		}
	}
}

// listsAtQuotas tells for each quota from 0 on which sets win.
func listsAtQuotas(weights []int) []string {
	var sums []int
	for mask := range 1 << len(weights) {
		sum := 0
		for k, w := range weights {
			sum += w * (mask >> k & 1)
		}
		sums = append(sums, sum)
	}
	var lists []string
	for quota := range totalOf(weights) + 1 {
		list := make([]byte, len(sums))
		for i, sum := range sums {
			if sum >= quota {
				list[i] = 1
			}
		}
		lists = append(lists, string(list))
	}
	return lists
}

// TestStepsByTheirWords compares the lists of winning sets at all quotas.
func TestStepsByTheirWords(t *testing.T) {
	for _, c := range manyCommittees() {
		lists := listsAtQuotas(c.Weights)
		var steps []int
		different := map[string]bool{}
		least, utmost := 0, 0
		for quota := 1; quota < len(lists); quota++ {
			if lists[quota] != lists[quota-1] {
				steps = append(steps, quota)
			}
			different[lists[quota]] = true
			if lists[quota] == lists[c.Quota] {
				utmost = quota
				if least == 0 {
					least = quota
				}
			}
		}
		checkNumbers(t, "QuotaSteps", c, impl.QuotaSteps, steps)
		checkNumber(t, "CountVotings", c, impl.CountVotings, len(different))
		if a, b, ok := impl.QuotaRange(c); !ok || a != least || b != utmost {
			t.Fatalf("QuotaRange(%v) = %v, %v, %v, want %d, %d", c, a, b, ok, least, utmost)
		}
	}
}

// TestVotesChangeAtStepsAlone asks the program which sets win before, at and behind each step.
func TestVotesChangeAtStepsAlone(t *testing.T) {
	for _, c := range manyCommittees() {
		steps, _ := impl.QuotaSteps(c)
		total := totalOf(c.Weights)
		if len(steps) == 0 || steps[0] != 1 {
			t.Fatalf("QuotaSteps(%v) = %v", c, steps)
		}
		for i, step := range steps {
			last := total
			if i+1 < len(steps) {
				last = steps[i+1] - 1
			}
			here := committee(step, c.Weights...)
			if same, ok := impl.AreSameVotes(here, committee(last, c.Weights...)); !ok || !same {
				t.Fatalf("%v votes in other ways with the quotas %d and %d", c, step, last)
			}
			if same, ok := impl.AreSameVotes(here, committee(max(1, step-1), c.Weights...)); !ok || same != (step == 1) {
				t.Fatalf("%v votes in the same way with the quotas %d and %d", c, step-1, step)
			}
			for _, quota := range []int{step, (step + last) / 2, last} {
				if a, b, ok := impl.QuotaRange(committee(quota, c.Weights...)); !ok || a != step || b != last {
					t.Fatalf("QuotaRange(%v with the quota %d) = %v, %v, %v", c, quota, a, b, ok)
				}
			}
		}
	}
}

// scannedCommittees have at most MaxScanned weights together.
func scannedCommittees() []impl.Committee {
	list := []impl.Committee{
		committee(28, 11, 11, 9, 9, 7, 5, 4, 2, 1),
		committee(31, 12, 11, 9, 8, 7, 5, 4, 3, 1),
		committee(60, 10, 9, 8, 8, 7, 6, 5, 4, 3),
		committee(23, 9, 8, 7, 6, 5, 4, 3, 2, 1),
		committee(27, 16, 13, 11, 7, 5, 3, 2, 2),
		committee(30, 28, 12, 10, 6, 4),
		committee(1, 0, 60, 0),
		committee(60, 1, 59),
		committee(17, 17, 0, 17, 9, 5),
		committee(11, 3, 5, 8, 2, 0, 2),
		committee(7, 20, 20, 20),
	}
	for _, c := range manyCommittees() {
		if totalOf(c.Weights) <= impl.MaxScanned {
			list = append(list, c)
		}
	}
	return list
}

// TestDummyQuotasByTheirWords looks at the sets of each quota.
func TestDummyQuotasByTheirWords(t *testing.T) {
	for _, c := range scannedCommittees() {
		n := len(c.Weights)
		dummies, vetoes := make([][]int, n), make([][]int, n)
		for quota := 1; quota <= totalOf(c.Weights); quota++ {
			v := votesOf(committee(quota, c.Weights...))
			least := v.leastWon()
			for k := range n {
				if !slices.ContainsFunc(least, func(s []int) bool { return slices.Contains(s, k) }) {
					dummies[k] = append(dummies[k], quota)
				}
				if v.blocks([]int{k}) {
					vetoes[k] = append(vetoes[k], quota)
				}
			}
		}
		for k := range n {
			checkQuotas(t, "DummyQuotas", c, k, impl.DummyQuotas, dummies[k])
			checkQuotas(t, "VetoQuotas", c, k, impl.VetoQuotas, vetoes[k])
		}
	}
}

// pivotsAtQuotas goes through all orders once, and counts for each quota the pivots of each member.
func pivotsAtQuotas(weights []int) [][]int {
	counts := make([][]int, totalOf(weights)+1)
	for quota := range counts {
		counts[quota] = make([]int, len(weights))
	}
	order := upTo(len(weights))
	var place func(i, before int)
	place = func(i, before int) {
		for j := i; j < len(order); j++ {
			order[i], order[j] = order[j], order[i]
			k := order[i]
			// All orders that begin so have k as the pivot at these quotas.
			for quota := before + 1; quota <= before+weights[k]; quota++ {
				counts[quota][k] += ordersOf(len(order) - i - 1)
			}
			place(i+1, before+weights[k])
			order[i], order[j] = order[j], order[i]
		}
	}
	place(0, 0)
	return counts
}

// farthest returns the greatest difference of a member's part of all orders and its part of all weights.
func farthest(pivots, weights []int) *big.Rat {
	most := new(big.Rat)
	for k, n := range pivots {
		power := big.NewRat(int64(n), int64(ordersOf(len(weights))))
		off := power.Sub(power, big.NewRat(int64(weights[k]), int64(totalOf(weights))))
		if off.Abs(off).Cmp(most) > 0 {
			most = off
		}
	}
	return most
}

// TestFairestByTheirWords counts pivots in all orders for all quotas, and compares exact differences.
func TestFairestByTheirWords(t *testing.T) {
	for _, c := range scannedCommittees() {
		counts := pivotsAtQuotas(c.Weights)
		fairest := 0
		var least *big.Rat
		for quota := 1; quota < len(counts); quota++ {
			if off := farthest(counts[quota], c.Weights); least == nil || off.Cmp(least) < 0 {
				fairest, least = quota, off
			}
		}
		checkNumber(t, "FairestQuota", c, impl.FairestQuota, fairest)
		off := farthest(counts[c.Quota], c.Weights)
		fits := off.Denom().Cmp(big.NewInt(1000000)) <= 0
		want := impl.Share{}
		if fits {
			want = shareOfRat(off)
		}
		if s, ok := impl.FarthestOff(c); ok != fits || s != want {
			t.Fatalf("FarthestOff(%v) = %v, %v, want %v", c, s, ok, want)
		}
	}
}
