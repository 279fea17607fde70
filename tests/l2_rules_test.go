package tests

import (
	"slices"
	"testing"

	"loop.example/g01275/impl"
)

// swingsByWords returns, in order, the swings of a member as the document's words tell them.
func (v *votes) swingsByWords(k int) [][]int {
	var out [][]int
	for i, s := range v.sets {
		if slices.Contains(s, k) || v.wins[i] {
			continue
		}
		if v.isWon(append(slices.Clone(s), k)) {
			out = append(out, s)
		}
	}
	return out
}

func (v *votes) pivotByWords(order []int) int {
	for i, k := range order {
		if v.isWon(order[:i+1]) {
			return k
		}
	}
	return -1
}

// countPivots goes through all orders of the members.
func (v *votes) countPivots(see func(order []int, pivot int)) []int {
	counts := make([]int, v.members)
	order := upTo(v.members)
	var place func(i int)
	place = func(i int) {
		if i == v.members {
			pivot := v.pivotByWords(order)
			counts[pivot]++
			see(order, pivot)
			return
		}
		for j := i; j < v.members; j++ {
			order[i], order[j] = order[j], order[i]
			place(i + 1)
			order[i], order[j] = order[j], order[i]
		}
	}
	place(0)
	return counts
}

func ordersOf(members int) int {
	return []int{1, 1, 2, 6, 24, 120, 720, 5040, 40320, 362880}[members]
}

// TestSwingsByTheirWords compares the swings of many committees with what the document's words give.
func TestSwingsByTheirWords(t *testing.T) {
	for _, c := range manyCommittees() {
		v := votesOf(c)
		var counts []int
		for k := range v.members {
			swings := v.swingsByWords(k)
			counts = append(counts, len(swings))
			if got, ok := impl.SwingSets(c, k); !ok || !sameSets(got, swings) {
				t.Fatalf("SwingSets(%v, %d) = %v, %v", c, k, got, ok)
			}
			bySize := make([]int, v.members)
			for _, s := range swings {
				bySize[len(s)]++
			}
			if got, ok := impl.SwingsBySize(c, k); !ok || !slices.Equal(got, bySize) {
				t.Fatalf("SwingsBySize(%v, %d) = %v, %v", c, k, got, ok)
			}
		}
		checkNumbers(t, "SwingsOf", c, impl.SwingsOf, counts)
		checkSwingParts(t, c, v, counts)
	}
}

// checkSwingParts compares the parts with the swings that were counted, and with counts of sets.
func checkSwingParts(t *testing.T, c impl.Committee, v *votes, swings []int) {
	t.Helper()
	all := 0
	for _, n := range swings {
		all += n
	}
	sets := len(v.sets)
	won := v.countWinning(-1)
	checkShares(t, "SwingPowers", c, impl.SwingPowers, partsOf(swings, sets/2))
	checkShares(t, "SwingShares", c, impl.SwingShares, partsOf(swings, all))
	checkShares(t, "BlockPowers", c, impl.BlockPowers, partsOf(v.leaving(), won))
	checkShares(t, "StartPowers", c, impl.StartPowers, partsOf(swings, sets-won))
	checkShares(t, "AgreeChances", c, impl.AgreeChances, partsOf(v.agreeing(), sets))
	if s, ok := impl.DecidePower(c); !ok || s != partOf(won, sets) {
		t.Fatalf("DecidePower(%v) = %v, %v", c, s, ok)
	}
}

// leaving counts for each member the winning sets with it that lose without it.
func (v *votes) leaving() []int {
	counts := make([]int, v.members)
	for i, s := range v.sets {
		for at, k := range s {
			if v.wins[i] && !v.isWon(slices.Delete(slices.Clone(s), at, at+1)) {
				counts[k]++
			}
		}
	}
	return counts
}

// agreeing counts for each member the sets that win with it among them, and those that lose without it.
func (v *votes) agreeing() []int {
	counts := make([]int, v.members)
	for i, s := range v.sets {
		for k := range v.members {
			if slices.Contains(s, k) == v.wins[i] {
				counts[k]++
			}
		}
	}
	return counts
}

// TestPivotsByTheirWords goes through all orders of the members of many committees.
func TestPivotsByTheirWords(t *testing.T) {
	for _, c := range manyCommittees() {
		v := votesOf(c)
		seen := 0
		counts := v.countPivots(func(order []int, pivot int) {
			seen++
			// With more members the orders are too many to ask for the pivot of each.
			if v.members > 5 && seen%101 != 0 {
				return
			}
			if k, ok := impl.PivotOf(c, order); !ok || k != pivot {
				t.Fatalf("PivotOf(%v, %v) = %v, %v, want %d", c, order, k, ok, pivot)
			}
		})
		if seen != ordersOf(v.members) {
			t.Fatalf("the test sees %d orders of %d members", seen, v.members)
		}
		checkNumbers(t, "PivotCounts", c, impl.PivotCounts, counts)
		checkShares(t, "OrderPowers", c, impl.OrderPowers, partsOf(counts, seen))
		checkGroups(t, c, v, counts)
	}
}

// checkGroups compares the groups of members, and the strongest ones, with the pivots that were counted.
func checkGroups(t *testing.T, c impl.Committee, v *votes, pivots []int) {
	t.Helper()
	var groups [][]int
	for k := range v.members {
		isSame := func(j int) bool {
			return pivots[j] == pivots[k] && len(v.swingsByWords(j)) == len(v.swingsByWords(k))
		}
		if group := v.membersThat(isSame); group[0] == k {
			groups = append(groups, group)
		}
	}
	if got, ok := impl.SamePower(c); !ok || !sameSets(got, groups) {
		t.Fatalf("SamePower(%v) = %v, %v, want %v", c, got, ok, groups)
	}
	strongest := v.membersThat(func(k int) bool { return pivots[k] == slices.Max(pivots) })
	checkNumbers(t, "StrongestByOrders", c, impl.StrongestByOrders, strongest)
}

// TestPivotsShareAllOrders adds up: pivots to all orders, and shares of orders and of swings to 1.
func TestPivotsShareAllOrders(t *testing.T) {
	for _, c := range manyCommittees() {
		pivots, ok := impl.PivotCounts(c)
		sum := 0
		for _, n := range pivots {
			sum += n
		}
		if !ok || sum != ordersOf(len(c.Weights)) {
			t.Fatalf("PivotCounts(%v) = %v, %v", c, pivots, ok)
		}
		orders, _ := impl.OrderPowers(c)
		checkTogether(t, c, orders)
		swings, _ := impl.SwingShares(c)
		checkTogether(t, c, swings)
	}
}

func checkTogether(t *testing.T, c impl.Committee, shares []impl.Share) {
	t.Helper()
	sum := share(0, 1)
	for _, s := range shares {
		var ok bool
		if sum, ok = impl.AddShares(sum, s); !ok {
			t.Fatalf("the shares %v of %v cannot be added", shares, c)
		}
	}
	if sum != share(1, 1) {
		t.Fatalf("the shares %v of %v are together %v", shares, c, sum)
	}
}

// TestPivotsOfDuals checks that a dual has the same swings and pivots, and that dummies are those without any.
func TestPivotsOfDuals(t *testing.T) {
	for _, c := range manyCommittees() {
		d, _ := impl.DualCommittee(c)
		swings, _ := impl.SwingsOf(c)
		checkNumbers(t, "SwingsOf", d, impl.SwingsOf, swings)
		pivots, _ := impl.PivotCounts(c)
		checkNumbers(t, "PivotCounts", d, impl.PivotCounts, pivots)
		dummies, _ := impl.DummiesOf(c)
		for k, n := range swings {
			if isDummy := slices.Contains(dummies, k); isDummy != (n == 0) || isDummy != (pivots[k] == 0) {
				t.Fatalf("%v has the dummies %v, the swings %v and the pivots %v", c, dummies, swings, pivots)
			}
		}
	}
}
