package tests

import (
	"slices"
	"testing"

	"loop.example/g01275/impl"
)

// TestCommitteesByTheirWords compares the functions with what the document's words give for many committees.
func TestCommitteesByTheirWords(t *testing.T) {
	for _, c := range manyCommittees() {
		v := votesOf(c)
		checkSets(t, c, v)
		checkSetLists(t, c, v)
		checkMembers(t, c, v)
		checkCounts(t, c, v)
	}
}

func checkSets(t *testing.T, c impl.Committee, v *votes) {
	t.Helper()
	for i, set := range v.sets {
		sum := 0
		for _, k := range set {
			sum += c.Weights[k]
		}
		if n, ok := impl.WeightOfSet(c, set); !ok || n != sum {
			t.Fatalf("WeightOfSet(%v, %v) = %v, %v", c, set, n, ok)
		}
		if b, ok := impl.IsWinning(c, set); !ok || b != v.wins[i] {
			t.Fatalf("IsWinning(%v, %v) = %v, %v", c, set, b, ok)
		}
		if b, ok := impl.IsBlocking(c, set); !ok || b != v.blocks(set) {
			t.Fatalf("IsBlocking(%v, %v) = %v, %v", c, set, b, ok)
		}
	}
}

func checkSetLists(t *testing.T, c impl.Committee, v *votes) {
	t.Helper()
	if got, ok := impl.LeastWinning(c); !ok || !sameSets(got, v.leastThat(v.isWon)) {
		t.Fatalf("LeastWinning(%v) = %v, %v", c, got, ok)
	}
	loses := func(s []int) bool { return !v.isWon(s) }
	if got, ok := impl.GreatestLosing(c); !ok || !sameSets(got, v.greatestThat(loses)) {
		t.Fatalf("GreatestLosing(%v) = %v, %v", c, got, ok)
	}
	if got, ok := impl.LeastBlocking(c); !ok || !sameSets(got, v.leastThat(v.blocks)) {
		t.Fatalf("LeastBlocking(%v) = %v, %v", c, got, ok)
	}
}

func checkMembers(t *testing.T, c impl.Committee, v *votes) {
	t.Helper()
	dictators := v.membersThat(func(k int) bool { return v.isWon([]int{k}) && !v.isWon(v.others([]int{k})) })
	k, ok := impl.DictatorOf(c)
	if ok != (len(dictators) == 1) || ok && k != dictators[0] || !ok && k != 0 {
		t.Fatalf("DictatorOf(%v) = %v, %v", c, k, ok)
	}
	vetoes := v.membersThat(func(k int) bool { return v.blocks([]int{k}) })
	if got, ok := impl.VetoMembers(c); !ok || !slices.Equal(got, vetoes) {
		t.Fatalf("VetoMembers(%v) = %v, %v", c, got, ok)
	}
	least := v.leastThat(v.isWon)
	dummies := v.membersThat(func(k int) bool {
		return !slices.ContainsFunc(least, func(s []int) bool { return slices.Contains(s, k) })
	})
	if got, ok := impl.DummiesOf(c); !ok || !slices.Equal(got, dummies) {
		t.Fatalf("DummiesOf(%v) = %v, %v", c, got, ok)
	}
}

func checkCounts(t *testing.T, c impl.Committee, v *votes) {
	t.Helper()
	if n, ok := impl.CountWinning(c); !ok || n != v.countWinning(-1) {
		t.Fatalf("CountWinning(%v) = %v, %v", c, n, ok)
	}
	for size := range v.members + 1 {
		if n, ok := impl.CountWinningOf(c, size); !ok || n != v.countWinning(size) {
			t.Fatalf("CountWinningOf(%v, %d) = %v, %v", c, size, n, ok)
		}
	}
	if b, ok := impl.IsProper(c); !ok || b != v.isProper() {
		t.Fatalf("IsProper(%v) = %v, %v", c, b, ok)
	}
	if b, ok := impl.IsStrong(c); !ok || b != v.isStrong() {
		t.Fatalf("IsStrong(%v) = %v, %v", c, b, ok)
	}
}

// TestDualsOfDuals checks that duals win as their committees block, and that their duals come back.
func TestDualsOfDuals(t *testing.T) {
	for _, c := range manyCommittees() {
		d, ok := impl.DualCommittee(c)
		if !ok || !impl.IsCommittee(d) {
			t.Fatalf("DualCommittee(%v) = %v, %v", c, d, ok)
		}
		if back, ok := impl.DualCommittee(d); !ok || !sameCommittee(back, c) {
			t.Fatalf("the dual of the dual of %v is %v, %v", c, back, ok)
		}
		for _, set := range votesOf(c).sets {
			wins, _ := impl.IsWinning(d, set)
			if blocks, _ := impl.IsBlocking(c, set); wins != blocks {
				t.Fatalf("the dual of %v and its blocking sets differ at %v", c, set)
			}
		}
	}
}

// TestRenamedBack checks that a renamed committee votes as told, and that the order back gives the first one again.
func TestRenamedBack(t *testing.T) {
	for _, c := range manyCommittees() {
		n := len(c.Weights)
		order, back := make([]int, n), make([]int, n)
		for i := range order {
			order[i] = (i*2 + 1) % n
			if n%2 == 0 {
				order[i] = (i + 1) % n
			}
			back[order[i]] = i
		}
		renamed, ok := impl.RenameCommittee(c, order)
		for i, k := range order {
			if !ok || renamed.Quota != c.Quota || renamed.Weights[i] != c.Weights[k] {
				t.Fatalf("RenameCommittee(%v, %v) = %v, %v", c, order, renamed, ok)
			}
		}
		if again, ok := impl.RenameCommittee(renamed, back); !ok || !sameCommittee(again, c) {
			t.Fatalf("%v renamed back is %v, %v", c, again, ok)
		}
	}
}

// TestSameVotesByTheirWords compares all pairs of some committees.
func TestSameVotesByTheirWords(t *testing.T) {
	list := smallCommittees()
	tables := make([]*votes, len(list))
	for i, c := range list {
		tables[i] = votesOf(c)
	}
	for i := range list {
		for j := i % 7; j < len(list); j += 7 {
			want := slices.Equal(tables[i].wins, tables[j].wins)
			if got, ok := impl.AreSameVotes(list[i], list[j]); !ok || got != want {
				t.Fatalf("AreSameVotes(%v, %v) = %v, %v", list[i], list[j], got, ok)
			}
		}
	}
}

// TestDroppedByTheirWords drops each member of many committees.
func TestDroppedByTheirWords(t *testing.T) {
	for _, c := range manyCommittees() {
		sum := 0
		for _, w := range c.Weights {
			sum += w
		}
		for k, w := range c.Weights {
			want := impl.Committee{}
			ok := sum-w >= c.Quota
			if ok {
				want = committee(c.Quota, slices.Delete(slices.Clone(c.Weights), k, k+1)...)
			}
			if got, fine := impl.DropMember(c, k); fine != ok || !sameCommittee(got, want) {
				t.Fatalf("DropMember(%v, %d) = %v, %v", c, k, got, fine)
			}
		}
	}
}
