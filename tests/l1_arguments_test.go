package tests

import (
	"math"
	"slices"
	"testing"

	"loop.example/g01275/impl"
)

var someInts = []int{math.MinInt, math.MinInt + 1, -1 << 32, -64, -10, -2, -1, 0, 1, 2, 3, 4, 8, 9, 10, 63, 64, 65, 1 << 32, math.MaxInt - 1, math.MaxInt}

// chapter1Calls has each function of the chapter that takes a committee first, with other arguments that fit every one of four members.
func chapter1Calls(c impl.Committee) []call {
	return []call{
		callOf("IsCommittee", impl.IsCommittee, c),
		callOf("TotalWeight", impl.TotalWeight, c),
		callOf("WeightOfSet", impl.WeightOfSet, c, []int{0}),
		callOf("IsWinning", impl.IsWinning, c, []int{0}),
		callOf("IsBlocking", impl.IsBlocking, c, []int{0}),
		callOf("CountWinning", impl.CountWinning, c),
		callOf("CountWinningOf", impl.CountWinningOf, c, 1),
		callOf("LeastWinning", impl.LeastWinning, c),
		callOf("GreatestLosing", impl.GreatestLosing, c),
		callOf("LeastBlocking", impl.LeastBlocking, c),
		callOf("DictatorOf", impl.DictatorOf, c),
		callOf("VetoMembers", impl.VetoMembers, c),
		callOf("DummiesOf", impl.DummiesOf, c),
		callOf("DualCommittee", impl.DualCommittee, c),
		callOf("IsProper", impl.IsProper, c),
		callOf("IsStrong", impl.IsStrong, c),
		callOf("RenameCommittee", impl.RenameCommittee, c, upTo(len(c.Weights))),
		callOf("DropMember", impl.DropMember, c, 0),
		callOf("AreSameVotes", impl.AreSameVotes, c, c),
		callOf("CommitteeText", impl.CommitteeText, c),
	}
}

func upTo(n int) []int {
	list := make([]int, n)
	for i := range list {
		list[i] = i
	}
	return list
}

func TestInvalidCommittees(t *testing.T) {
	good := committee(5, 3, 2, 2, 1)
	for _, c := range append(invalidCommittees(), committee(1, ofWeight(1, 64)...), committee(1, ofWeight(1, 5000)...)) {
		for _, x := range chapter1Calls(c) {
			x.mustFail(t)
		}
		callOf("AreSameVotes", impl.AreSameVotes, c, good).mustFail(t)
		callOf("AreSameVotes", impl.AreSameVotes, good, c).mustFail(t)
		// Sets, members and sizes that even a committee does not have.
		callOf("WeightOfSet", impl.WeightOfSet, c, []int(nil)).mustFail(t)
		callOf("IsWinning", impl.IsWinning, c, []int(nil)).mustFail(t)
		callOf("IsBlocking", impl.IsBlocking, c, []int(nil)).mustFail(t)
		callOf("RenameCommittee", impl.RenameCommittee, c, []int(nil)).mustFail(t)
		for _, k := range someInts {
			callOf("CountWinningOf", impl.CountWinningOf, c, k).mustFail(t)
			callOf("DropMember", impl.DropMember, c, k).mustFail(t)
			callOf("WeightOfSet", impl.WeightOfSet, c, []int{k}).mustFail(t)
		}
	}
}

// noSets are no sets of four members.
func noSets() [][]int {
	sets := [][]int{
		{4}, {0, 4}, {0, 1, 2, 3, 4}, {9}, {-1}, {-1, 0}, {0, -1}, {-64}, {64}, {math.MinInt}, {math.MaxInt}, {0, math.MaxInt}, {math.MinInt, 0},
		{0, 0}, {1, 0}, {0, 1, 1}, {0, 2, 1}, {3, 2, 1, 0}, {0, 1, 2, 3, 3}, {0, 1, 2, 3, 0}, {3, 3}, {2, 2, 3}, {1 << 32}, {1<<32 + 1, 1<<32 + 2},
	}
	return append(sets, upTo(5000), ofWeight(0, 5000), ofWeight(3, 10))
}

func TestInvalidSets(t *testing.T) {
	for _, c := range []impl.Committee{committee(5, 3, 2, 2, 1), committee(1, 0, 0, 0, 1)} {
		for _, set := range noSets() {
			callOf("WeightOfSet", impl.WeightOfSet, c, set).mustFail(t)
			callOf("IsWinning", impl.IsWinning, c, set).mustFail(t)
			callOf("IsBlocking", impl.IsBlocking, c, set).mustFail(t)
		}
	}
	nine := committee(1, ofWeight(1, 9)...)
	for _, set := range [][]int{{9}, {8, 9}, {8, 8}, {8, 7}, upTo(10)} {
		callOf("WeightOfSet", impl.WeightOfSet, nine, set).mustFail(t)
	}
	if n, ok := impl.WeightOfSet(nine, upTo(9)); !ok || n != 9 {
		t.Error("WeightOfSet of all nine members", n, ok)
	}
}

// noOrders are no lists of all of four members, each once.
func noOrders() [][]int {
	return [][]int{
		nil, {0}, {0, 1, 2}, {0, 1, 2, 3, 0}, {0, 1, 2, 3, 4}, {0, 1, 2, 2}, {0, 0, 0, 0}, {3, 3, 3, 3}, {1, 2, 3, 4}, {-1, 0, 1, 2}, {0, 1, 2, -1},
		{0, 1, 2, 4}, {0, 1, 2, 64}, {0, 1, 2, 67}, {0, 1, 2, math.MaxInt}, {math.MinInt, 1, 2, 3}, {0, 1, 2, 1<<32 + 3}, upTo(5000),
	}
}

func TestInvalidOrders(t *testing.T) {
	c := committee(5, 3, 2, 2, 1)
	for _, order := range noOrders() {
		callOf("RenameCommittee", impl.RenameCommittee, c, order).mustFail(t)
	}
	callOf("RenameCommittee", impl.RenameCommittee, committee(1, 1), []int{1}).mustFail(t)
	callOf("RenameCommittee", impl.RenameCommittee, committee(1, 1), []int{0, 0}).mustFail(t)
}

func TestInvalidMembersAndSizes(t *testing.T) {
	for _, c := range []impl.Committee{committee(1, 3, 2, 2, 1), committee(1, 1), committee(1, ofWeight(1, 9)...)} {
		n := len(c.Weights)
		for _, k := range slices.Concat(someInts, upTo(12)) {
			_, ok := impl.CountWinningOf(c, k)
			if ok != (k >= 0 && k <= n) {
				t.Errorf("CountWinningOf(%v, %d) gives %v", c, k, ok)
			}
			if !ok {
				callOf("CountWinningOf", impl.CountWinningOf, c, k).mustFail(t)
			}
			if k < 0 || k >= n || n == 1 {
				callOf("DropMember", impl.DropMember, c, k).mustFail(t)
			} else if left, ok := impl.DropMember(c, k); !ok || len(left.Weights) != n-1 {
				t.Errorf("DropMember(%v, %d) = %v, %v", c, k, left, ok)
			}
		}
	}
}

// TestArgumentsAreKept checks for calls that succeed and for calls that fail that they change, share and keep nothing.
func TestArgumentsAreKept(t *testing.T) {
	for _, c := range slices.Concat(validCommittees(), mixedCommittees(), invalidCommittees()) {
		for _, x := range chapter1Calls(c) {
			x.mustKeepArguments(t)
		}
	}
	c := committee(5, 3, 2, 2, 1)
	for _, set := range append(noSets(), votesOf(c).sets...) {
		callOf("WeightOfSet", impl.WeightOfSet, c, set).mustKeepArguments(t)
		callOf("IsWinning", impl.IsWinning, c, set).mustKeepArguments(t)
		callOf("IsBlocking", impl.IsBlocking, c, set).mustKeepArguments(t)
		callOf("RenameCommittee", impl.RenameCommittee, c, set).mustKeepArguments(t)
	}
	for _, order := range [][]int{{3, 2, 1, 0}, {1, 0, 3, 2}, {0, 1, 2, 3}} {
		callOf("RenameCommittee", impl.RenameCommittee, c, order).mustKeepArguments(t)
	}
	for _, k := range someInts {
		callOf("CountWinningOf", impl.CountWinningOf, c, k).mustKeepArguments(t)
		callOf("DropMember", impl.DropMember, c, k).mustKeepArguments(t)
	}
	for _, s := range append(noCommitteeTexts(), "5:3,2,2,1", "1:1") {
		callOf("ParseCommittee", impl.ParseCommittee, s).mustKeepArguments(t)
	}
}

// TestSpareRoomIsNotRead gives committees and sets behind whose ends there is more.
func TestSpareRoomIsNotRead(t *testing.T) {
	weights := []int{3, 2, 2, 1, 1000, 1000}
	c := impl.Committee{Quota: 5, Weights: weights[:4]}
	if n, ok := impl.TotalWeight(c); !ok || n != 8 {
		t.Error("TotalWeight", n, ok)
	}
	if s, ok := impl.CommitteeText(c); !ok || s != "5:3,2,2,1" {
		t.Error("CommitteeText", s, ok)
	}
	dropped, ok := impl.DropMember(c, 0)
	if !ok || !sameCommittee(dropped, committee(5, 2, 2, 1)) || !slices.Equal(weights, []int{3, 2, 2, 1, 1000, 1000}) {
		t.Error("DropMember", dropped, ok, weights)
	}
	if n, ok := impl.WeightOfSet(c, []int{0, 1, 2}[:1]); !ok || n != 3 {
		t.Error("WeightOfSet", n, ok)
	}
}
