package tests

import (
	"slices"
	"testing"

	"loop.example/g01275/impl"
)

// TestKnownCouncils has councils of one member and of MaxMembers, inner committees of one member, outer and inner dictators, and outer and inner dummies. Shares are told by a Num and a Den in turn.
func TestKnownCouncils(t *testing.T) {
	for _, x := range []struct {
		outer, inners, game string
		wins                int
		powers              []int
	}{
		{"1:1", "1:1", "1;0", 1, []int{1, 1}},
		{"7:9", "1000:1000", "1;0", 1, []int{1, 1}},
		// The council of one inner committee is that one, the council of inner ones of one member the outer one.
		{"1:1", "5:3,2,2,1", "4;01.02.123", 7, []int{5, 8, 3, 8, 3, 8, 1, 8}},
		{"3:5", "5:3,2,2,1", "4;01.02.123", 7, []int{5, 8, 3, 8, 3, 8, 1, 8}},
		{"2:1,1,1", "1:1 1:1 1:1", "3;01.02.12", 4, []int{1, 2, 1, 2, 1, 2}},
		{"5:3,2,2,1", "1:1 9:9 3:4 1:1000", "4;01.02.123", 7, []int{5, 8, 3, 8, 3, 8, 1, 8}},
		// One of both is enough, or both are needed.
		{"1:1,1", "2:1,1 2:1,1", "4;01.23", 7, []int{3, 8, 3, 8, 3, 8, 3, 8}},
		{"2:1,1", "1:1,1 1:1,1", "4;02.03.12.13", 9, []int{3, 8, 3, 8, 3, 8, 3, 8}},
		{"2:1,1", "1:1 1:1,1", "3;01.02", 3, []int{3, 4, 1, 4, 1, 4}},
		{"2:1,1", "1:1,1 1:1", "3;02.12", 3, []int{1, 4, 1, 4, 3, 4}},
		// an outer dictator, who makes the others dummies
		{"2:2,1", "2:1,1,1 1:1,1", "5;01.02.12", 16, []int{1, 2, 1, 2, 1, 2, 0, 1, 0, 1}},
		{"2:1,2", "2:1,1,1 1:1,1", "5;3.4", 24, []int{0, 1, 0, 1, 0, 1, 1, 2, 1, 2}},
		{"1:0,1", "1:1 2:1,1", "3;12", 2, []int{0, 1, 1, 2, 1, 2}},
		{"1:0,1,0", "1:1 1:1 1:1", "3;1", 4, []int{0, 1, 1, 1, 0, 1}},
		// inner dictators, who are the outer members themselves
		{"2:1,1", "4:4,1,1 4:1,4,1", "6;04", 16, []int{1, 2, 0, 1, 0, 1, 0, 1, 1, 2, 0, 1}},
		{"2:1,1,1", "1:1,0 1:0,1 1:1", "5;03.04.34", 16, []int{1, 2, 0, 1, 0, 1, 1, 2, 1, 2}},
		// a veto outside and inside
		{"5:4,1,1", "2:1,1 1:1 1:1", "4;012.013", 3, []int{3, 8, 3, 8, 1, 8, 1, 8}},
	} {
		outer, inners := mustParse(t, x.outer), committees(t, x.inners)
		if !impl.AreCouncil(outer, inners) {
			t.Fatalf("AreCouncil(%v, %v) is false", outer, inners)
		}
		checkGame(t, callOf("CouncilGame", impl.CouncilGame, outer, inners), gameOfWord(x.game))
		checkAnswer(t, callOf("CountCouncilWins", impl.CountCouncilWins, outer, inners), x.wins)
		checkSharesOf(t, callOf("CouncilPowers", impl.CouncilPowers, outer, inners), sharesOf(x.powers...))
	}
}

// TestGreatCouncils has MaxMembers members in nine inner committees, in three and in one, and one member more.
func TestGreatCouncils(t *testing.T) {
	one, three, nine := committee(1, 1), committee(2, 1, 1, 1), committee(5, ofWeight(1, 9)...)
	for _, x := range []struct {
		council
		wins  int
		power impl.Share
	}{
		{council{nine, slices.Repeat([]impl.Committee{one}, 9)}, 256, share(35, 128)},
		{council{one, []impl.Committee{nine}}, 256, share(35, 128)},
		{council{three, []impl.Committee{three, three, three}}, 256, share(1, 4)},
	} {
		checkAnswer(t, callOf("CountCouncilWins", impl.CountCouncilWins, x.outer, x.inners), x.wins)
		checkSharesOf(t, callOf("CouncilPowers", impl.CouncilPowers, x.outer, x.inners), slices.Repeat([]impl.Share{x.power}, 9))
		checkGame(t, callOf("CouncilGame", impl.CouncilGame, x.outer, x.inners), x.votes().told())
	}
	four, eight := committee(2, 1, 1, 1, 1), committee(5, ofWeight(1, 8)...)
	for _, x := range []council{
		{three, []impl.Committee{three, three, four}},
		{three, []impl.Committee{four, three, three}},
		{three, []impl.Committee{nine, nine, nine}},
		{nine, append(slices.Repeat([]impl.Committee{one}, 8), committee(1, 1, 1))},
		{nine, append([]impl.Committee{committee(1, 1, 1)}, slices.Repeat([]impl.Committee{one}, 8)...)},
		{nine, slices.Repeat([]impl.Committee{one}, 10)},
		{committee(1, ofWeight(1, 10)...), slices.Repeat([]impl.Committee{one}, 10)},
		{one, []impl.Committee{committee(5, ofWeight(1, 10)...)}},
		{committee(1, 1, 1), []impl.Committee{nine, one}},
		{committee(1, 1, 1), []impl.Committee{one, nine}},
		{committee(1, 1, 1), []impl.Committee{eight, committee(1, 1, 1)}},
	} {
		x.checkNone(t, make([][]int, len(x.inners)))
	}
	x := council{committee(1, 1, 1), []impl.Committee{eight, one}}
	mustSucceedIf(t, impl.AreCouncil(x.outer, x.inners), x.calls([][]int{{}, {}})...)
	checkAnswer(t, callOf("CountCouncilWins", impl.CountCouncilWins, x.outer, x.inners), 256+93)
}

// TestKnownCouncilWins has empty sets and whole ones in inner committees.
func TestKnownCouncilWins(t *testing.T) {
	outer, inners := mustParse(t, "5:3,2,2"), committees(t, "2:1,1,1 2:1,1 1:1")
	for _, x := range []struct {
		sets [][]int
		wins bool
	}{
		{sets("", "", ""), false},
		{sets("012", "01", "0"), true},
		{sets("012", "01", ""), true},
		{sets("012", "", "0"), true},
		{sets("", "01", "0"), false},
		{sets("012", "", ""), false},
		{sets("01", "", "0"), true},
		{sets("02", "01", ""), true},
		{sets("12", "0", ""), false},
		{sets("12", "1", "0"), true},
		{sets("2", "01", "0"), false},
		{sets("2", "", ""), false},
		{[][]int{nil, nil, nil}, false},
		{[][]int{{0, 1}, nil, {0}}, true},
	} {
		checkAnswer(t, callOf("WinsCouncil", impl.WinsCouncil, outer, inners, x.sets), x.wins)
	}
	one := committees(t, "1:1")
	checkAnswer(t, callOf("WinsCouncil", impl.WinsCouncil, one[0], one, sets("0")), true)
	checkAnswer(t, callOf("WinsCouncil", impl.WinsCouncil, one[0], one, sets("")), false)
}

// TestKnownPlaces has the first and the last member of all and of each committee, and one behind.
func TestKnownPlaces(t *testing.T) {
	inners := committees(t, "2:1,1,1 1:1 2:1,1 5:3,2,2,1")
	for k, place := range [][2]int{{0, 0}, {0, 1}, {0, 2}, {1, 0}, {2, 0}, {2, 1}, {3, 0}, {3, 1}, {3, 2}, {3, 3}} {
		checkPlace(t, inners, k, place[0], place[1])
	}
	one, nine := committees(t, "1:1"), committees(t, "5:1,1,1,1,1,1,1,1,1")
	checkPlace(t, one, 0, 0, 0)
	checkPlace(t, nine, 0, 0, 0)
	checkPlace(t, nine, 8, 0, 8)
	ones, nines := slices.Repeat(one, 9), slices.Repeat(nine, 9)
	checkPlace(t, ones, 0, 0, 0)
	checkPlace(t, ones, 8, 8, 0)
	// The document bounds the number of committees alone.
	for k := range 81 {
		checkPlace(t, nines, k, k/9, k%9)
	}
	place := func(inners []impl.Committee, k int) call {
		return callOf("PlaceInCouncil", impl.PlaceInCouncil, inners, k)
	}
	checkFails(t, place(inners, 10), place(inners, -1), place(one, 1), place(one, -1), place(nine, 9), place(ones, 9), place(nines, 81), place(nines, -1))
	checkFails(t, place(slices.Repeat(one, 10), 0), place(slices.Repeat(one, 10), 9), place(nil, 0), place([]impl.Committee{}, 0))
}

func TestKnownChances(t *testing.T) {
	for _, x := range []struct {
		inners string
		want   []int
	}{
		{"1:1", []int{1, 2}},
		{"5:3,2,2,1", []int{7, 16}},
		{"5:3,2,2,1 1:1 1:1,1 2:1,1 2:1,1,1 1:0,1", []int{7, 16, 1, 2, 3, 4, 1, 4, 1, 2, 1, 2}},
		{"1:1,1,1,1,1,1,1,1,1 9:1,1,1,1,1,1,1,1,1 5:1,1,1,1,1,1,1,1,1", []int{511, 512, 1, 512, 1, 2}},
	} {
		checkSharesOf(t, callOf("InnerChances", impl.InnerChances, committees(t, x.inners)), sharesOf(x.want...))
	}
	nine := committees(t, "9:1,1,1,1,1,1,1,1,1")
	checkSharesOf(t, callOf("InnerChances", impl.InnerChances, slices.Repeat(nine, 9)), slices.Repeat(sharesOf(1, 512), 9))
	checkFails(t, callOf("InnerChances", impl.InnerChances, slices.Repeat(nine, 10)))
	checkFails(t, callOf("InnerChances", impl.InnerChances, []impl.Committee{}))
}
