package tests

import (
	"math"
	"slices"
	"testing"

	"loop.example/g01275/impl"
)

// chapter5Calls has each function of the chapter that takes a committee, with other arguments that fit.
func chapter5Calls(c impl.Committee) []call {
	return []call{
		callOf("DoesFitGame", impl.DoesFitGame, c, game(4, "01", "02", "123")),
		callOf("LeastCommittee", impl.LeastCommittee, c),
		callOf("IsLeastCommittee", impl.IsLeastCommittee, c),
		callOf("TimesCommittee", impl.TimesCommittee, c, 1),
		callOf("PartCommittee", impl.PartCommittee, c),
		callOf("SortCommittee", impl.SortCommittee, c),
		callOf("AddVeto", impl.AddVeto, c),
		callOf("AddDummy", impl.AddDummy, c),
		callOf("LowerWeights", impl.LowerWeights, c),
		callOf("SpareOf", impl.SpareOf, c),
	}
}

// weightCalls has each function of the chapter that takes a game.
func weightCalls(g impl.Game) []call {
	return []call{
		callOf("HasWeights", impl.HasWeights, g),
		callOf("LeastWeights", impl.LeastWeights, g),
		callOf("LeastTotal", impl.LeastTotal, g),
		callOf("DoesFitGame", impl.DoesFitGame, committee(5, 3, 2, 2, 1), g),
		callOf("QuotaOfGame", impl.QuotaOfGame, g, ofWeight(1, min(max(g.Members, 0), 12))),
	}
}

func TestWeightsOfInvalidCommittees(t *testing.T) {
	for _, c := range append(invalidCommittees(), committee(1, ofWeight(1, 64)...), committee(1, ofWeight(1, 5000)...), committee(1, ofWeight(0, 5)...)) {
		checkFails(t, chapter5Calls(c)...)
		for _, k := range someInts {
			checkFails(t, callOf("TimesCommittee", impl.TimesCommittee, c, k))
		}
		for _, g := range slices.Concat(knownGames(), invalidGames()) {
			checkFails(t, callOf("DoesFitGame", impl.DoesFitGame, c, g))
		}
	}
}

func TestWeightsOfInvalidGames(t *testing.T) {
	for _, g := range invalidGames() {
		checkFails(t, weightCalls(g)...)
		for _, c := range validCommittees() {
			checkFails(t, callOf("DoesFitGame", impl.DoesFitGame, c, g), callOf("QuotaOfGame", impl.QuotaOfGame, g, c.Weights))
		}
		checkFails(t, callOf("QuotaOfGame", impl.QuotaOfGame, g, []int(nil)))
	}
}

// TestNoWeightsOfGames has too many weights, too few, such as are below 0 or above MaxWeight, and such as are together 0.
func TestNoWeightsOfGames(t *testing.T) {
	one, three, nine := game(1, "0"), game(3, "01", "02", "12"), majority(9, 5)
	for _, g := range []impl.Game{one, three, game(3, "0"), game(3, "012"), game(3, "0", "1", "2"), nine, game(9, "0")} {
		for n := range 13 {
			isFound := n == g.Members && (len(g.Wins) > 1 || n == 1 || len(g.Wins[0]) == n)
			if c := callOf("QuotaOfGame", impl.QuotaOfGame, g, ofWeight(1, n)); !isFound {
				c.mustFail(t)
			} else if out := c.results(t, c.values()); !out[1].Bool() {
				t.Fatalf("%v fails", c)
			}
		}
		for _, weights := range append(noWeights(), ofWeight(0, g.Members)) {
			checkFails(t, callOf("QuotaOfGame", impl.QuotaOfGame, g, weights))
		}
	}
	for _, weights := range [][]int{{2, 1, -1}, {-1, -1, -1}, {1001, 1001, 1001}, {1000, 1000, 1001}, {1001, 1000, 1000}, {2, -1, 2}, {math.MaxInt, math.MaxInt, math.MaxInt}, {math.MinInt, 1, 1}, {1 << 32, 1 << 32, 1 << 32}, {1<<32 + 1, 1<<32 + 1, 1<<32 + 1}, {257, 257, 1257}, {0, 0, 0}, {1, 0, 0}, {1, 1}, {1, 1, 1, 1}, {1, 1, 1, 0}, {0, 1, 1, 1}} {
		checkFails(t, callOf("QuotaOfGame", impl.QuotaOfGame, three, weights))
	}
	checkAnswer(t, callOf("QuotaOfGame", impl.QuotaOfGame, three, []int{1000, 1000, 1000}), 1001)
	checkAnswer(t, callOf("QuotaOfGame", impl.QuotaOfGame, three, []int{1, 1, 1}), 2)
	for _, w := range slices.Concat(someInts, []int{255, 256, 257, 999, 1000, 1001, 1256}) {
		c := callOf("QuotaOfGame", impl.QuotaOfGame, one, []int{w})
		if w < 1 || w > 1000 {
			c.mustFail(t)
		} else {
			checkAnswer(t, c, 1)
		}
		c = callOf("QuotaOfGame", impl.QuotaOfGame, game(2, "0"), []int{1000, w})
		if w < 0 || w > 999 {
			c.mustFail(t)
		} else {
			checkAnswer(t, c, w+1)
		}
	}
}

// TestMultiplesAndCounts takes numbers of any size.
func TestMultiplesAndCounts(t *testing.T) {
	for _, n := range slices.Concat(someInts, fromTo(-3, 12), []int{499, 500, 501, 999, 1000, 1001, 1002, 1<<32 + 1, 1<<32 + 3, 1 << 62}) {
		for _, c := range []impl.Committee{committee(1, 1), committee(2, 1, 0, 1), committee(1, 2), committee(1, 1000), committee(5, 3, 2, 2, 1)} {
			x := callOf("TimesCommittee", impl.TimesCommittee, c, n)
			if n < 1 || n > 1000 || slices.Max(c.Weights)*n > 1000 {
				x.mustFail(t)
			} else if out := x.results(t, x.values()); !out[1].Bool() {
				t.Errorf("%v fails", x)
			}
		}
		x := callOf("CountWeighted", impl.CountWeighted, n)
		if n < 1 || n > 4 {
			x.mustFail(t)
		} else {
			checkAnswer(t, x, []int{1, 4, 18, 148}[n-1])
		}
	}
}

// TestMultiplesThatRunOver has multiples so great that numbers run over and look small again: 3 times the first one is 2, and 1000 times the second one is 0.
func TestMultiplesThatRunOver(t *testing.T) {
	for _, k := range []int{6148914691236517206, 1 << 61, 1 << 62, 1<<62 + 1, math.MaxInt, math.MinInt} {
		for _, c := range []impl.Committee{committee(1, 3), committee(1, 3, 0), committee(1, 1000, 3), committee(1, 4, 3), committee(1, 2), committee(3, 3), committee(1, 1000)} {
			checkFails(t, callOf("TimesCommittee", impl.TimesCommittee, c, k))
		}
	}
}

// TestWeightsKeepArguments checks for calls that succeed and for calls that fail that they change, share and keep nothing.
func TestWeightsKeepArguments(t *testing.T) {
	for _, c := range slices.Concat(validCommittees(), mixedCommittees(), rareCommittees(), invalidCommittees()) {
		for _, x := range chapter5Calls(c) {
			x.mustKeepArguments(t)
		}
	}
	for _, g := range slices.Concat(knownGames(), smallGames(3), mixedGames(), invalidGames()) {
		for _, x := range weightCalls(g) {
			x.mustKeepArguments(t)
		}
	}
	c, g := committee(5, 3, 2, 2, 1), game(4, "01", "02", "123")
	callOf("LeastWeights", impl.LeastWeights, g).mustKeepArguments(t)
	callOf("QuotaOfGame", impl.QuotaOfGame, g, []int{30, 20, 20, 10}).mustKeepArguments(t)
	callOf("TimesCommittee", impl.TimesCommittee, c, 100).mustKeepArguments(t)
	callOf("EvenCommittee", impl.EvenCommittee, 9, 5).mustKeepArguments(t)
	for _, weights := range noWeights() {
		callOf("QuotaOfGame", impl.QuotaOfGame, g, weights).mustKeepArguments(t)
	}
	for _, k := range someInts {
		callOf("TimesCommittee", impl.TimesCommittee, c, k).mustKeepArguments(t)
		callOf("EvenCommittee", impl.EvenCommittee, k, k).mustKeepArguments(t)
		callOf("CountWeighted", impl.CountWeighted, k).mustKeepArguments(t)
	}
}

// TestWeightsDoNotReadSpareRoom gives lists behind whose ends there is more.
func TestWeightsDoNotReadSpareRoom(t *testing.T) {
	weights := []int{30, 20, 20, 10, 7, 1000}
	c := impl.Committee{Quota: 50, Weights: weights[:4]}
	wins := sets("01", "02", "123", "3")
	g := impl.Game{Members: 4, Wins: wins[:3]}
	checkCommittee(t, callOf("LeastCommittee", impl.LeastCommittee, c), committee(5, 3, 2, 2, 1))
	checkCommittee(t, callOf("LeastWeights", impl.LeastWeights, g), committee(5, 3, 2, 2, 1))
	checkAnswer(t, callOf("DoesFitGame", impl.DoesFitGame, c, g), true)
	checkAnswer(t, callOf("QuotaOfGame", impl.QuotaOfGame, g, weights[:4]), 41)
	checkFails(t, callOf("QuotaOfGame", impl.QuotaOfGame, g, weights[:3]))
	checkCommittee(t, callOf("TimesCommittee", impl.TimesCommittee, c, 2), committee(99, 60, 40, 40, 20))
	checkCommittee(t, callOf("PartCommittee", impl.PartCommittee, c), committee(5, 3, 2, 2, 1))
	checkCommittee(t, callOf("SortCommittee", impl.SortCommittee, c), committee(50, 30, 20, 20, 10))
	checkCommittee(t, callOf("AddVeto", impl.AddVeto, c), committee(130, 30, 20, 20, 10, 80))
	checkCommittee(t, callOf("AddDummy", impl.AddDummy, c), committee(50, 30, 20, 20, 10, 0))
	checkCommittee(t, callOf("LowerWeights", impl.LowerWeights, c), committee(50, 30, 20, 20, 10))
	if !slices.Equal(weights, []int{30, 20, 20, 10, 7, 1000}) || !sameSets(wins, sets("01", "02", "123", "3")) {
		t.Error("the lists are changed:", weights, wins)
	}
}

// TestLongWeights takes lists that are far too long, and stops in time.
func TestLongWeights(t *testing.T) {
	for _, c := range []impl.Committee{committee(1, ofWeight(1, 100000)...), committee(math.MaxInt, ofWeight(1000, 100000)...)} {
		checkFails(t, chapter5Calls(c)...)
		checkFails(t, callOf("QuotaOfGame", impl.QuotaOfGame, majority(9, 5), c.Weights))
	}
	all := votesOf(committee(1, ofWeight(1, 9)...)).sets[1:]
	for _, g := range []impl.Game{{Members: 9, Wins: slices.Repeat(all, 200)}, {Members: 5, Wins: make([][]int, 100000)}, gameOfLists(5, ofWeight(0, 100000))} {
		checkFails(t, weightCalls(g)...)
	}
}
