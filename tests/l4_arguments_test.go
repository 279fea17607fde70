package tests

import (
	"math"
	"slices"
	"strings"
	"testing"

	"loop.example/g01275/impl"
)

// orderOf returns an order of as many members as a game has, if these are few enough.
func orderOf(g impl.Game) []int { return upTo(min(max(g.Members, 0), 12)) }

// chapter4Calls has each function of the chapter that takes a game, with other arguments that fit every one.
func chapter4Calls(g impl.Game) []call {
	return []call{
		callOf("IsGame", impl.IsGame, g),
		callOf("WinsGame", impl.WinsGame, g, []int{0}),
		callOf("CountWins", impl.CountWins, g),
		callOf("DualGame", impl.DualGame, g),
		callOf("IsProperGame", impl.IsProperGame, g),
		callOf("IsStrongGame", impl.IsStrongGame, g),
		callOf("SumGames", impl.SumGames, g, game(1, "0")),
		callOf("SumGames", impl.SumGames, game(1, "0"), g),
		callOf("ProductGames", impl.ProductGames, g, game(1, "0")),
		callOf("ProductGames", impl.ProductGames, game(1, "0"), g),
		callOf("GameWithout", impl.GameWithout, g, 0),
		callOf("GameWith", impl.GameWith, g, 0),
		callOf("RenameGame", impl.RenameGame, g, orderOf(g)),
		callOf("FirstGame", impl.FirstGame, g),
		callOf("IdleMembers", impl.IdleMembers, g),
		callOf("NeededMembers", impl.NeededMembers, g),
		callOf("GameText", impl.GameText, g),
	}
}

func TestInvalidGames(t *testing.T) {
	for _, g := range invalidGames() {
		for _, x := range chapter4Calls(g) {
			x.mustFail(t)
		}
		callOf("SumGames", impl.SumGames, g, g).mustFail(t)
		callOf("ProductGames", impl.ProductGames, g, g).mustFail(t)
		// Sets, members and orders that even a game does not have.
		callOf("WinsGame", impl.WinsGame, g, []int(nil)).mustFail(t)
		callOf("RenameGame", impl.RenameGame, g, []int(nil)).mustFail(t)
		for _, k := range someInts {
			callOf("WinsGame", impl.WinsGame, g, []int{k}).mustFail(t)
			callOf("GameWithout", impl.GameWithout, g, k).mustFail(t)
			callOf("GameWith", impl.GameWith, g, k).mustFail(t)
		}
	}
	for _, c := range append(invalidCommittees(), committee(1, ofWeight(1, 64)...), committee(1, ofWeight(1, 5000)...)) {
		callOf("GameOf", impl.GameOf, c).mustFail(t)
	}
}

func TestSetsThatGamesDoNotHave(t *testing.T) {
	for _, g := range []impl.Game{game(4, "01", "02", "123"), game(4, "0"), game(4, "0123"), game(4, "0", "1", "2", "3")} {
		for _, set := range noSets() {
			callOf("WinsGame", impl.WinsGame, g, set).mustFail(t)
		}
	}
	nine := majority(9, 1)
	for _, set := range [][]int{{9}, {8, 9}, {8, 8}, {8, 7}, upTo(10)} {
		callOf("WinsGame", impl.WinsGame, nine, set).mustFail(t)
	}
	checkAnswer(t, callOf("WinsGame", impl.WinsGame, nine, upTo(9)), true)
	checkAnswer(t, callOf("WinsGame", impl.WinsGame, nine, []int(nil)), false)
	checkAnswer(t, callOf("WinsGame", impl.WinsGame, game(1, "0"), []int{}), false)
	checkAnswer(t, callOf("WinsGame", impl.WinsGame, game(1, "0"), []int{0}), true)
}

// TestNoSetsForGames gives each list that is no set alone, and before and behind sets.
func TestNoSetsForGames(t *testing.T) {
	for _, set := range append(noSets(), []int{}, nil) {
		for _, list := range [][][]int{{set}, {set, {0}}, {{0}, set}, {{0, 1}, set, {2, 3}}, {set, set}} {
			callOf("GameOfSets", impl.GameOfSets, 4, list).mustFail(t)
			callOf("IsGame", impl.IsGame, impl.Game{Members: 4, Wins: list}).mustFail(t)
		}
		callOf("GameOfSets", impl.GameOfSets, 4, append(slices.Repeat(sets("0"), 49), set)).mustFail(t)
	}
	for _, count := range []int{51, 52, 100, 5000} {
		callOf("GameOfSets", impl.GameOfSets, 4, slices.Repeat(sets("0"), count)).mustFail(t)
		callOf("GameOfSets", impl.GameOfSets, 4, make([][]int, count)).mustFail(t)
	}
}

// TestNumbersOfMembers takes numbers of any size where members of a game are counted, named or told.
func TestNumbersOfMembers(t *testing.T) {
	for _, n := range slices.Concat(someInts, upTo(12), []int{1<<32 + 1, 1<<32 + 4}) {
		isCount := n >= 1 && n <= 9
		for _, x := range []struct {
			c  call
			ok bool
		}{
			{callOf("GameOfSets", impl.GameOfSets, n, sets("0")), isCount},
			{callOf("GameOfSets", impl.GameOfSets, n, sets("8")), n == 9},
			{callOf("GameOfSets", impl.GameOfSets, n, gameOfLists(0, []int{n}).Wins), false},
			{callOf("GameOfSets", impl.GameOfSets, 9, gameOfLists(0, []int{n}).Wins), n >= 0 && n <= 8},
			{callOf("GameOfSets", impl.GameOfSets, n, sets()), false},
			{callOf("CountWins", impl.CountWins, game(n, "0")), isCount},
			{callOf("CountGames", impl.CountGames, n), n >= 1 && n <= 4},
			{callOf("CountProperGames", impl.CountProperGames, n), n >= 1 && n <= 4},
		} {
			if out := x.c.results(t, x.c.values()); out[1].Bool() != x.ok {
				t.Errorf("%v gives %v", x.c, out[1])
			}
			if !x.ok {
				x.c.mustFail(t)
			}
		}
		if impl.IsGame(game(n, "0")) != isCount {
			t.Errorf("IsGame is wrong with %d members", n)
		}
	}
}

// TestMembersThatGamesDoNotHave has games without and with members, some of which there are not.
func TestMembersThatGamesDoNotHave(t *testing.T) {
	for _, g := range []impl.Game{game(1, "0"), game(4, "01", "03", "12", "23"), majority(9, 5)} {
		for _, k := range slices.Concat(someInts, upTo(12)) {
			for _, x := range []call{callOf("GameWithout", impl.GameWithout, g, k), callOf("GameWith", impl.GameWith, g, k)} {
				if k < 0 || k >= g.Members || g.Members == 1 {
					x.mustFail(t)
				} else if out := x.results(t, x.values()); !out[1].Bool() {
					t.Errorf("%v fails", x)
				}
			}
		}
	}
}

func TestNoOrdersForGames(t *testing.T) {
	for _, g := range []impl.Game{game(4, "01", "02", "123"), game(4, "0"), game(4, "0123")} {
		for _, order := range noOrders() {
			callOf("RenameGame", impl.RenameGame, g, order).mustFail(t)
		}
	}
	callOf("RenameGame", impl.RenameGame, game(1, "0"), []int{1}).mustFail(t)
	callOf("RenameGame", impl.RenameGame, game(1, "0"), []int{0, 0}).mustFail(t)
	callOf("RenameGame", impl.RenameGame, majority(9, 5), upTo(10)).mustFail(t)
	callOf("RenameGame", impl.RenameGame, majority(9, 5), upTo(8)).mustFail(t)
}

// TestGamesKeepArguments checks for calls that succeed and for calls that fail that they change, share and keep nothing.
func TestGamesKeepArguments(t *testing.T) {
	for _, g := range slices.Concat(knownGames(), smallGames(3), mixedGames(), invalidGames()) {
		for _, x := range chapter4Calls(g) {
			x.mustKeepArguments(t)
		}
	}
	for _, x := range mixedSets() {
		callOf("GameOfSets", impl.GameOfSets, x.members, x.sets).mustKeepArguments(t)
	}
	for _, c := range slices.Concat(validCommittees(), mixedCommittees(), invalidCommittees()) {
		callOf("GameOf", impl.GameOf, c).mustKeepArguments(t)
	}
	g := game(4, "01", "02", "123")
	for _, set := range append(noSets(), votesOfGame(g).sets...) {
		callOf("WinsGame", impl.WinsGame, g, set).mustKeepArguments(t)
		callOf("RenameGame", impl.RenameGame, g, set).mustKeepArguments(t)
		callOf("GameOfSets", impl.GameOfSets, 4, [][]int{set, {0, 1}, set}).mustKeepArguments(t)
	}
	for _, order := range append(noOrders(), allOrders(4)...) {
		callOf("RenameGame", impl.RenameGame, g, order).mustKeepArguments(t)
	}
	for _, h := range allSmallGames() {
		callOf("SumGames", impl.SumGames, g, h).mustKeepArguments(t)
		callOf("ProductGames", impl.ProductGames, h, g).mustKeepArguments(t)
	}
	for _, k := range someInts {
		callOf("GameWithout", impl.GameWithout, g, k).mustKeepArguments(t)
		callOf("GameWith", impl.GameWith, g, k).mustKeepArguments(t)
		callOf("CountGames", impl.CountGames, k).mustKeepArguments(t)
		callOf("CountProperGames", impl.CountProperGames, k).mustKeepArguments(t)
	}
	for _, s := range append(noGameTexts(), "4;01.02.123", "1;0", "9;012345678") {
		callOf("ParseGame", impl.ParseGame, s).mustKeepArguments(t)
	}
}

// TestGamesDoNotReadSpareRoom gives lists behind whose ends there is more.
func TestGamesDoNotReadSpareRoom(t *testing.T) {
	wins := sets("01", "02", "123", "0", "3")
	wins[0] = []int{0, 1, 2, 3}[:2]
	g := impl.Game{Members: 4, Wins: wins[:3]}
	checkAnswer(t, callOf("CountWins", impl.CountWins, g), 7)
	checkAnswer(t, callOf("GameText", impl.GameText, g), "4;01.02.123")
	checkGame(t, callOf("GameOfSets", impl.GameOfSets, 4, wins[:3]), game(4, "01", "02", "123"))
	checkGame(t, callOf("SumGames", impl.SumGames, g, g), game(8, "01", "02", "123", "45", "46", "567"))
	checkAnswer(t, callOf("WinsGame", impl.WinsGame, g, []int{0, 3, 1}[:2]), false)
	if !sameSets(wins, sets("01", "02", "123", "0", "3")) || !slices.Equal(wins[0][:4], []int{0, 1, 2, 3}) {
		t.Error("the lists are changed:", wins)
	}
}

// TestLongGames takes lists and texts that are far too long, and stops in time.
func TestLongGames(t *testing.T) {
	all := votesOf(committee(1, ofWeight(1, 9)...)).sets[1:]
	many := slices.Repeat(all, 200)
	for _, g := range []impl.Game{{Members: 9, Wins: many}, {Members: math.MaxInt, Wins: many}, {Members: 9, Wins: make([][]int, 100000)}, gameOfLists(9, ofWeight(0, 100000))} {
		for _, x := range chapter4Calls(g) {
			x.mustFail(t)
		}
		callOf("GameOfSets", impl.GameOfSets, g.Members, g.Wins).mustFail(t)
	}
	callOf("ParseGame", impl.ParseGame, word(impl.Game{Members: 9, Wins: many})).mustFail(t)
	callOf("ParseGame", impl.ParseGame, "9;"+strings.Repeat("0.", 500000)+"0").mustFail(t)
}
