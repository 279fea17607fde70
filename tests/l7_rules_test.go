package tests

import (
	"slices"
	"testing"

	"loop.example/g01275/impl"
)

// TestChambersByTheirWords compares what is told of many chambers with what the document's words give: promise 7.
func TestChambersByTheirWords(t *testing.T) {
	inParts(t, manyChambers(), func(t *testing.T, _ int, list []impl.Committee) {
		if !impl.AreChambers(list) {
			t.Fatalf("AreChambers(%v) is false", list)
		}
		all, some := votesOfAll(list), votesOfSome(list)
		for i, set := range all.sets {
			checkAnswer(t, callOf("WinsAll", impl.WinsAll, list, set), all.wins[i])
			checkAnswer(t, callOf("WinsSome", impl.WinsSome, list, set), some.wins[i])
		}
		checkGame(t, callOf("AllGame", impl.AllGame, list), all.told())
		checkGame(t, callOf("SomeGame", impl.SomeGame, list), some.told())
		checkMembersOf(t, callOf("NeedlessChambers", impl.NeedlessChambers, list), needlessByWords(list))
		checkMembersOf(t, callOf("SwingsOfChambers", impl.SwingsOfChambers, list), all.countSwingsOf())
	})
}

// TestChambersMakeGames checks that the games are some, and that sets win in them as they win all or some.
func TestChambersMakeGames(t *testing.T) {
	for _, list := range slices.Concat(knownChambers(), mixedChambers()) {
		all, _ := impl.AllGame(list)
		some, _ := impl.SomeGame(list)
		if !impl.IsGame(all) || !impl.IsGame(some) {
			t.Fatalf("AllGame(%v) and SomeGame are %v and %v", list, all, some)
		}
		for _, set := range votesOfAll(list).sets {
			wins, _ := impl.WinsAll(list, set)
			checkAnswer(t, callOf("WinsGame", impl.WinsGame, all, set), wins)
			wins, _ = impl.WinsSome(list, set)
			checkAnswer(t, callOf("WinsGame", impl.WinsGame, some, set), wins)
		}
		// The dual of what wins all is what wins some of the dual committees.
		var duals []impl.Committee
		for _, c := range list {
			dual, _ := impl.DualCommittee(c)
			duals = append(duals, dual)
		}
		dual, _ := impl.DualGame(all)
		checkGame(t, callOf("SomeGame", impl.SomeGame, duals), dual)
	}
}

// TestManyKindsOfChambers checks that the other tests meet chambers of each kind: with as many needless ones as there can be.
func TestManyKindsOfChambers(t *testing.T) {
	kinds := map[[2]int]int{}
	for _, list := range manyChambers() {
		kinds[[2]int{len(list), len(needlessByWords(list))}]++
	}
	for _, kind := range [][2]int{{1, 0}, {2, 0}, {2, 1}, {2, 2}, {3, 0}, {3, 1}, {3, 2}, {3, 3}, {4, 0}, {4, 1}, {4, 2}, {4, 3}, {4, 4}} {
		if kinds[kind] == 0 {
			t.Errorf("there are no %d chambers of which %d are needless", kind[0], kind[1])
		}
	}
}

func TestHeadsByTheirWords(t *testing.T) {
	inParts(t, manyCommittees(), func(t *testing.T, _ int, c impl.Committee) {
		n := len(c.Weights)
		v := votesOf(c)
		for heads := -1; heads <= n+1; heads++ {
			x := callOf("HeadsGame", impl.HeadsGame, c, heads)
			if heads < 0 || heads > n {
				x.mustFail(t)
				continue
			}
			checkGame(t, x, newVotes(n, func(set []int) bool { return len(set) >= heads && v.isWon(set) }).told())
			// The weights 1 and the heads as a quota are a second chamber.
			if heads > 0 {
				checkGame(t, x, votesOfAll([]impl.Committee{c, committee(heads, ofWeight(1, n)...)}).told())
			}
		}
	})
}

// TestCouncilsByTheirWords compares what is told of many councils with what the document's words give: promise 7.
func TestCouncilsByTheirWords(t *testing.T) {
	inParts(t, manyCouncils(), func(t *testing.T, _ int, x council) {
		if !impl.AreCouncil(x.outer, x.inners) {
			t.Fatalf("AreCouncil(%v, %v) is false", x.outer, x.inners)
		}
		v := x.votes()
		for i, set := range v.sets {
			checkAnswer(t, callOf("WinsCouncil", impl.WinsCouncil, x.outer, x.inners, x.partsOf(set)), v.wins[i])
		}
		checkGame(t, callOf("CouncilGame", impl.CouncilGame, x.outer, x.inners), v.told())
		checkAnswer(t, callOf("CountCouncilWins", impl.CountCouncilWins, x.outer, x.inners), v.countWinning(-1))
		powers := partsOf(v.countSwingsOf(), 1<<(v.members-1))
		checkSharesOf(t, callOf("CouncilPowers", impl.CouncilPowers, x.outer, x.inners), powers)
	})
}

// TestCouncilsOfCommittees checks councils that are committees, sums or products.
func TestCouncilsOfCommittees(t *testing.T) {
	one := committee(1, 1)
	for i, c := range slices.Concat(validCommittees(), mixedCommittees()) {
		g := votesOf(c).told()
		checkGame(t, callOf("CouncilGame", impl.CouncilGame, c, slices.Repeat([]impl.Committee{one}, g.Members)), g)
		checkGame(t, callOf("CouncilGame", impl.CouncilGame, one, []impl.Committee{c}), g)
		swings, _ := impl.SwingPowers(c)
		checkSharesOf(t, callOf("CouncilPowers", impl.CouncilPowers, one, []impl.Committee{c}), swings)
		for _, d := range []impl.Committee{one, committee(2, 1, 1), committee(1, 1, 0), committee(3, 1, 2, 1), committee(5, 3, 2, 2, 1)} {
			pair, h := []impl.Committee{c, d}, votesOf(d).told()
			if i%2 == 0 {
				pair, g, h = []impl.Committee{d, c}, h, g
			}
			sum, ok := impl.SumGames(g, h)
			product, _ := impl.ProductGames(g, h)
			if ok {
				checkGame(t, callOf("CouncilGame", impl.CouncilGame, committee(1, 1, 1), pair), sum)
				checkGame(t, callOf("CouncilGame", impl.CouncilGame, committee(2, 1, 1), pair), product)
			} else {
				checkFails(t, callOf("CouncilGame", impl.CouncilGame, committee(1, 1, 1), pair))
			}
			g, h = votesOf(c).told(), votesOf(d).told()
		}
	}
}

// TestPlacesByTheirWords counts the members one after the other; some committees have more together than a council may have.
func TestPlacesByTheirWords(t *testing.T) {
	lists := [][]impl.Committee{validCommittees()[:9], validCommittees()[12:20], mixedCommittees()[:9], mixedCommittees()[9:11]}
	for _, x := range manyCouncils() {
		lists = append(lists, x.inners)
	}
	for _, inners := range lists {
		k := 0
		for i, inner := range inners {
			for j := range inner.Weights {
				checkPlace(t, inners, k, i, j)
				k++
			}
		}
		checkFails(t, callOf("PlaceInCouncil", impl.PlaceInCouncil, inners, k), callOf("PlaceInCouncil", impl.PlaceInCouncil, inners, -1))
		checkChances(t, inners)
	}
	for chunk := range slices.Chunk(manyCommittees(), 9) {
		checkChances(t, chunk)
	}
}

func checkChances(t *testing.T, inners []impl.Committee) {
	t.Helper()
	var want []impl.Share
	for _, c := range inners {
		want = append(want, partOf(votesOf(c).countWinning(-1), 1<<len(c.Weights)))
	}
	checkSharesOf(t, callOf("InnerChances", impl.InnerChances, inners), want)
}
