package tests

import (
	"math"
	"slices"
	"testing"

	"loop.example/g01275/impl"
)

// chapter7Calls has each function of the chapter, with a committee in each place and other arguments that fit every committee.
func chapter7Calls(c impl.Committee) []call {
	pair := []impl.Committee{c, c}
	x := council{committee(2, 1, 1), []impl.Committee{committee(1, 1), c}}
	return slices.Concat(chamberCalls(pair, nil), x.calls(make([][]int, 2)), []call{
		callOf("AreChambers", impl.AreChambers, pair),
		callOf("AreCouncil", impl.AreCouncil, x.outer, x.inners),
		callOf("HeadsGame", impl.HeadsGame, c, 0),
		callOf("InnerChances", impl.InnerChances, pair),
		callOf("PlaceInCouncil", impl.PlaceInCouncil, pair, 0),
	})
}

func neededCalls(g impl.Game) []call {
	return []call{callOf("ChambersNeeded", impl.ChambersNeeded, g), callOf("ChambersOf", impl.ChambersOf, g)}
}

// noCommittees are none, each for one reason, some of them far too long.
func noCommittees() []impl.Committee {
	return append(invalidCommittees(), committee(1, ofWeight(1, 64)...), committee(1, ofWeight(0, 60)...), committee(1, ofWeight(1, 5000)...))
}

// withOne returns the list with another committee in the place i.
func withOne(list []impl.Committee, i int, c impl.Committee) []impl.Committee {
	changed := slices.Clone(list)
	changed[i] = c
	return changed
}

// TestChambersOfInvalidCommittees puts what is none in each place of lists of chambers.
func TestChambersOfInvalidCommittees(t *testing.T) {
	for _, c := range noCommittees() {
		checkFails(t, chapter7Calls(c)...)
		checkNoChambers(t, []impl.Committee{c})
		for _, good := range []impl.Committee{committee(1, 1), committee(1, 1, 1), committee(5, 3, 2, 2, 1)} {
			for n := 1; n <= 4; n++ {
				list := slices.Repeat([]impl.Committee{good}, n)
				for i := range list {
					checkNoChambers(t, withOne(list, i, c))
				}
			}
		}
		for _, k := range someInts {
			checkFails(t, callOf("HeadsGame", impl.HeadsGame, c, k))
		}
	}
}

// TestCouncilsOfInvalidCommittees puts what is none in each place of councils and of lists of inner committees.
func TestCouncilsOfInvalidCommittees(t *testing.T) {
	x := council{committee(2, 1, 1, 1), []impl.Committee{committee(1, 1), committee(1, 1, 1), committee(2, 1, 1)}}
	for _, c := range noCommittees() {
		council{c, x.inners}.checkNone(t, make([][]int, 3))
		council{c, []impl.Committee{committee(1, 1)}}.checkNone(t, make([][]int, 1))
		council{c, nil}.checkNone(t, nil)
		// As many inner ones as the list has members.
		ones := slices.Repeat([]impl.Committee{committee(1, 1)}, len(c.Weights))
		council{c, ones}.checkNone(t, make([][]int, len(ones)))
		council{committee(1, 1), []impl.Committee{c}}.checkNone(t, make([][]int, 1))
		for i := range x.inners {
			inners := withOne(x.inners, i, c)
			council{x.outer, inners}.checkNone(t, make([][]int, 3))
			checkFails(t, callOf("InnerChances", impl.InnerChances, inners))
			for _, k := range someInts {
				checkFails(t, callOf("PlaceInCouncil", impl.PlaceInCouncil, inners, k))
			}
		}
		checkFails(t, callOf("InnerChances", impl.InnerChances, []impl.Committee{c}), callOf("PlaceInCouncil", impl.PlaceInCouncil, []impl.Committee{c}, 0))
	}
}

// TestCouncilsOfOtherSizes has more and fewer inner committees than the outer one has members.
func TestCouncilsOfOtherSizes(t *testing.T) {
	for members := 1; members <= 10; members++ {
		outer := committee(1, ofWeight(1, members)...)
		for n := range 12 {
			x := council{outer, slices.Repeat([]impl.Committee{committee(1, 1)}, n)}
			if n == members && n <= 9 {
				mustSucceedIf(t, impl.AreCouncil(x.outer, x.inners), x.calls(make([][]int, n))...)
			} else {
				x.checkNone(t, make([][]int, n))
			}
		}
	}
	council{committee(1, 1), nil}.checkNone(t, nil)
	council{committee(5, 3, 2, 2, 1), []impl.Committee{}}.checkNone(t, [][]int{})
	council{impl.Committee{}, nil}.checkNone(t, nil)
}

func TestChambersOfInvalidSets(t *testing.T) {
	win := func(list []impl.Committee, set []int) []call {
		return []call{callOf("WinsAll", impl.WinsAll, list, set), callOf("WinsSome", impl.WinsSome, list, set)}
	}
	four := []impl.Committee{committee(5, 3, 2, 2, 1), committee(1, 0, 0, 0, 1)}
	for _, set := range noSets() {
		checkFails(t, win(four, set)...)
		checkFails(t, win(four[1:], set)...)
	}
	nine := []impl.Committee{committee(1, ofWeight(1, 9)...)}
	for _, set := range [][]int{{9}, {8, 9}, {8, 8}, {8, 7}, {1, 0}, upTo(10)} {
		checkFails(t, win(nine, set)...)
	}
	for _, k := range slices.Concat(someInts, upTo(12)) {
		mustSucceedIf(t, k >= 0 && k < 4, win(four, []int{k})...)
		mustSucceedIf(t, k >= 0 && k < 9, win(nine, []int{k})...)
	}
	mustSucceedIf(t, true, slices.Concat(win(nine, upTo(9)), win(four, nil), win(four, []int{}))...)
}

// TestCouncilsOfInvalidSets has sets that are none in each place, and more and fewer sets than inner committees.
func TestCouncilsOfInvalidSets(t *testing.T) {
	outer, inners := committee(2, 1, 1), []impl.Committee{committee(5, 3, 2, 2, 1), committee(1, 0, 0, 0, 1)}
	win := func(sets ...[]int) call { return callOf("WinsCouncil", impl.WinsCouncil, outer, inners, sets) }
	for _, set := range noSets() {
		checkFails(t, win(set, nil), win(nil, set), win(set, set), win(set, upTo(4)), win(upTo(4), set))
	}
	for _, k := range slices.Concat(someInts, upTo(12)) {
		mustSucceedIf(t, k >= 0 && k < 4, win([]int{k}, nil), win(nil, []int{k}))
	}
	// The members of the second committee are not told behind those of the first one.
	checkFails(t, win([]int{0, 1}, []int{7}), win([]int{0, 1, 7}, nil))
	for n := range 12 {
		mustSucceedIf(t, n == 2, win(make([][]int, n)...), win(slices.Repeat([][]int{upTo(4)}, n)...))
	}
	checkFails(t, win(slices.Repeat([][]int{{}}, 5000)...), win(nil...))
	// A set may be one of the committee beside it alone.
	inners = []impl.Committee{committee(1, 1, 1), committee(1, 1, 1, 1)}
	checkFails(t, win([]int{2}, []int{0}), win([]int{0}, []int{3}))
	checkAnswer(t, win([]int{1}, []int{2}), true)
}

// TestHeadsAndPlacesOfAnyNumbers takes numbers below 0, above what is told, and of any size.
func TestHeadsAndPlacesOfAnyNumbers(t *testing.T) {
	for _, n := range slices.Concat(someInts, fromTo(-3, 90), []int{1<<32 + 1, 1<<32 + 3, 1 << 62}) {
		for _, c := range []impl.Committee{committee(1, 1), committee(5, 3, 2, 2, 1), committee(9, ofWeight(1, 9)...)} {
			mustSucceedIf(t, n >= 0 && n <= len(c.Weights), callOf("HeadsGame", impl.HeadsGame, c, n))
			x := callOf("PlaceInCouncil", impl.PlaceInCouncil, []impl.Committee{c, committee(1, 1), c}, n)
			if n < 0 || n > 2*len(c.Weights) {
				x.mustFail(t)
			} else if out := x.results(t, x.values()); !out[2].Bool() {
				t.Fatalf("%v fails", x)
			}
		}
	}
}

func TestNeedsOfInvalidGames(t *testing.T) {
	for _, g := range invalidGames() {
		checkFails(t, neededCalls(g)...)
	}
	for _, g := range manyGames() {
		mustSucceedIf(t, g.Members <= 4, neededCalls(g)...)
	}
}

// TestChambersKeepArguments checks for calls that succeed and for calls that fail that they change, share and keep nothing.
func TestChambersKeepArguments(t *testing.T) {
	for _, c := range slices.Concat(validCommittees(), mixedCommittees(), noCommittees()) {
		for _, x := range chapter7Calls(c) {
			x.mustKeepArguments(t)
		}
	}
	for _, list := range slices.Concat(knownChambers(), mixedChambers()) {
		for _, x := range chamberCalls(list, []int{0}) {
			x.mustKeepArguments(t)
		}
		callOf("AreChambers", impl.AreChambers, list).mustKeepArguments(t)
	}
	for i, x := range manyCouncils() {
		if i%5 != 0 {
			continue
		}
		for _, c := range slices.Concat(x.calls(x.partsOf(upTo(x.members()-1))), council{x.outer, x.inners[1:]}.calls(nil)) {
			c.mustKeepArguments(t)
		}
		callOf("AreCouncil", impl.AreCouncil, x.outer, x.inners).mustKeepArguments(t)
		callOf("InnerChances", impl.InnerChances, x.inners).mustKeepArguments(t)
		callOf("PlaceInCouncil", impl.PlaceInCouncil, x.inners, x.members()-1).mustKeepArguments(t)
	}
	for _, g := range slices.Concat(knownGames(), allSmallGames(), invalidGames()) {
		for _, x := range neededCalls(g) {
			x.mustKeepArguments(t)
		}
	}
	four := []impl.Committee{committee(5, 3, 2, 2, 1), committee(1, 0, 0, 0, 1)}
	for _, set := range append(noSets(), nil, []int{0, 3}, upTo(4)) {
		for _, x := range slices.Concat(chamberCalls(four, set), council{committee(2, 1, 1), four}.calls([][]int{set, {1, 3}})) {
			x.mustKeepArguments(t)
		}
	}
	for _, k := range slices.Concat(someInts, upTo(9)) {
		callOf("HeadsGame", impl.HeadsGame, four[0], k).mustKeepArguments(t)
		callOf("PlaceInCouncil", impl.PlaceInCouncil, four, k).mustKeepArguments(t)
	}
}

// TestChambersDoNotReadSpareRoom gives lists behind whose ends there is more.
func TestChambersDoNotReadSpareRoom(t *testing.T) {
	weights, set := []int{3, 2, 2, 1, 7, 1000}, []int{1, 2, 3, 9}
	list := []impl.Committee{{Quota: 5, Weights: weights[:4]}, committee(3, 1, 1, 1, 1), committee(4, 1, 1, 1, 1), committee(9), committee(1, 1)}
	checkAnswer(t, callOf("WinsAll", impl.WinsAll, list[:2], set[:3]), true)
	checkAnswer(t, callOf("WinsAll", impl.WinsAll, list[:2], set[:2]), false)
	checkAnswer(t, callOf("WinsSome", impl.WinsSome, list[:1], set[:3]), true)
	checkGame(t, callOf("AllGame", impl.AllGame, list[:1]), game(4, "01", "02", "123"))
	checkGame(t, callOf("SomeGame", impl.SomeGame, list[1:2]), majority(4, 3))
	checkMembersOf(t, callOf("NeedlessChambers", impl.NeedlessChambers, list[:1]), nil)
	checkMembersOf(t, callOf("NeedlessChambers", impl.NeedlessChambers, list[:2]), []int{0})
	checkMembersOf(t, callOf("SwingsOfChambers", impl.SwingsOfChambers, list[:1]), []int{5, 3, 3, 1})
	checkNoChambers(t, list[:4])
	checkNoChambers(t, list[:0])
	outer := impl.Committee{Quota: 2, Weights: []int{1, 1, 9, 9}[:2]}
	checkAnswer(t, callOf("WinsCouncil", impl.WinsCouncil, outer, list[:2], [][]int{set[:3], set[:3], set}[:2]), true)
	checkAnswer(t, callOf("CountCouncilWins", impl.CountCouncilWins, outer, list[:2]), 35)
	checkSharesOf(t, callOf("InnerChances", impl.InnerChances, list[:2]), sharesOf(7, 16, 5, 16))
	checkPlace(t, list[:2], 7, 1, 3)
	checkFails(t, callOf("PlaceInCouncil", impl.PlaceInCouncil, list[:2], 8))
	council{outer, list[:3]}.checkNone(t, make([][]int, 3))
	wins := sets("01", "23", "3")
	checkCommittees(t, callOf("ChambersOf", impl.ChambersOf, impl.Game{Members: 4, Wins: wins[:2]}), committees(t, "2:2,0,1,1 4:1,3,2,2"))
	if !slices.Equal(weights, []int{3, 2, 2, 1, 7, 1000}) || !slices.Equal(set, []int{1, 2, 3, 9}) || len(list[3].Weights) != 0 || !sameSets(wins, sets("01", "23", "3")) {
		t.Error("the lists are changed:", weights, set, list, wins)
	}
}

// TestLongChambers takes lists that are far too long, and stops in time.
func TestLongChambers(t *testing.T) {
	long := slices.Repeat([]impl.Committee{committee(5, ofWeight(1, 9)...)}, 100000)
	checkNoChambers(t, long)
	council{committee(1, ofWeight(1, 9)...), long}.checkNone(t, make([][]int, 100000))
	council{committee(1, ofWeight(1, 100000)...), long}.checkNone(t, make([][]int, 100000))
	checkFails(t, callOf("InnerChances", impl.InnerChances, long))
	for _, k := range []int{0, 8, 9, 80, 81, 899999, math.MaxInt} {
		checkFails(t, callOf("PlaceInCouncil", impl.PlaceInCouncil, long, k))
	}
	for _, c := range []impl.Committee{committee(1, ofWeight(1, 100000)...), committee(math.MaxInt, ofWeight(1000, 100000)...)} {
		checkFails(t, chapter7Calls(c)...)
	}
	for _, g := range []impl.Game{{Members: 4, Wins: make([][]int, 100000)}, {Members: 4, Wins: slices.Repeat(sets("0", "1"), 50000)}, gameOfLists(4, ofWeight(0, 100000))} {
		checkFails(t, neededCalls(g)...)
	}
	four := []impl.Committee{committee(5, 3, 2, 2, 1)}
	checkFails(t, chamberCalls(four, upTo(100000))[:2]...)
	checkFails(t, callOf("WinsCouncil", impl.WinsCouncil, committee(1, 1), four, [][]int{upTo(100000)}))
}
