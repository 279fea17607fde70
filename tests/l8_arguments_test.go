package tests

import (
	"math"
	"slices"
	"testing"

	"loop.example/g01275/impl"
)

// someTrade is one of the game 4;01.23, and of games of more members.
func someTrade() impl.Trade { return trade(sets("01", "23"), sets("02", "13")) }

func TestDesiresOfInvalidGames(t *testing.T) {
	for _, g := range invalidGames() {
		checkFails(t, chapter8Calls(g, someTrade())...)
		checkFails(t, chapter8Calls(g, impl.Trade{})...)
		checkFails(t, chapter8Calls(g, trade(sets("0", "0"), sets("0", "0")))...)
		// Members that even a game does not have.
		for _, k := range someInts {
			checkFails(t, memberCalls(g, k, 0)...)
			checkFails(t, memberCalls(g, 0, k)...)
			checkFails(t, callOf("UnderMembers", impl.UnderMembers, g, k))
		}
	}
}

// memberCalls are all calls for two members: that to compare them fails also if they are unlike.
func memberCalls(g impl.Game, i, j int) []call {
	return append(worthCalls(g, i, j), callOf("CompareMembers", impl.CompareMembers, g, i, j))
}

// TestMembersWorthNothing has members that a game doesn't have, numbers of any size, and the same member twice.
func TestMembersWorthNothing(t *testing.T) {
	numbers := slices.Concat(someInts, fromTo(-3, 12), []int{1<<32 + 1, 1<<32 + 3, 1 << 62, -1 << 62})
	for _, g := range []impl.Game{game(1, "0"), game(2, "0"), game(4, "01", "02", "123"), game(4, "0123"), game(9, "07", "17", "27")} {
		isMember := func(k int) bool { return k >= 0 && k < g.Members }
		for _, i := range numbers {
			mustSucceedIf(t, isMember(i), callOf("UnderMembers", impl.UnderMembers, g, i))
			for _, j := range numbers {
				mustSucceedIf(t, isMember(i) && isMember(j) && i != j, memberCalls(g, i, j)...)
			}
		}
	}
	// Unlike members are two members, too.
	mustSucceedIf(t, true, worthCalls(game(4, "01", "23"), 0, 2)...)
	checkFails(t, callOf("CompareMembers", impl.CompareMembers, game(4, "01", "23"), 0, 2))
}

// TestDesiresOfManyGames checks which functions take games of each number of members, and of each kind.
func TestDesiresOfManyGames(t *testing.T) {
	for _, g := range append(manyGames(), squareGame()) {
		mustSucceedIf(t, true,
			callOf("IsComplete", impl.IsComplete, g),
			callOf("ShiftLeast", impl.ShiftLeast, g),
			callOf("ShiftGreatest", impl.ShiftGreatest, g),
			callOf("WorthTable", impl.WorthTable, g),
			callOf("UnderMembers", impl.UnderMembers, g, g.Members-1),
			callOf("IsTrade", impl.IsTrade, g, impl.Trade{}),
			callOf("IsTrade", impl.IsTrade, g, someTrade()),
		)
		mustSucceedIf(t, g.Members <= 6, tradeCalls(g)...)
	}
}

// TestTradesOfAnyLists gives lists that are no sets in each place of a trade: it is none then, but the call succeeds.
func TestTradesOfAnyLists(t *testing.T) {
	isTrade := func(g impl.Game, x impl.Trade) call { return callOf("IsTrade", impl.IsTrade, g, x) }
	four, two, three := game(4, "01", "23"), someTrade(), trade(sets("012", "012", "34"), sets("01", "023", "124"))
	five := game(5, "012", "34")
	checkAnswer(t, isTrade(four, two), true)
	checkAnswer(t, isTrade(five, three), true)
	lists := append(noSets(), nil, []int{}, []int{0}, []int{0, 1, 2, 3}, []int{5}, upTo(5), upTo(6), upTo(100000))
	for _, list := range lists {
		for i := range 2 {
			checkAnswer(t, isTrade(four, trade(withList(two.Wins, i, list), two.Loses)), false)
			checkAnswer(t, isTrade(four, trade(two.Wins, withList(two.Loses, i, list))), false)
			checkAnswer(t, isTrade(four, trade(withList(two.Wins, i, list), withList(two.Loses, i, list))), false)
		}
		for i := range 3 {
			checkAnswer(t, isTrade(five, trade(withList(three.Wins, i, list), three.Loses)), false)
			checkAnswer(t, isTrade(five, trade(three.Wins, withList(three.Loses, i, list))), false)
			checkAnswer(t, isTrade(five, trade(withList(three.Wins, i, list), withList(three.Loses, i, list))), false)
		}
	}
	for _, k := range slices.Concat(someInts, fromTo(-3, 12)) {
		for _, j := range []int{k - 1, k + 1, 0} {
			checkAnswer(t, isTrade(four, trade([][]int{{0, 1}, {j, k}}, [][]int{{0, k}, {1, j}})), j == 2 && k == 3)
		}
	}
}

func withList(lists [][]int, i int, list []int) [][]int {
	changed := slices.Clone(lists)
	changed[i] = list
	return changed
}

// TestTradesOfAnyLength has no sets at all, one, and far too many, as many on both sides or not.
func TestTradesOfAnyLength(t *testing.T) {
	lengths := []int{0, 1, 2, 3, 4, 5, 6, 64, 5000}
	for _, g := range []impl.Game{game(1, "0"), game(4, "01", "23"), game(6, "012345"), majority(9, 1), squareGame()} {
		for _, n := range lengths {
			for _, m := range lengths {
				for _, x := range []impl.Trade{
					trade(make([][]int, n), make([][]int, m)),
					trade(slices.Repeat([][]int{upTo(g.Members)}, n), make([][]int, m)),
					trade(slices.Repeat([][]int{upTo(g.Members)}, n), slices.Repeat([][]int{upTo(g.Members)}, m)),
					trade(slices.Repeat([][]int{{0, 1}}, n), slices.Repeat([][]int{{0, 2}}, m)),
				} {
					checkAnswer(t, callOf("IsTrade", impl.IsTrade, g, x), false)
				}
			}
		}
	}
	for n := range 9 {
		// A trade of two, so often.
		x := trade(append(slices.Repeat(sets("01"), n), slices.Repeat(sets("23"), n)...), append(slices.Repeat(sets("02"), n), slices.Repeat(sets("13"), n)...))
		checkAnswer(t, callOf("IsTrade", impl.IsTrade, game(4, "01", "23"), x), n == 1)
	}
}

// TestDesiresKeepArguments checks for calls that succeed and for calls that fail that they change, share and keep nothing.
func TestDesiresKeepArguments(t *testing.T) {
	games := slices.Concat(manyGames(), invalidGames(), fiveMembers(60), sixMembers(60), []impl.Game{squareGame()})
	inParts(t, games, func(t *testing.T, _ int, g impl.Game) {
		for _, x := range chapter8Calls(g, someTrade()) {
			x.mustKeepArguments(t)
		}
		if x, ok := impl.FirstTrade(g); ok {
			callOf("IsTrade", impl.IsTrade, g, x).mustKeepArguments(t)
		}
		if x, ok := impl.FirstTradeOfThree(g); ok {
			callOf("IsTrade", impl.IsTrade, g, x).mustKeepArguments(t)
		}
	})
}

func TestTradesKeepArguments(t *testing.T) {
	two := someTrade()
	for _, g := range []impl.Game{game(4, "01", "23"), game(5, "012", "34"), game(6, "01", "02", "03", "1234", "1235", "1245")} {
		for _, list := range append(noSets(), nil, []int{0, 1, 2, 3}) {
			for i := range 2 {
				callOf("IsTrade", impl.IsTrade, g, trade(withList(two.Wins, i, list), two.Loses)).mustKeepArguments(t)
				callOf("IsTrade", impl.IsTrade, g, trade(two.Wins, withList(two.Loses, i, list))).mustKeepArguments(t)
			}
		}
		for _, k := range someInts {
			callOf("UnderMembers", impl.UnderMembers, g, k).mustKeepArguments(t)
			for _, x := range append(memberCalls(g, k, 1), memberCalls(g, 2, k)...) {
				x.mustKeepArguments(t)
			}
		}
	}
	three := trade(sets("012", "012", "34"), sets("01", "023", "124"))
	callOf("IsTrade", impl.IsTrade, game(5, "012", "34"), three).mustKeepArguments(t)
}

// TestDesiresDoNotReadSpareRoom gives lists behind whose ends there is more.
func TestDesiresDoNotReadSpareRoom(t *testing.T) {
	wins := sets("01", "23", "3")
	wins[0] = []int{0, 1, 2, 9}[:2]
	g := impl.Game{Members: 4, Wins: wins[:2]}
	x := trade(append(sets("01", "23"), nil, []int{7})[:2], append(sets("02", "13"), []int{0})[:2])
	x.Loses[1] = []int{1, 3, 3, 1}[:2]
	checkAnswer(t, callOf("IsTrade", impl.IsTrade, g, x), true)
	checkTrade(t, callOf("FirstSwap", impl.FirstSwap, g), x)
	checkTrade(t, callOf("FirstTrade", impl.FirstTrade, g), x)
	checkFails(t, callOf("FirstTradeOfThree", impl.FirstTradeOfThree, g), callOf("ClassesOf", impl.ClassesOf, g))
	checkSetsOf(t, callOf("ShiftLeast", impl.ShiftLeast, g), sets("01", "23"))
	checkMembersOf(t, callOf("UnderMembers", impl.UnderMembers, g, 3), nil)
	checkSetsOf(t, callOf("ClassesOf", impl.ClassesOf, impl.Game{Members: 4, Wins: wins[:1]}), sets("01", "23"))
	checkAnswer(t, callOf("IsTrade", impl.IsTrade, g, trade(x.Wins[:1], x.Loses[:1])), false)
	checkAnswer(t, callOf("IsTrade", impl.IsTrade, g, trade(x.Wins[:3], x.Loses[:3])), false)
	if !sameSets(wins, sets("01", "23", "3")) || !slices.Equal(wins[0][:4], []int{0, 1, 2, 9}) || !slices.Equal(x.Loses[1][:4], []int{1, 3, 3, 1}) || len(x.Wins[:3][2]) != 0 {
		t.Error("the lists are changed:", wins, x)
	}
}

// TestLongDesires takes lists that are far too long, and stops in time.
func TestLongDesires(t *testing.T) {
	all := votesOf(committee(1, ofWeight(1, 9)...)).sets[1:]
	long := slices.Repeat(sets("01"), 100000)
	for _, g := range []impl.Game{{Members: 9, Wins: slices.Repeat(all, 200)}, {Members: math.MaxInt, Wins: long}, {Members: 4, Wins: make([][]int, 100000)}, gameOfLists(4, ofWeight(0, 100000))} {
		checkFails(t, chapter8Calls(g, trade(long, long))...)
	}
	for _, g := range []impl.Game{game(4, "01", "23"), majority(9, 4)} {
		checkAnswer(t, callOf("IsTrade", impl.IsTrade, g, trade(long, long)), false)
		checkAnswer(t, callOf("IsTrade", impl.IsTrade, g, trade(long, long[:2])), false)
		checkAnswer(t, callOf("IsTrade", impl.IsTrade, g, trade([][]int{upTo(100000), upTo(100000)}, [][]int{upTo(100000), upTo(100000)})), false)
	}
}
