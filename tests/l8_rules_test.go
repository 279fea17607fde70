package tests

import (
	"slices"
	"testing"

	"loop.example/g01275/impl"
)

// gamesWithDesires are of each number of members, complete or not.
func gamesWithDesires() []impl.Game {
	games := slices.Concat(manyGames(), fiveMembers(12), sixMembers(60), []impl.Game{squareGame()})
	for i, g := range falling(6) {
		if i%9 == 0 {
			games = append(games, g)
		}
	}
	for i, g := range falling(5) {
		order := [][]int{{4, 3, 2, 1, 0}, {1, 0, 2, 4, 3}, {2, 4, 0, 3, 1}}[i%3]
		games = append(games, votesRenamed(g, order).told())
	}
	return games
}

// votesRenamed has the member order[i] of a game as its member i.
func votesRenamed(g impl.Game, order []int) *votes {
	v := votesOfGame(g)
	return newVotes(g.Members, func(set []int) bool {
		var before []int
		for _, i := range set {
			before = append(before, order[i])
		}
		return v.isWon(before)
	})
}

// TestDesiresByTheirWords compares what is told of the members of many games with what the document's words give.
func TestDesiresByTheirWords(t *testing.T) {
	inParts(t, gamesWithDesires(), func(t *testing.T, _ int, g impl.Game) {
		v := votesOfGame(g)
		d := v.desire()
		rows := []string{}
		for _, row := range d {
			rows = append(rows, string(row))
		}
		checkPairs(t, g, rows)
		checkAnswer(t, callOf("IsComplete", impl.IsComplete, g), d.isComplete())
		classes, order := callOf("ClassesOf", impl.ClassesOf, g), callOf("OrderOfWorth", impl.OrderOfWorth, g)
		if d.isComplete() {
			checkSetsOf(t, classes, d.greatestFirst())
			checkMembersOf(t, order, slices.Concat(d.greatestFirst()...))
		} else {
			checkFails(t, classes, order)
		}
		checkSetsOf(t, callOf("ShiftLeast", impl.ShiftLeast, g), v.shifted(true, d))
		checkSetsOf(t, callOf("ShiftGreatest", impl.ShiftGreatest, g), v.shifted(false, d))
	})
}

// TestShiftsTellCompleteGames checks that a set wins in a complete game exactly if it is above one that is shifted least, and loses if it is below one that is shifted greatest.
func TestShiftsTellCompleteGames(t *testing.T) {
	inParts(t, slices.Concat(gamesWithDesires(), falling(6)), func(t *testing.T, _ int, g impl.Game) {
		order, ok := impl.OrderOfWorth(g)
		if !ok {
			return
		}
		// The greatest member is told as 0, the next one as 1, and so on.
		inNew := func(set []int) []int {
			var told []int
			for i, k := range order {
				if slices.Contains(set, k) {
					told = append(told, i)
				}
			}
			return told
		}
		least, _ := impl.ShiftLeast(g)
		greatest, _ := impl.ShiftGreatest(g)
		v := votesOfGame(g)
		for i, set := range v.sets {
			isOver := slices.ContainsFunc(least, func(low []int) bool { return isAbove(inNew(set), inNew(low), g.Members) })
			isUnder := slices.ContainsFunc(greatest, func(high []int) bool { return isAbove(inNew(high), inNew(set), g.Members) })
			if isOver != v.wins[i] || isUnder == v.wins[i] {
				t.Fatalf("%v: %v is over one of ShiftLeast %v: %v, under one of ShiftGreatest %v: %v", g, set, least, isOver, greatest, isUnder)
			}
		}
	})
}

// TestTradesByTheirWords goes through all trades of two winning sets, and through all swaps.
func TestTradesByTheirWords(t *testing.T) {
	games := slices.Concat(manyGames(), fiveMembers(2), sixMembers(160))
	for i, g := range falling(6) {
		_, has := impl.FirstTrade(g)
		if has || i%9 == 0 {
			games = append(games, g)
		}
	}
	inParts(t, games, func(t *testing.T, _ int, g impl.Game) {
		if g.Members > 6 {
			checkFails(t, tradeCalls(g)...)
			checkFails(t, callOf("FirstSwap", impl.FirstSwap, g), callOf("FirstTrade", impl.FirstTrade, g))
			return
		}
		v := votesOfGame(g)
		swap, swaps := impl.Trade{}, v.swaps()
		if len(swaps) > 0 {
			swap = slices.MinFunc(swaps, compareTrades)
		}
		any, is := v.firstTrade(2)
		checkFirst(t, callOf("FirstSwap", impl.FirstSwap, g), swap, len(swaps) > 0)
		checkAnswer(t, callOf("StandsSwaps", impl.StandsSwaps, g), len(swaps) == 0)
		checkFirst(t, callOf("FirstTrade", impl.FirstTrade, g), any, is)
		checkAnswer(t, callOf("StandsTrades", impl.StandsTrades, g), !is)
	})
}

// TestTradesOfThreeByTheirWords goes through all trades of three winning sets.
func TestTradesOfThreeByTheirWords(t *testing.T) {
	inParts(t, slices.Concat(manyGames(), fiveMembers(5), sixMembers(10)), func(t *testing.T, _ int, g impl.Game) {
		first := callOf("FirstTradeOfThree", impl.FirstTradeOfThree, g)
		if g.Members > 5 {
			checkFails(t, first)
			return
		}
		want, is := votesOfGame(g).firstTrade(3)
		checkFirst(t, first, want, is)
	})
}

// TestCompleteGamesStandSwaps has all games of at most five members, and all of six whose members are in the order of their worth: promise 8.
func TestCompleteGamesStandSwaps(t *testing.T) {
	inParts(t, slices.Concat(allSmallGames(), fiveMembers(1), sixMembers(400), falling(6)), func(t *testing.T, _ int, g impl.Game) {
		isComplete, ok := impl.IsComplete(g)
		checkAnswer(t, callOf("StandsSwaps", impl.StandsSwaps, g), isComplete && ok)
		stands, _ := impl.StandsTrades(g)
		if stands && !isComplete {
			t.Fatalf("%v is not complete, but stands trades", g)
		}
		swap, isSwap := impl.FirstSwap(g)
		any, isTrade := impl.FirstTrade(g)
		for _, x := range []struct {
			trade impl.Trade
			is    bool
		}{{swap, isSwap}, {any, isTrade}} {
			if x.is {
				checkAnswer(t, callOf("IsTrade", impl.IsTrade, g, x.trade), true)
			}
		}
		if isSwap && compareTrades(any, swap) > 0 {
			t.Fatalf("%v: the first trade is %v, but the first swap %v", g, any, swap)
		}
	})
}

// TestGamesWithWeightsStandTrades takes the games of committees, in which a member is worth each one that does not weigh more: promise 8.
func TestGamesWithWeightsStandTrades(t *testing.T) {
	inParts(t, slices.Concat(manyCommittees(), rareCommittees()), func(t *testing.T, _ int, c impl.Committee) {
		g, _ := impl.GameOf(c)
		checkAnswer(t, callOf("IsComplete", impl.IsComplete, g), true)
		for i, w := range c.Weights {
			for j, other := range c.Weights {
				if i != j && w >= other {
					checkAnswer(t, callOf("IsWorth", impl.IsWorth, g, i, j), true)
				}
			}
		}
		if g.Members <= 6 {
			checkAnswer(t, callOf("StandsSwaps", impl.StandsSwaps, g), true)
			checkAnswer(t, callOf("StandsTrades", impl.StandsTrades, g), true)
		}
		checkFails(t, callOf("FirstSwap", impl.FirstSwap, g), callOf("FirstTrade", impl.FirstTrade, g), callOf("FirstTradeOfThree", impl.FirstTradeOfThree, g))
	})
}

// TestHowManyGamesStandTrades counts complete games whose members are in the order of their worth, and those with weights among them: of at most six members just these stand trades.
func TestHowManyGamesStandTrades(t *testing.T) {
	for i, want := range [][2]int{{1, 1}, {3, 3}, {8, 8}, {25, 25}, {117, 117}, {1171, 1111}} {
		got := [2]int{}
		for _, g := range falling(i + 1) {
			got[0]++
			if stands, _ := impl.StandsTrades(g); stands {
				got[1]++
			}
		}
		if got != want {
			t.Errorf("of %d complete games of %d members %d stand trades, want %v", got[0], i+1, got[1], want)
		}
	}
}

// TestHowManyGamesHaveTrades counts the games of at most five members that have trades of two and of three winning sets: those that have none of two have weights, and none of three.
func TestHowManyGamesHaveTrades(t *testing.T) {
	all := slices.Concat(allSmallGames(), fiveMembers(1))
	two, three := make([]bool, len(all)), make([]bool, len(all))
	t.Run("all", func(t *testing.T) {
		inParts(t, upTo(len(all)), func(t *testing.T, _ int, i int) {
			_, two[i] = impl.FirstTrade(all[i])
			var first impl.Trade
			first, three[i] = impl.FirstTradeOfThree(all[i])
			if three[i] {
				checkAnswer(t, callOf("IsTrade", impl.IsTrade, all[i], first), true)
			}
		})
	})
	counts := map[[3]int]int{}
	for i, g := range all {
		kind := [3]int{g.Members, 0, 0}
		for j, has := range []bool{two[i], three[i]} {
			if has {
				kind[j+1] = 1
			}
		}
		counts[kind]++
	}
	want := map[[3]int]int{{1, 0, 0}: 1, {2, 0, 0}: 4, {3, 0, 0}: 18, {4, 0, 0}: 148, {4, 1, 0}: 18, {5, 0, 0}: 3285, {5, 1, 0}: 2060, {5, 1, 1}: 2234}
	for kind, count := range want {
		if counts[kind] != count {
			t.Errorf("%d games of %d members have so many trades of two and of three: %v, want %d", counts[kind], kind[0], kind[1:], count)
		}
	}
	if len(counts) != len(want) {
		t.Error("there are games of other kinds:", counts)
	}
}

// dealt puts the members of some sets into as many other ones, each of them into as many, and puts these in order.
func (z *lot) dealt(lists [][]int, members int) [][]int {
	out := make([][]int, len(lists))
	for k := range members {
		count := 0
		for _, set := range lists {
			if slices.Contains(set, k) {
				count++
			}
		}
		for _, at := range allOrders(len(lists))[z.below(len(allOrders(len(lists))))][:count] {
			out[at] = append(out[at], k)
		}
	}
	slices.SortFunc(out, slices.Compare[[]int])
	return out
}

// TestGivenTradesByTheirWords asks for winning sets, and sets into which their members are put, whether they are a trade.
func TestGivenTradesByTheirWords(t *testing.T) {
	inParts(t, gamesWithDesires(), func(t *testing.T, i int, g impl.Game) {
		v := votesOfGame(g)
		z := lot(i)
		won := winningSets(g)
		for round := range 24 {
			x := impl.Trade{}
			for range []int{1, 2, 2, 2, 2, 3, 3, 3, 3, 3, 3, 4}[round%12] {
				x.Wins = append(x.Wins, won[z.below(len(won))])
				if z.below(2) == 0 {
					x.Wins[len(x.Wins)-1] = g.Wins[z.below(len(g.Wins))]
				}
			}
			if z.below(6) > 0 {
				slices.SortFunc(x.Wins, slices.Compare[[]int])
			}
			x.Loses = z.dealt(x.Wins, g.Members)
			checkAnswer(t, callOf("IsTrade", impl.IsTrade, g, x), v.isTrade(x))
		}
	})
}

// changed gives a trade with one change.
func (z *lot) changed(x impl.Trade, v *votes) impl.Trade {
	x = trade(slices.Clone(x.Wins), slices.Clone(x.Loses))
	side := &x.Wins
	if z.below(2) == 0 {
		side = &x.Loses
	}
	at := z.below(len(*side))
	switch z.below(7) {
	case 0:
		slices.Reverse(*side)
	case 1:
		*side = slices.Delete(*side, at, at+1)
	case 2:
		(*side)[at] = v.sets[z.below(len(v.sets))]
	case 3:
		(*side)[at] = append([]int{z.below(v.members)}, (*side)[at]...)
	case 4:
		x.Wins = append(x.Wins, x.Wins[len(x.Wins)-1])
		x.Loses = append(x.Loses, x.Loses[len(x.Loses)-1])
	case 5:
		x.Wins, x.Loses = x.Loses, x.Wins
	case 6:
		*side = append(*side, (*side)[len(*side)-1])
	}
	return x
}

// TestChangedTradesByTheirWords takes some trades of each game, by now and then one, and changes them.
func TestChangedTradesByTheirWords(t *testing.T) {
	var games []impl.Game
	for _, g := range slices.Concat(smallGames(4), fiveMembers(60), sixMembers(20)) {
		if stands, _ := impl.StandsTrades(g); !stands {
			games = append(games, g)
		}
	}
	inParts(t, games, func(t *testing.T, i int, g impl.Game) {
		v := votesOfGame(g)
		z := lot(i)
		check := func(x impl.Trade) bool {
			if z.below(9) > 0 {
				return false
			}
			checkAnswer(t, callOf("IsTrade", impl.IsTrade, g, x), true)
			for range 10 {
				other := z.changed(x, v)
				checkAnswer(t, callOf("IsTrade", impl.IsTrade, g, other), v.isTrade(other))
			}
			return z.below(40) == 0
		}
		v.eachTrade(2, check)
		if g.Members <= 5 {
			v.eachTrade(3, check)
		}
	})
}
