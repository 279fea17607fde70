package tests

import (
	"runtime"
	"slices"
	"strings"
	"testing"
	"time"

	"loop.example/g01275/impl"
)

// sidesOf takes a trade as its Wins, a bar and its Loses; a line is the empty set. Without a bar there is none.
func sidesOf(text string) (impl.Trade, bool) {
	wins, loses, ok := strings.Cut(text, " | ")
	side := func(words string) [][]int { return sets(strings.Fields(strings.ReplaceAll(words, "-", " "))...) }
	t := trade(side(wins), side(loses))
	// The empty set is before all others.
	for range strings.Count(loses, "-") {
		t.Loses = slices.Insert(t.Loses, 0, []int{})
	}
	return t, ok
}

func checkFirstTrades(t *testing.T, g impl.Game, swap, any, three string) {
	t.Helper()
	want, is := sidesOf(swap)
	checkFirst(t, callOf("FirstSwap", impl.FirstSwap, g), want, is)
	checkAnswer(t, callOf("StandsSwaps", impl.StandsSwaps, g), !is)
	want, is = sidesOf(any)
	checkFirst(t, callOf("FirstTrade", impl.FirstTrade, g), want, is)
	checkAnswer(t, callOf("StandsTrades", impl.StandsTrades, g), !is)
	want, is = sidesOf(three)
	checkFirst(t, callOf("FirstTradeOfThree", impl.FirstTradeOfThree, g), want, is)
}

// TestKnownTrades has games that have none, swaps that are not the first trade, by Wins or by Loses, games that stand swaps but not trades, and trades of three that use a set twice.
func TestKnownTrades(t *testing.T) {
	for _, x := range []struct{ game, swap, any, three string }{
		{"1;0", "", "", ""},
		{"2;01", "", "", ""},
		{"3;01.02.12", "", "", ""},
		{"4;01.02.123", "", "", ""},
		{"5;0", "", "", ""},
		{"5;0.1.2.3.4", "", "", ""},
		{"5;01234", "", "", ""},
		// 0 3 and 1 2 lose, too, but come later.
		{"4;01.23", "01 23 | 02 13", "01 23 | 02 13", ""},
		{"4;02.13", "02 13 | 01 23", "02 13 | 01 23", ""},
		{"4;03.12", "03 12 | 01 23", "03 12 | 01 23", ""},
		// 0 2 and 1 3 are before 0 3 and 1 2.
		{"4;02.03.12.13", "02 13 | 01 23", "02 13 | 01 23", ""},
		{"5;01.23", "01 23 | 02 13", "01 23 | 02 13", ""},
		{"5;01.234", "01 234 | 02 134", "01 234 | 02 134", "01 0234 234 | 023 024 134"},
		// a winning set twice
		{"5;012.34", "012 034 | 013 024", "012 034 | 013 024", "012 012 34 | 01 023 124"},
		// a losing set twice
		{"5;01.04.134.24", "01 234 | 023 14", "01 234 | 023 14", "01 134 24 | 023 14 14"},
		{"5;01.02.034.14.24", "01 234 | 04 123", "01 234 | 04 123", "01 034 24 | 04 04 123"},
		{"5;04.124.13", "024 123 | 012 234", "024 123 | 012 234", "024 124 13 | 012 14 234"},
		// the first trade of two has the same Wins as the first swap
		{"6;01.035.13.235.345", "01 2345 | 0234 15", "01 2345 | 023 145", "-"},
		{"6;01.024.1235.124.1345.2345", "01 2345 | 0235 14", "01 2345 | 023 145", "-"},
		// other Wins
		{"6;01.023.025.035.1234.1245.235.345", "01 235 | 02 135", "01 2345 | 024 135", "-"},
		{"6;02.045.12.134.135.23", "02 134 | 013 24", "0145 23 | 013 245", "-"},
		{"6;05.14.23", "014 023 | 012 034", "014 023 | 012 034", "-"},
		{"6;012.345", "012 0345 | 013 0245", "012 0345 | 013 0245", "-"},
		// games that stand swaps
		{"6;01.02.03.1234.1235.1245", "", "03 1245 | 045 123", "-"},
		{"6;01.02.034.035.045.123", "", "045 123 | 03 1245", "-"},
		{"6;01.023.024.034.1234.1235.1245.1345.2345", "", "01 2345 | 025 134", "-"},
		{"6;012345", "", "", "-"},
		{"6;0.1.2.3.4.5", "", "", "-"},
	} {
		g := gameOfWord(x.game)
		checkFirstTrades(t, g, x.swap, x.any, x.three)
	}
}

// TestHowManyMembersTrade has games of each number of members, with trades and without.
func TestHowManyMembersTrade(t *testing.T) {
	for n := 1; n <= 9; n++ {
		for _, g := range []impl.Game{majority(n, n), majority(n, 1), gameOfLists(n, []int{n - 1}), game(max(n, 4), "01", "23")} {
			mustSucceedIf(t, g.Members <= 6, tradeCalls(g)...)
			stands := len(g.Wins) != 2 || g.Members < 4
			for _, x := range []call{callOf("FirstSwap", impl.FirstSwap, g), callOf("FirstTrade", impl.FirstTrade, g)} {
				mustSucceedIf(t, !stands && g.Members <= 6, x)
			}
			checkFails(t, callOf("FirstTradeOfThree", impl.FirstTradeOfThree, g))
		}
		// A member more who never counts.
		g := game(max(n, 5), "012", "34")
		mustSucceedIf(t, n <= 5, callOf("FirstTradeOfThree", impl.FirstTradeOfThree, g))
		mustSucceedIf(t, n <= 6, callOf("FirstTrade", impl.FirstTrade, g), callOf("FirstSwap", impl.FirstSwap, g))
	}
}

// TestKnownIsTrade has trades of two and of three sets, and lists that are none for one reason each.
func TestKnownIsTrade(t *testing.T) {
	for _, x := range []struct {
		game, trade string
		is          bool
	}{
		{"4;01.23", "01 23 | 02 13", true},
		{"4;01.23", "01 23 | 03 12", true},
		{"5;012.34", "012 012 34 | 01 023 124", true},
		{"5;01.04.134.24", "01 134 24 | 023 14 14", true},
		{"5;01.234", "01 234 | 02 134", true},
		{"6;01.02.03.1234.1235.1245", "03 1245 | 045 123", true},
		{"6;05.14.23", "05 14 23 | 012 034 5", false},
		{"6;05.14.23", "05 14 23 | - 012 345", true},
		{"6;05.14.23", "05 14 23 | 01 2 345", true},
		{"6;05.14.23", "05 05 14 | 01 045 5", false},
		{"6;012.345", "012 345 | 013 245", true},
		{"8;01.23.45.67", "01 67 | 06 17", true},
		{"9;01.23", "018 23 | 028 13", true},
		// as they need not be the first ones, nor least winning
		{"5;01.23", "014 234 | 024 134", true},
		{"5;01.23", "014 23 | 02 134", true},
		{"5;01.23", "01 234 | 02 134", true},
		// out of order
		{"4;01.23", "23 01 | 02 13", false},
		{"4;01.23", "01 23 | 13 02", false},
		{"4;01.23", "23 01 | 13 02", false},
		{"5;012.34", "012 34 012 | 01 023 124", false},
		{"5;012.34", "34 012 012 | 01 023 124", false},
		{"5;012.34", "012 012 34 | 023 01 124", false},
		{"5;012.34", "012 012 34 | 01 124 023", false},
		// lists that are no sets, or not of these members
		{"4;01.23", "10 23 | 02 13", false},
		{"4;01.23", "01 32 | 02 13", false},
		{"4;01.23", "01 23 | 20 13", false},
		{"4;01.23", "01 23 | 02 31", false},
		{"4;01.23", "014 23 | 024 13", false},
		{"4;01.23", "01 234 | 02 134", false},
		{"4;01.23", "001 23 | 002 13", false},
		{"4;01.23", "01 23 | 02 123", false},
		// sets that lose or win where they should not
		{"4;01.23", "02 13 | 01 23", false},
		{"4;01.23", "01 02 | 01 02", false},
		{"4;01.23", "01 23 | 01 23", false},
		{"4;01.23", "01 02 | 0 012", false},
		{"4;01.23", "01 23 | 0 123", false},
		{"4;01.23", "012 3 | 02 13", false},
		{"4;01.23", "- 0123 | 02 13", false},
		{"4;01.02.123", "02 123 | 12 023", false},
		{"5;01.234", "012 34 | 02 134", false},
		// members who are not in as many of these as of those
		{"4;01.23", "01 23 | 02 12", false},
		{"4;01.23", "01 23 | 02 1", false},
		{"4;01.23", "01 23 | 02 02", false},
		{"4;01.23", "01 01 | 02 13", false},
		{"4;01.23", "01 123 | 02 13", false},
		{"4;01.23", "01 23 | 02 3", false},
		{"4;01.23", "01 23 | - -", false},
		{"5;012.34", "012 012 34 | 01 023 123", false},
		{"5;012.34", "012 34 34 | 01 023 124", false},
		// one, none and four sets
		{"4;01.23", "01 | 02", false},
		{"4;01.23", "01 | 01", false},
		{"4;01.23", "01 | 13", false},
		{"4;01.23", " | ", false},
		{"4;01.23", "01 01 23 23 | 02 02 13 13", false},
		{"4;01.23", "01 01 23 23 | 02 03 12 13", false},
		// fewer losing sets, and more
		{"4;01.23", "01 23 | 0123", false},
		{"4;01.23", "01 23 | 02", false},
		{"4;01.23", "01 23 | ", false},
		{"4;01.23", " | 02 13", false},
		{"4;01.23", "01 23 | 02 1 3", false},
		{"4;01.23", "01 23 | - 02 13", false},
		{"5;012.34", "012 012 34 | 0123 0124", false},
		{"6;05.14.23", "05 14 23 | 012 345", false},
		{"6;05.14.23", "014 23 | 01 2 34", false},
	} {
		want, _ := sidesOf(x.trade)
		if strings.HasPrefix(x.trade, "-") {
			want.Wins = slices.Insert(want.Wins, 0, []int{})
		}
		checkAnswer(t, callOf("IsTrade", impl.IsTrade, gameOfWord(x.game), want), x.is)
	}
}

// TestTradeOfThreeAlone has a trade of three winning sets where there is none of two: such a game has at least nine members.
func TestTradeOfThreeAlone(t *testing.T) {
	g := squareGame()
	if votesOfGame(g).hasTrade() {
		t.Fatal("there is a trade of two winning sets")
	}
	three := trade(sets("012", "345", "678"), sets("036", "147", "258"))
	checkAnswer(t, callOf("IsTrade", impl.IsTrade, g, three), true)
	checkAnswer(t, callOf("IsTrade", impl.IsTrade, g, trade(three.Wins[:2], three.Loses[:2])), false)
	checkFails(t, callOf("FirstTradeOfThree", impl.FirstTradeOfThree, g), callOf("FirstTrade", impl.FirstTrade, g))
}

// TestTradesLeaveNothingBehind checks that what looks for trades has ended when the first one is found, and when there is none.
func TestTradesLeaveNothingBehind(t *testing.T) {
	before := runtime.NumGoroutine()
	for range 20 {
		for _, g := range []impl.Game{game(4, "01", "23"), game(5, "012", "34"), game(6, "012", "345"), game(6, "012345")} {
			impl.FirstSwap(g)
			impl.FirstTrade(g)
			impl.StandsSwaps(g)
			impl.StandsTrades(g)
			impl.FirstTradeOfThree(g)
		}
	}
	// One that has just ended may be counted still.
	for wait := 0; runtime.NumGoroutine() > before; wait++ {
		if wait == 500 {
			t.Fatalf("there are %d goroutines, before there were %d", runtime.NumGoroutine(), before)
		}
		time.Sleep(10 * time.Millisecond)
	}
}
