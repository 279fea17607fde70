package tests

import (
	"slices"
	"strings"
	"testing"

	"loop.example/g01275/impl"
)

func TestPuzzleExample(t *testing.T) {
	p := puzzleOfWord("3:1.4.0,4.1.0,5.1.0")
	checkPuzzle(t, callOf("ParsePuzzle", impl.ParsePuzzle, "3:1.4.0,4.1.0,5.1.0"), p)
	checkSolutions(t, p, gamesOfWords("3;0 3;01.02.12 3;1 3;2"))
	longer := puzzleOfWord("3:1.4.0,4.1.0,5.1.0,0.1.0")
	checkPuzzle(t, callOf("AddClue", impl.AddClue, p, clue(0, 1, 0)), longer)
	checkSolutions(t, longer, gamesOfWords("3;01.02.12 3;1 3;2"))
	checkSetsOf(t, callOf("SureWins", impl.SureWins, p), sets("012"))
	checkMembersOf(t, callOf("LeftByClues", impl.LeftByClues, p), []int{18, 4, 4, 4})
	checkAnswer(t, callOf("NumberOfSet", impl.NumberOfSet, []int{0, 2}), 5)
	checkMembersOf(t, callOf("SetOfNumber", impl.SetOfNumber, 5), []int{0, 2})
}

// TestNumbersOfSets has all sets of at most nine members.
func TestNumbersOfAllSets(t *testing.T) {
	seen := map[int]bool{}
	for _, set := range newVotes(9, func([]int) bool { return false }).sets {
		number := numberByWords(set)
		seen[number] = true
		checkAnswer(t, callOf("NumberOfSet", impl.NumberOfSet, set), number)
		checkMembersOf(t, callOf("SetOfNumber", impl.SetOfNumber, number), set)
	}
	if len(seen) != 512 || !seen[0] || !seen[511] {
		t.Error("there are other numbers of sets:", len(seen))
	}
	for number, set := range map[int][]int{0: nil, 1: {0}, 2: {1}, 3: {0, 1}, 256: {8}, 257: {0, 8}, 510: fromTo(1, 8), 511: upTo(9)} {
		checkAnswer(t, callOf("NumberOfSet", impl.NumberOfSet, set), number)
		checkMembersOf(t, callOf("SetOfNumber", impl.SetOfNumber, number), set)
	}
}

// TestKnownClues has the ends of each number in a clue of each kind, and what is just beyond them.
func TestKnownClues(t *testing.T) {
	for _, x := range []struct {
		members int
		are     string
		none    string
	}{
		{1, "0.0.0 0.0.1 0.1.0 0.1.1", "0.2.0 0.2.1 0.0.2 0.1.2 0.-1.0 0.0.-1 0.3.1 0.15.0"},
		{2, "0.3.0 0.3.1", "0.4.0 0.4.1"},
		{3, "0.7.0 0.7.1", "0.8.0 0.8.1"},
		{4, "0.0.0 0.0.1 0.15.0 0.15.1 0.8.1", "0.16.0 0.16.1 0.15.2 0.15.-1 0.-1.1"},
		// as many winning sets also of few members
		{1, "1.1.0 1.2.0 1.8.0 1.15.0", "1.0.0 1.16.0 1.-1.0 1.1.1 1.1.-1 1.15.1"},
		{4, "1.1.0 1.2.0 1.14.0 1.15.0", "1.0.0 1.16.0 1.-1.0 1.1.1 1.15.-1 1.15.15 1.0.1"},
		{1, "2.0.0 2.0.1", "2.1.0 2.1.1 2.-1.0 2.0.2 2.0.-1"},
		{2, "2.0.0 2.1.0 2.1.1", "2.2.0 2.2.1"},
		{4, "2.0.1 2.3.0 2.3.1", "2.4.0 2.4.1 2.3.2 2.-1.1 2.15.1"},
		// as many swings also of few members
		{1, "3.0.0 3.0.1 3.0.2 3.0.8", "3.1.0 3.1.8 3.0.9 3.0.-1 3.-1.1"},
		{3, "3.0.0 3.2.0 3.2.8", "3.3.0 3.3.8 3.2.9"},
		{4, "3.0.0 3.0.8 3.3.0 3.3.8", "3.4.0 3.4.8 3.3.9 3.3.-1 3.-1.8 3.0.15"},
		{1, "4.0.0 4.1.0 5.0.0 5.1.0", "4.2.0 4.-1.0 4.0.1 4.1.1 4.1.-1 5.2.0 5.-1.0 5.0.1 5.1.1 5.0.-1"},
		{4, "4.0.0 4.1.0 5.0.0 5.1.0", "4.2.0 4.-1.0 4.0.1 4.1.1 4.1.-1 5.2.0 5.-1.0 5.0.1 5.1.1 5.0.-1"},
		// other kinds
		{4, "0.1.0", "6.0.0 6.1.0 6.1.1 7.0.0 -1.0.0 -1.1.1 -6.1.0 10.1.0"},
		// no number of members
		{0, "", "0.0.0 0.0.1 1.1.0 2.0.0 3.0.0 4.0.0 4.1.0 5.1.0"},
		{-1, "", "0.0.0 0.0.1 1.1.0 2.0.0 3.0.0 4.0.0 4.1.0 5.1.0"},
		{5, "", "0.0.0 0.0.1 0.31.1 1.1.0 2.0.0 2.4.0 3.0.0 4.0.0 4.1.0 5.1.0"},
	} {
		for _, word := range strings.Fields(x.are) {
			if !impl.IsClue(x.members, clueOfWord(word)) {
				t.Errorf("%s is no clue of %d members", word, x.members)
			}
		}
		for _, word := range strings.Fields(x.none) {
			if impl.IsClue(x.members, clueOfWord(word)) {
				t.Errorf("%s is a clue of %d members", word, x.members)
			}
		}
	}
}

// TestKnownFits has for each game clues that it fits, and clues that it does not.
func TestKnownFits(t *testing.T) {
	for _, x := range []struct{ game, fit, none string }{
		{"1;0", "0.0.0 0.1.1 1.1.0 2.0.1 3.0.1 4.1.0 5.1.0", "0.0.1 0.1.0 1.2.0 1.15.0 2.0.0 3.0.0 3.0.2 3.0.8 4.0.0 5.0.0"},
		{"2;0", "0.1.1 0.2.0 0.3.1 1.2.0 2.0.1 2.1.0 3.0.2 3.1.0 4.1.0 5.1.0", "0.1.0 0.2.1 0.3.0 1.1.0 1.3.0 2.0.0 2.1.1 3.0.1 3.1.1 4.0.0 5.0.0"},
		{"2;01", "0.1.0 0.2.0 0.3.1 1.1.0 2.0.1 2.1.1 3.0.1 3.1.1 4.1.0 5.0.0", "0.1.1 0.2.1 1.2.0 2.0.0 2.1.0 3.0.0 3.1.2 4.0.0 5.1.0"},
		{"2;0.1", "0.0.0 0.1.1 0.2.1 0.3.1 1.3.0 2.0.0 2.1.0 3.0.1 3.1.1 4.0.0 5.1.0", "0.0.1 0.2.0 1.2.0 2.0.1 2.1.1 3.0.0 4.1.0 5.0.0"},
		// 5:3,2,2,1 is neither such that of each two groups one wins, nor that both can win
		{"4;01.02.123", "0.3.1 0.5.1 0.14.1 0.15.1 0.0.0 0.1.0 0.6.0 0.9.0 1.7.0 2.0.0 2.3.0 3.0.5 3.1.3 3.2.3 3.3.1 4.1.0 5.0.0", "0.3.0 0.9.1 1.8.0 2.0.1 3.0.4 3.0.6 3.3.0 4.0.0 5.1.0"},
		{"4;01.23", "0.3.1 0.12.1 0.5.0 1.7.0 2.0.0 3.0.3 3.3.3 4.0.0 5.0.0", "0.12.0 0.10.1 1.6.0 2.3.1 3.1.2 4.1.0 5.1.0"},
		{"4;0", "0.1.1 0.14.0 1.8.0 2.0.1 2.1.0 2.3.0 3.0.8 3.1.0 3.3.0 4.1.0 5.1.0", "0.1.0 0.14.1 1.7.0 2.0.0 3.0.7 3.3.8 4.0.0 5.0.0"},
		{"4;3", "0.8.1 0.7.0 2.3.1 2.0.0 3.3.8 3.0.0", "0.8.0 0.7.1 2.3.0 2.0.1 3.3.0 3.0.8"},
		{"4;0123", "0.15.1 0.7.0 0.14.0 1.1.0 2.0.1 2.3.1 3.0.1 3.3.1 4.1.0 5.0.0", "0.15.0 0.7.1 1.15.0 2.3.0 3.0.0 4.0.0 5.1.0"},
		{"4;0.1.2.3", "0.0.0 0.1.1 0.8.1 0.15.1 1.15.0 2.0.0 2.3.0 3.0.1 3.3.1 4.0.0 5.1.0", "0.0.1 0.8.0 1.1.0 1.14.0 2.0.1 3.0.8 4.1.0 5.0.0"},
		// a member with a veto that is in all least winning sets, but rules not alone
		{"4;01.02.03", "2.0.1 2.1.0 3.0.7 3.1.1 1.7.0 4.1.0 5.0.0", "2.0.0 2.1.1 3.0.8"},
	} {
		g := gameOfWord(x.game)
		for _, word := range strings.Fields(x.fit) {
			checkAnswer(t, callOf("DoesFit", impl.DoesFit, clueOfWord(word), g), true)
		}
		for _, word := range strings.Fields(x.none) {
			checkAnswer(t, callOf("DoesFit", impl.DoesFit, clueOfWord(word), g), false)
		}
	}
}

// TestKnownSolutions has puzzles without a solution, with one and with several, without a clue and with MaxClues.
func TestKnownSolutions(t *testing.T) {
	for _, x := range []struct{ puzzle, games string }{
		{"1:", "1;0"},
		{"2:", "2;0 2;0.1 2;01 2;1"},
		{"3:", "3;0 3;0.1 3;0.1.2 3;0.12 3;0.2 3;01 3;01.02 3;01.02.12 3;01.12 3;01.2 3;012 3;02 3;02.1 3;02.12 3;1 3;1.2 3;12 3;2"},
		// the set of number 0, and that of everybody
		{"1:0.0.0", "1;0"},
		{"1:0.0.1", ""},
		{"1:0.1.0", ""},
		{"1:0.1.1", "1;0"},
		{"2:0.0.0", "2;0 2;0.1 2;01 2;1"},
		{"2:0.0.1", ""},
		{"2:0.3.0", ""},
		{"4:0.15.0", ""},
		{"4:0.0.1", ""},
		{"2:0.2.1", "2;0.1 2;1"},
		{"2:0.2.0", "2;0 2;01"},
		{"3:0.5.1,0.1.0,0.4.0", "3;01.02 3;01.02.12 3;02 3;02.1 3;02.12"},
		// 1 and 15 winning sets
		{"1:1.1.0", "1;0"},
		{"1:1.15.0", ""},
		{"2:1.2.0", "2;0 2;1"},
		{"3:1.7.0", "3;0.1.2"},
		{"3:1.15.0", ""},
		{"4:1.1.0", "4;0123"},
		{"4:1.2.0", "4;012 4;013 4;023 4;123"},
		{"4:1.14.0", "4;0.1.2 4;0.1.3 4;0.2.3 4;1.2.3"},
		{"4:1.15.0", "4;0.1.2.3"},
		// the first and the last member
		{"1:2.0.0", ""},
		{"2:2.0.1", "2;0 2;01"},
		{"2:2.0.0", "2;0.1 2;1"},
		{"2:2.1.1", "2;01 2;1"},
		{"4:2.0.1,2.1.1,2.2.1,2.3.1", "4;0123"},
		{"4:2.3.1,0.8.1", "4;3"},
		{"4:2.0.1,2.3.1", "4;0123 4;013 4;013.023 4;023 4;03"},
		// 0 and 8 swings
		{"1:3.0.0", ""},
		{"1:3.0.1", "1;0"},
		{"1:3.0.8", ""},
		{"3:3.0.8", ""},
		{"3:3.2.4", "3;2"},
		{"4:3.0.8", "4;0"},
		{"4:3.3.8", "4;3"},
		{"4:3.0.0,3.1.0,3.2.0", "4;3"},
		{"4:3.0.0,3.1.0,3.2.0,3.3.0", ""},
		{"4:3.1.7", "4;01.12.13 4;023.1"},
		{"2:3.0.1", "2;0.1 2;01"},
		// kinds of games
		{"1:4.0.0", ""},
		{"1:5.0.0", ""},
		{"2:4.1.0", "2;0 2;01 2;1"},
		{"2:4.0.0", "2;0.1"},
		{"2:5.1.0", "2;0 2;0.1 2;1"},
		{"2:5.0.0", "2;01"},
		{"3:4.0.0,5.0.0", ""},
		{"4:4.1.0,5.1.0", "4;0 4;01.02.03.123 4;01.02.12 4;01.023.12.13 4;01.03.13 4;012.03.13.23 4;013.02.12.23 4;02.03.23 4;1 4;12.13.23 4;2 4;3"},
		{"4:4.0.0,5.0.0,1.7.0", "4;01.23 4;02.13 4;03.12"},
		// MaxClues
		{"4:0.3.1,0.5.1,0.14.1,0.9.0,1.7.0,3.3.1,4.1.0,5.0.0", "4;01.02.123"},
		{"4:0.3.1,0.3.1,0.3.1,0.3.1,0.3.1,0.3.1,0.3.1,0.3.0", ""},
		{"1:0.0.0,0.1.1,1.1.0,2.0.1,3.0.1,4.1.0,5.1.0,5.1.0", "1;0"},
		{"2:4.1.0,4.1.0,4.1.0,4.1.0,4.1.0,4.1.0,4.1.0,4.1.0", "2;0 2;01 2;1"},
	} {
		checkSolutions(t, puzzleOfWord(x.puzzle), gamesOfWords(x.games))
	}
}

// TestKnownSureSets has puzzles of which the empty set and that of everybody alone are sure, of which others are, and of which all are.
func TestKnownSureSets(t *testing.T) {
	for _, x := range []struct{ puzzle, wins, losses string }{
		{"1:", "0", "-"},
		{"2:", "01", "-"},
		{"3:", "012", "-"},
		{"4:", "0123", "-"},
		{"3:1.4.0,4.1.0,5.1.0", "012", "-"},
		{"4:0.1.1", "0 01 012 0123 013 02 023 03", "-"},
		{"4:0.14.0", "0123", "- 1 12 123 13 2 23 3"},
		{"4:2.0.1", "0123", "- 1 12 123 13 2 23 3"},
		{"4:4.1.0,0.12.1", "0123 023 123 23", "- 0 01 1"},
		{"4:5.1.0,0.12.0", "01 012 0123 013", "- 2 23 3"},
		{"3:1.4.0,4.1.0,5.1.0,0.1.0,0.2.0", "012 02 12", "- 0 1"},
		{"3:1.4.0,4.1.0,5.1.0,0.1.0,0.2.0,0.4.0", "01 012 02 12", "- 0 1 2"},
		// the sets of one game
		{"2:5.0.0", "01", "- 0 1"},
		{"2:4.0.0", "0 01 1", "-"},
		{"4:1.15.0", "0 01 012 0123 013 02 023 03 1 12 123 13 2 23 3", "-"},
		{"4:1.1.0", "0123", "- 0 01 012 013 02 023 03 1 12 123 13 2 23 3"},
		// a set that wins in each of several solutions, though no clue names it
		{"4:1.14.0", "01 012 0123 013 02 023 03 12 123 13 23", "-"},
		{"4:1.2.0", "0123", "- 0 01 02 03 1 12 13 2 23 3"},
	} {
		p := puzzleOfWord(x.puzzle)
		losses := strings.Fields(strings.TrimPrefix(x.losses, "- "))
		if x.losses == "-" {
			losses = nil
		}
		checkSetsOf(t, callOf("SureWins", impl.SureWins, p), sets(strings.Fields(x.wins)...))
		checkSetsOf(t, callOf("SureLosses", impl.SureLosses, p), slices.Concat([][]int{{}}, sets(losses...)))
	}
}

// TestKnownCounts has the clues that are needless, how many games are left, and the best clue, counted from 0.
func TestKnownCounts(t *testing.T) {
	for _, x := range []struct {
		puzzle   string
		needless []int
		left     []int
		best     int
	}{
		// no clue
		{"1:", nil, []int{1}, -1},
		{"2:", nil, []int{4}, -1},
		{"3:", nil, []int{18}, -1},
		{"4:", nil, []int{166}, -1},
		// each of three alone, but not all
		{"3:1.4.0,4.1.0,5.1.0", []int{0, 1, 2}, []int{18, 4, 4, 4}, 0},
		{"3:5.1.0,4.1.0,1.4.0", []int{0, 1, 2}, []int{18, 11, 4, 4}, 2},
		// the same clue twice
		{"2:0.1.1,0.1.1", []int{0, 1}, []int{4, 2, 2}, 0},
		{"2:4.1.0,0.1.1,4.1.0", []int{0, 2}, []int{4, 3, 1, 1}, 1},
		// none is needless
		{"2:0.1.1,0.2.0", nil, []int{4, 2, 1}, 0},
		{"4:4.0.0,5.0.0", nil, []int{166, 86, 18}, 0},
		// clues that all games fit
		{"4:0.0.0,0.15.1,0.0.0", []int{0, 1, 2}, []int{166, 166, 166, 166}, 0},
		{"1:4.1.0,5.1.0", []int{0, 1}, []int{1, 1, 1}, 0},
		// no solution: each clue alone is needless only if the others have none, too
		{"2:0.3.0", nil, []int{4, 0}, 0},
		{"2:0.3.0,0.0.1", []int{0, 1}, []int{4, 0, 0}, 0},
		{"2:0.1.1,0.0.1", []int{0}, []int{4, 2, 0}, 1},
		{"2:0.1.1,0.1.0", nil, []int{4, 2, 0}, 0},
		{"2:0.1.1,0.1.0,0.2.1", []int{2}, []int{4, 2, 0, 0}, 0},
		// the first one of several best clues
		{"2:4.1.0,0.1.1,2.0.1,0.2.0", []int{0, 2, 3}, []int{4, 3, 1, 1, 1}, 1},
		{"4:3.0.8,3.3.8,3.1.8", []int{0, 1, 2}, []int{166, 1, 0, 0}, 0},
		{"4:4.1.0,3.3.8,1.1.0,5.1.0,3.0.8", []int{0, 1, 2, 3, 4}, []int{166, 80, 1, 0, 0, 0}, 1},
		// the best one is the last one
		{"4:4.1.0,5.1.0,1.7.0,3.0.8", []int{0, 1, 3}, []int{166, 80, 12, 0, 0}, 3},
		// MaxClues
		{"2:4.1.0,4.1.0,4.1.0,4.1.0,4.1.0,4.1.0,4.1.0,5.0.0", []int{0, 1, 2, 3, 4, 5, 6}, []int{4, 3, 3, 3, 3, 3, 3, 3, 1}, 7},
	} {
		p := puzzleOfWord(x.puzzle)
		checkMembersOf(t, callOf("NeedlessClues", impl.NeedlessClues, p), x.needless)
		checkMembersOf(t, callOf("LeftByClues", impl.LeftByClues, p), x.left)
		best := callOf("BestClue", impl.BestClue, p)
		if x.best < 0 {
			checkFails(t, best)
		} else {
			checkAnswer(t, best, x.best)
		}
	}
}
