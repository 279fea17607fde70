package tests

import (
	"math"
	"slices"
	"strings"
	"testing"

	"loop.example/g01275/impl"
)

// anyNumbers are of any size, and all near those that clues have.
func anyNumbers() []int {
	return slices.Concat(someInts, fromTo(-3, 20), []int{31, 32, 33, 255, 256, 257, 511, 512, 1<<32 + 1, 1<<32 + 3, 1 << 62, -1 << 62})
}

// TestAnyNumbersOfClues has each number in each place of a clue of each kind, for each number of members.
func TestAnyNumbersOfClues(t *testing.T) {
	numbers := anyNumbers()
	inParts(t, append(numbers, 5, 6, 7), func(t *testing.T, _ int, members int) {
		are := map[impl.Clue]bool{}
		if members >= 1 && members <= 4 {
			for _, c := range allClues(members) {
				are[c] = true
			}
		}
		for _, kind := range numbers {
			for _, a := range numbers {
				for _, b := range numbers {
					if c := clue(kind, a, b); impl.IsClue(members, c) != are[c] {
						t.Fatalf("IsClue(%d, %v) is %v", members, c, !are[c])
					}
				}
			}
		}
	})
}

// noClues are none of a game of four members, each for one reason.
func noClues() []impl.Clue {
	var list []impl.Clue
	for _, word := range strings.Fields("0.16.0 0.16.1 0.-1.0 0.1.2 0.1.-1 1.0.0 1.16.0 1.-1.0 1.1.1 1.1.-1 2.4.0 2.4.1 2.-1.0 2.0.2 2.0.-1 3.4.0 3.-1.0 3.0.9 3.0.-1 4.2.0 4.-1.0 4.1.1 4.0.-1 5.2.0 5.-1.0 5.1.1 5.0.1 6.0.0 6.1.0 -1.0.0 -1.1.1") {
		list = append(list, clueOfWord(word))
	}
	for _, n := range []int{math.MinInt, math.MinInt + 1, -1 << 32, 64, 1 << 32, 1<<32 + 1, 1 << 62, math.MaxInt} {
		list = append(list, clue(n, 0, 0), clue(n, 1, 0), clue(0, n, 0), clue(0, 1, n), clue(1, n, 0), clue(1, 1, n), clue(2, n, 1), clue(2, 0, n), clue(3, n, 0), clue(3, 0, n), clue(4, n, 0), clue(4, 1, n), clue(5, n, 0), clue(5, 1, n), clue(n, n, n))
	}
	return list
}

// invalidPuzzles are none, each for one reason.
func invalidPuzzles() []impl.Puzzle {
	fine := clue(0, 1, 1)
	list := []impl.Puzzle{
		{}, puzzle(0, fine), puzzle(-1), puzzle(-1, fine), puzzle(5), puzzle(5, fine), puzzle(9), puzzle(64), puzzle(64, fine),
		puzzle(math.MinInt), puzzle(math.MaxInt), puzzle(math.MaxInt, fine), puzzle(1<<32 + 4), puzzle(1<<32+4, fine),
		puzzle(4, slices.Repeat([]impl.Clue{fine}, 9)...), puzzle(1, slices.Repeat([]impl.Clue{fine}, 9)...), puzzle(4, make([]impl.Clue, 9)...), puzzle(4, make([]impl.Clue, 5000)...),
		// clues of games of more members
		puzzle(1, clue(0, 2, 0)), puzzle(1, clue(2, 1, 0)), puzzle(1, clue(3, 1, 0)), puzzle(2, clue(0, 4, 1)), puzzle(2, clue(2, 2, 0)), puzzle(3, clue(0, 8, 0)), puzzle(3, clue(0, 15, 1)), puzzle(3, clue(2, 3, 0)), puzzle(3, fine, clue(3, 3, 1), fine),
	}
	for _, c := range noClues() {
		list = append(list, puzzle(4, c), puzzle(4, fine, c), puzzle(4, c, fine), puzzle(4, slices.Concat(slices.Repeat([]impl.Clue{fine}, 7), []impl.Clue{c})...))
	}
	return list
}

func TestInvalidPuzzles(t *testing.T) {
	for _, p := range invalidPuzzles() {
		if impl.IsPuzzle(p) {
			t.Errorf("%v is a puzzle", p)
		}
		checkFails(t, puzzleCalls(p)...)
		// Indices and clues that even a puzzle does not have.
		for _, k := range someInts {
			checkFails(t, callOf("DropClue", impl.DropClue, p, k))
			checkFails(t, callOf("AddClue", impl.AddClue, p, clue(k, k, k)))
		}
	}
	// Without the clue that is none, or too many, they would be puzzles.
	for k := range 9 {
		checkFails(t, callOf("DropClue", impl.DropClue, puzzle(4, make([]impl.Clue, 9)...), k))
	}
	for _, c := range noClues() {
		checkFails(t, callOf("DropClue", impl.DropClue, puzzle(4, clue(0, 1, 1), c), 1))
	}
}

// TestPuzzlesWithoutResults checks which functions take puzzles of each number of members, clues and solutions.
func TestPuzzlesWithoutResults(t *testing.T) {
	inParts(t, shortPuzzles(), func(t *testing.T, _ int, p impl.Puzzle) {
		if !impl.IsPuzzle(p) {
			t.Fatalf("%v is no puzzle", p)
		}
		mustSucceedIf(t, true,
			callOf("Solutions", impl.Solutions, p),
			callOf("CountSolutions", impl.CountSolutions, p),
			callOf("IsSolved", impl.IsSolved, p),
			callOf("NeedlessClues", impl.NeedlessClues, p),
			callOf("AddClue", impl.AddClue, p, clue(0, 1, 1)),
			callOf("LeftByClues", impl.LeftByClues, p),
			callOf("PuzzleText", impl.PuzzleText, p),
		)
		mustSucceedIf(t, len(p.Clues) > 0, callOf("DropClue", impl.DropClue, p, 0), callOf("BestClue", impl.BestClue, p))
		count := countByWords(p)
		mustSucceedIf(t, count > 0, solutionCalls(p)[:3]...)
		mustSucceedIf(t, count == 1, solutionCalls(p)[3])
	})
}

// TestIndicesThatPuzzlesDoNotHave takes numbers of any size for the index of a clue.
func TestIndicesThatPuzzlesDoNotHave(t *testing.T) {
	for _, text := range []string{"1:", "4:", "2:0.1.1", "3:1.4.0,4.1.0,5.1.0", "4:0.0.0,0.1.0,0.2.0,0.3.0,0.4.0,0.5.0,0.6.0,0.7.0"} {
		p := puzzleOfWord(text)
		for _, k := range anyNumbers() {
			mustSucceedIf(t, k >= 0 && k < len(p.Clues), callOf("DropClue", impl.DropClue, p, k))
		}
	}
}

// TestCluesThatCannotBeAdded takes clues that are none of a game of so many members.
func TestCluesThatCannotBeAdded(t *testing.T) {
	for members := 1; members <= 4; members++ {
		own := allClues(members)
		for _, c := range slices.Concat(noClues(), allClues(1), allClues(2), allClues(3), allClues(4)) {
			mustSucceedIf(t, slices.Contains(own, c), callOf("AddClue", impl.AddClue, puzzle(members), c), callOf("AddClue", impl.AddClue, puzzle(members, clue(0, 1, 1)), c))
			checkFails(t, callOf("AddClue", impl.AddClue, puzzle(members, slices.Repeat(own[:1], 8)...), c))
		}
	}
}

// TestNumbersOfNoSets takes numbers of any size for those of sets.
func TestNumbersOfNoSets(t *testing.T) {
	for _, n := range slices.Concat(anyNumbers(), fromTo(-70, 600)) {
		mustSucceedIf(t, n >= 0 && n <= 511, callOf("SetOfNumber", impl.SetOfNumber, n))
		mustSucceedIf(t, n >= 0 && n <= 8, callOf("NumberOfSet", impl.NumberOfSet, []int{n}))
		mustSucceedIf(t, n >= 1 && n <= 8, callOf("NumberOfSet", impl.NumberOfSet, []int{0, n}))
		mustSucceedIf(t, n >= 0 && n <= 7, callOf("NumberOfSet", impl.NumberOfSet, []int{n, 8}))
	}
	for _, set := range [][]int{{0, 0}, {8, 8}, {1, 0}, {8, 0}, {0, 2, 1}, {0, 1, 1}, {0, 9}, {9}, upTo(10), {-1, 0}, {0, -1}, {64}, {0, 64}, {1 << 32}, {0, 1<<32 + 1}, {math.MinInt, 0}, {0, math.MaxInt}, {3, 2, 1, 0}, upTo(5000), ofWeight(0, 5000), ofWeight(8, 5000)} {
		checkFails(t, callOf("NumberOfSet", impl.NumberOfSet, set))
	}
}

// TestFitsOfInvalidArguments takes games that are none or of too many members, and clues that are none.
func TestFitsOfInvalidArguments(t *testing.T) {
	clues := []impl.Clue{{}, clue(0, 1, 1), clue(1, 1, 0), clue(2, 0, 1), clue(3, 0, 1), clue(4, 1, 0), clue(5, 1, 0)}
	for _, g := range invalidGames() {
		for _, c := range append(noClues(), clues...) {
			checkFails(t, callOf("DoesFit", impl.DoesFit, c, g))
		}
		checkFails(t, callOf("MakePuzzle", impl.MakePuzzle, g, 0, 0), callOf("MakePuzzle", impl.MakePuzzle, g, 3, 77), callOf("MakePuzzle", impl.MakePuzzle, g, 9, 10000))
	}
	for _, g := range knownGames() {
		for _, c := range clues {
			mustSucceedIf(t, g.Members <= 4, callOf("DoesFit", impl.DoesFit, c, g))
		}
		mustSucceedIf(t, g.Members <= 4, callOf("MakePuzzle", impl.MakePuzzle, g, 0, 0), callOf("MakePuzzle", impl.MakePuzzle, g, 8, 9999))
	}
	for _, g := range allSmallGames() {
		for _, c := range noClues() {
			checkFails(t, callOf("DoesFit", impl.DoesFit, c, g))
		}
	}
}

// TestNumbersForMadePuzzles takes numbers of any size for those of clues, and for seeds.
func TestNumbersForMadePuzzles(t *testing.T) {
	numbers := slices.Concat(anyNumbers(), []int{9998, 9999, 10000, 10001, 10008, 10009, 10010, -9999, 1<<32 + 9999})
	for _, g := range []impl.Game{game(1, "0"), game(2, "01"), game(3, "01", "02", "12"), game(4, "01", "02", "123"), game(5, "0")} {
		for _, clues := range numbers {
			for _, seed := range numbers {
				isFine := g.Members <= 4 && clues >= 0 && clues <= 8 && seed >= 0 && seed <= 9999
				mustSucceedIf(t, isFine, callOf("MakePuzzle", impl.MakePuzzle, g, clues, seed))
			}
		}
	}
}

// TestPuzzlesKeepArguments checks for calls that succeed and for calls that fail that they change, share and keep nothing.
func TestPuzzlesKeepArguments(t *testing.T) {
	puzzles := slices.Concat(invalidPuzzles(), mixedPuzzles(300))
	for i, p := range shortPuzzles() {
		if i%40 == 0 || len(p.Clues) < 2 {
			puzzles = append(puzzles, p)
		}
	}
	inParts(t, puzzles, func(t *testing.T, _ int, p impl.Puzzle) {
		callOf("IsPuzzle", impl.IsPuzzle, p).mustKeepArguments(t)
		for _, x := range puzzleCalls(p) {
			x.mustKeepArguments(t)
		}
		for k := range len(p.Clues) + 1 {
			if k < 12 {
				callOf("DropClue", impl.DropClue, p, k).mustKeepArguments(t)
			}
		}
	})
}

func TestFitsKeepArguments(t *testing.T) {
	games := slices.Concat(allSmallGames(), knownGames(), invalidGames())
	inParts(t, games, func(t *testing.T, i int, g impl.Game) {
		for _, c := range append(allClues(1+i%4), noClues()[i%40]) {
			callOf("DoesFit", impl.DoesFit, c, g).mustKeepArguments(t)
		}
		for _, n := range []int{0, 1, 8, 9} {
			callOf("MakePuzzle", impl.MakePuzzle, g, n, 1111*n).mustKeepArguments(t)
		}
	})
	for _, set := range slices.Concat(noSets(), newVotes(9, func([]int) bool { return false }).sets) {
		callOf("NumberOfSet", impl.NumberOfSet, set).mustKeepArguments(t)
	}
	for _, n := range slices.Concat(anyNumbers(), upTo(512)) {
		callOf("SetOfNumber", impl.SetOfNumber, n).mustKeepArguments(t)
		callOf("IsClue", impl.IsClue, 4, clue(n, n, n)).mustKeepArguments(t)
	}
	for _, s := range append(noPuzzleTexts(), "1:", "3:1.4.0,4.1.0,5.1.0", "4:0.0.0,0.1.0,0.2.0,0.3.0,0.4.0,0.5.0,0.6.0,0.7.0") {
		callOf("ParsePuzzle", impl.ParsePuzzle, s).mustKeepArguments(t)
	}
}

// TestPuzzlesDoNotReadSpareRoom gives lists behind whose ends there is more.
func TestPuzzlesDoNotReadSpareRoom(t *testing.T) {
	clues := []impl.Clue{clue(0, 1, 1), clue(0, 1, 1), clue(0, 2, 0), clue(6, 7, 8), clue(0, 3, 0)}
	before := slices.Clone(clues)
	p := impl.Puzzle{Members: 2, Clues: clues[:3]}
	checkSolutions(t, p, []impl.Game{game(2, "0")})
	checkPuzzle(t, callOf("DropClue", impl.DropClue, p, 2), puzzleOfWord("2:0.1.1,0.1.1"))
	checkPuzzle(t, callOf("DropClue", impl.DropClue, p, 0), puzzleOfWord("2:0.1.1,0.2.0"))
	checkPuzzle(t, callOf("AddClue", impl.AddClue, p, clue(4, 1, 0)), puzzleOfWord("2:0.1.1,0.1.1,0.2.0,4.1.0"))
	checkPuzzle(t, callOf("HarderPuzzle", impl.HarderPuzzle, p), puzzleOfWord("2:0.1.1,0.2.0"))
	checkMembersOf(t, callOf("NeedlessClues", impl.NeedlessClues, p), []int{0, 1})
	checkMembersOf(t, callOf("LeftByClues", impl.LeftByClues, p), []int{4, 2, 2, 1})
	checkAnswer(t, callOf("BestClue", impl.BestClue, p), 0)
	checkAnswer(t, callOf("PuzzleText", impl.PuzzleText, p), "2:0.1.1,0.1.1,0.2.0")
	checkAnswer(t, callOf("NumberOfSet", impl.NumberOfSet, []int{0, 1, 9, 9}[:2]), 3)
	if !slices.Equal(clues, before) {
		t.Error("the clues are changed:", clues)
	}
}

// TestLongPuzzles takes lists and games that are far too long, and stops in time.
func TestLongPuzzles(t *testing.T) {
	many := slices.Repeat(allClues(4), 20000)
	for _, p := range []impl.Puzzle{puzzle(4, many...), puzzle(math.MaxInt, many...), puzzle(1, make([]impl.Clue, 1000000)...)} {
		checkFails(t, puzzleCalls(p)...)
		checkFails(t, callOf("DropClue", impl.DropClue, p, 999999))
	}
	all := votesOf(committee(1, ofWeight(1, 9)...)).sets[1:]
	for _, g := range []impl.Game{{Members: 4, Wins: slices.Repeat(all, 200)}, {Members: 4, Wins: slices.Repeat(sets("0"), 100000)}, gameOfLists(4, ofWeight(0, 100000))} {
		checkFails(t, callOf("DoesFit", impl.DoesFit, clue(0, 1, 1), g), callOf("MakePuzzle", impl.MakePuzzle, g, 8, 77))
	}
	checkFails(t, callOf("NumberOfSet", impl.NumberOfSet, upTo(1000000)), callOf("ParsePuzzle", impl.ParsePuzzle, "4:"+strings.Repeat("0.1.1,", 500000)+"0.1.1"))
}
