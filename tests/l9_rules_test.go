package tests

import (
	"slices"
	"testing"

	"loop.example/g01275/impl"
)

// TestFitsByTheirWords asks for all games of at most four members whether they fit each clue of some number of members.
func TestFitsByTheirWords(t *testing.T) {
	games := slices.Concat(hiddenGames()...)
	inParts(t, games, func(t *testing.T, _ int, h *hidden) {
		own := allClues(h.game.Members)
		for members := 1; members <= 4; members++ {
			for _, c := range allClues(members) {
				fit := callOf("DoesFit", impl.DoesFit, c, h.game)
				if slices.Contains(own, c) {
					checkAnswer(t, fit, h.fits(c))
				} else {
					checkFails(t, fit)
				}
			}
		}
	})
}

func gamesOfHidden(list []*hidden) []impl.Game {
	var games []impl.Game
	for _, h := range list {
		games = append(games, h.game)
	}
	return games
}

// checkClueCounts checks all that is counted of the clues of a puzzle.
func checkClueCounts(t *testing.T, p impl.Puzzle) {
	t.Helper()
	var left, alone []int
	for k := range len(p.Clues) + 1 {
		left = append(left, len(fitting(p.Members, p.Clues[:k]...)))
	}
	for _, c := range p.Clues {
		alone = append(alone, len(fitting(p.Members, c)))
	}
	checkMembersOf(t, callOf("LeftByClues", impl.LeftByClues, p), left)
	checkMembersOf(t, callOf("NeedlessClues", impl.NeedlessClues, p), needlessCluesByWords(p))
	best := callOf("BestClue", impl.BestClue, p)
	if len(alone) == 0 {
		checkFails(t, best)
	} else {
		checkAnswer(t, best, slices.Index(alone, slices.Min(alone)))
	}
}

// checkClueChanges checks each puzzle with a clue less, and some with one more.
func checkClueChanges(t *testing.T, p impl.Puzzle) {
	t.Helper()
	for k := range p.Clues {
		checkPuzzle(t, callOf("DropClue", impl.DropClue, p, k), withoutClue(p, k))
	}
	for i, c := range allClues(p.Members) {
		if (i+len(p.Clues))%11 > 0 {
			continue
		}
		add := callOf("AddClue", impl.AddClue, p, c)
		if len(p.Clues) == 8 {
			checkFails(t, add)
		} else {
			checkPuzzle(t, add, puzzle(p.Members, slices.Concat(p.Clues, []impl.Clue{c})...))
		}
	}
}

// TestPuzzlesByTheirWords compares all that is told of many puzzles with what the document's words give.
func TestPuzzlesByTheirWords(t *testing.T) {
	inParts(t, manyPuzzles(), func(t *testing.T, _ int, p impl.Puzzle) {
		if !impl.IsPuzzle(p) {
			t.Fatal(p, "is no puzzle")
		}
		solutions := solve(p)
		checkSolutions(t, p, gamesOfHidden(solutions))
		if len(solutions) > 0 {
			checkSetsOf(t, callOf("SureWins", impl.SureWins, p), sureByWords(solutions, true))
			checkSetsOf(t, callOf("SureLosses", impl.SureLosses, p), sureByWords(solutions, false))
		}
		if len(solutions) == 1 {
			checkPuzzle(t, callOf("HarderPuzzle", impl.HarderPuzzle, p), harderByWords(p))
		}
		checkClueCounts(t, p)
		checkClueChanges(t, p)
	})
}

// TestSolutionsFitAllClues checks that the solutions of puzzles are, of all games of so many members, just those that fit all clues, in the order of sets: promise 9.
func TestSolutionsFitAllClues(t *testing.T) {
	inParts(t, manyPuzzles(), func(t *testing.T, _ int, p impl.Puzzle) {
		solutions, ok := impl.Solutions(p)
		if !ok || !slices.IsSortedFunc(solutions, func(a, b impl.Game) int { return compareLists(a.Wins, b.Wins) }) {
			t.Fatalf("Solutions(%v) = %v, %v", p, solutions, ok)
		}
		for _, h := range hiddenGames()[p.Members] {
			isAgainst := func(c impl.Clue) bool {
				fits, ok := impl.DoesFit(c, h.game)
				return !fits || !ok
			}
			isOne := slices.ContainsFunc(solutions, func(g impl.Game) bool { return sameGame(g, h.game) })
			if isOne == slices.ContainsFunc(p.Clues, isAgainst) {
				t.Fatalf("%v is a solution of %v: %v", h.game, p, isOne)
			}
		}
	})
}

// isPartInOrder reports whether clues are left of others, in their order.
func isPartInOrder(part, of []impl.Clue) bool {
	for _, c := range of {
		if len(part) > 0 && part[0] == c {
			part = part[1:]
		}
	}
	return len(part) == 0
}

// TestHarderPuzzlesHaveTheSameGame checks that harder puzzles are solved by the same game, and that nothing more can be taken out: promise 9.
func TestHarderPuzzlesHaveTheSameGame(t *testing.T) {
	var solved []impl.Puzzle
	for _, p := range append(shortPuzzles(), mixedPuzzles(12000)...) {
		if countByWords(p) == 1 {
			solved = append(solved, p)
		}
	}
	if len(solved) < 2000 {
		t.Fatalf("only %d puzzles are solved", len(solved))
	}
	inParts(t, solved, func(t *testing.T, _ int, p impl.Puzzle) {
		harder, ok := impl.HarderPuzzle(p)
		if !ok || harder.Members != p.Members || !isPartInOrder(harder.Clues, p.Clues) {
			t.Fatalf("HarderPuzzle(%v) = %v, %v", p, harder, ok)
		}
		first, _ := impl.FirstSolution(p)
		checkSolutions(t, harder, []impl.Game{first})
		checkMembersOf(t, callOf("NeedlessClues", impl.NeedlessClues, harder), nil)
		checkPuzzle(t, callOf("HarderPuzzle", impl.HarderPuzzle, harder), harder)
	})
}

// TestMadePuzzlesByTheirWords makes puzzles of one game with all seeds, and of all games with some.
func TestMadePuzzlesByTheirWords(t *testing.T) {
	checkMade := func(t *testing.T, h *hidden, clues, seed int) {
		t.Helper()
		p := madeByWords(h, clues, seed)
		checkPuzzle(t, callOf("MakePuzzle", impl.MakePuzzle, h.game, clues, seed), p)
		if !slices.ContainsFunc(solve(p), func(other *hidden) bool { return other == h }) {
			t.Fatalf("%v is no solution of %v", h.game, p)
		}
	}
	weighted := hide(gameOfWord("4;01.02.123"))
	inParts(t, upTo(10000), func(t *testing.T, _ int, seed int) {
		checkPuzzle(t, callOf("MakePuzzle", impl.MakePuzzle, weighted.game, 8, seed), madeByWords(weighted, 8, seed))
	})
	inParts(t, slices.Concat(hiddenGames()...), func(t *testing.T, i int, h *hidden) {
		for clues := range 9 {
			for _, seed := range []int{0, 1, 9999, (i*919 + 31*clues) % 10000} {
				checkMade(t, h, clues, seed)
			}
		}
	})
}

// TestMadePuzzlesAreSolvedByTheirGame makes puzzles of all games: if one is solved, then by its game, also when it is harder.
func TestMadePuzzlesAreSolvedByTheirGame(t *testing.T) {
	inParts(t, slices.Concat(hiddenGames()...), func(t *testing.T, i int, h *hidden) {
		for round := range 40 {
			p, ok := impl.MakePuzzle(h.game, 8, (i*131+round*251)%10000)
			if isSolved, _ := impl.IsSolved(p); !ok || !isSolved {
				continue
			}
			checkSolutions(t, p, []impl.Game{h.game})
			harder, _ := impl.HarderPuzzle(p)
			checkSolutions(t, harder, []impl.Game{h.game})
		}
	})
}
