package tests

import (
	"slices"
	"strconv"
	"strings"
	"sync"
	"testing"

	"loop.example/g01275/impl"
)

func clue(kind, a, b int) impl.Clue { return impl.Clue{Kind: kind, A: a, B: b} }

func puzzle(members int, clues ...impl.Clue) impl.Puzzle {
	return impl.Puzzle{Members: members, Clues: clues}
}

// clueOfWord takes a clue as it is told in a PuzzleText.
func clueOfWord(word string) impl.Clue {
	numbers := []int{}
	for _, part := range strings.Split(word, ".") {
		n, err := strconv.Atoi(part)
		if err != nil {
			panic(word)
		}
		numbers = append(numbers, n)
	}
	return clue(numbers[0], numbers[1], numbers[2])
}

// puzzleOfWord takes a PuzzleText.
func puzzleOfWord(word string) impl.Puzzle {
	p := puzzle(int(word[0] - '0'))
	if len(word) > 2 {
		for _, part := range strings.Split(word[2:], ",") {
			p.Clues = append(p.Clues, clueOfWord(part))
		}
	}
	return p
}

// clueWord tells a clue in the way of a PuzzleText.
func clueWord(c impl.Clue) string {
	return strconv.Itoa(c.Kind) + "." + strconv.Itoa(c.A) + "." + strconv.Itoa(c.B)
}

// puzzleWord tells a puzzle in the way of a PuzzleText.
func puzzleWord(p impl.Puzzle) string {
	var words []string
	for _, c := range p.Clues {
		words = append(words, clueWord(c))
	}
	return strconv.Itoa(p.Members) + ":" + strings.Join(words, ",")
}

func gamesOfWords(words string) []impl.Game {
	var games []impl.Game
	for _, word := range strings.Fields(words) {
		games = append(games, gameOfWord(word))
	}
	return games
}

// allClues are all of a game of so many members, by the limits of the document.
func allClues(members int) []impl.Clue {
	var clues []impl.Clue
	for number := range []int{2, 4, 8, 16}[members-1] {
		clues = append(clues, clue(0, number, 0), clue(0, number, 1))
	}
	for count := 1; count <= 15; count++ {
		clues = append(clues, clue(1, count, 0))
	}
	for k := range members {
		clues = append(clues, clue(2, k, 0), clue(2, k, 1))
		for swings := 0; swings <= 8; swings++ {
			clues = append(clues, clue(3, k, swings))
		}
	}
	return append(clues, clue(4, 0, 0), clue(4, 1, 0), clue(5, 0, 0), clue(5, 1, 0))
}

// A hidden game has what clues may tell of it, found from the document's words.
type hidden struct {
	game   impl.Game
	votes  *votes
	won    []int
	swings []int
	proper bool
	strong bool
}

func numberByWords(set []int) int {
	number := 0
	for _, k := range set {
		power := 1
		for range k {
			power *= 2
		}
		number += power
	}
	return number
}

func hide(g impl.Game) *hidden {
	v := votesOfGame(g)
	h := &hidden{game: g, votes: v, swings: v.countSwingsOf(), proper: v.isProper(), strong: v.isStrong()}
	for i, set := range v.sets {
		if v.wins[i] {
			h.won = append(h.won, numberByWords(set))
		}
	}
	return h
}

func (h *hidden) hasVeto(k int) bool {
	return !slices.ContainsFunc(h.game.Wins, func(set []int) bool { return !slices.Contains(set, k) })
}

func (h *hidden) fits(c impl.Clue) bool {
	switch c.Kind {
	case 0:
		return slices.Contains(h.won, c.A) == (c.B == 1)
	case 1:
		return len(h.won) == c.A
	case 2:
		return h.hasVeto(c.A) == (c.B == 1)
	case 3:
		return h.swings[c.A] == c.B
	case 4:
		return h.proper == (c.A == 1)
	case 5:
		return h.strong == (c.A == 1)
	}
	panic(c)
}

// clueLike is the clue that a hidden game fits, of the same kind, about the same set or member.
func (h *hidden) clueLike(c impl.Clue) impl.Clue {
	for _, other := range allClues(h.game.Members) {
		isAlike := other.Kind == c.Kind && (c.Kind == 1 || c.Kind > 3 || other.A == c.A)
		if isAlike && h.fits(other) {
			return other
		}
	}
	panic(c)
}

var hiddenGames = sync.OnceValue(func() [][]*hidden {
	all := [][]*hidden{nil}
	for members := 1; members <= 4; members++ {
		games := smallGames(members)
		slices.SortFunc(games, func(a, b impl.Game) int { return compareLists(a.Wins, b.Wins) })
		var list []*hidden
		for _, g := range games {
			list = append(list, hide(g))
		}
		all = append(all, list)
	}
	return all
})

// fitting are, in order, those games that fit all of some clues.
func fitting(members int, clues ...impl.Clue) []*hidden {
	var left []*hidden
	for _, h := range hiddenGames()[members] {
		if !slices.ContainsFunc(clues, func(c impl.Clue) bool { return !h.fits(c) }) {
			left = append(left, h)
		}
	}
	return left
}

func solve(p impl.Puzzle) []*hidden { return fitting(p.Members, p.Clues...) }

func countByWords(p impl.Puzzle) int { return len(solve(p)) }

// withoutClue leaves the clue k out.
func withoutClue(p impl.Puzzle, k int) impl.Puzzle {
	left := puzzle(p.Members)
	for i, c := range p.Clues {
		if i != k {
			left.Clues = append(left.Clues, c)
		}
	}
	return left
}

func needlessCluesByWords(p impl.Puzzle) []int {
	var needless []int
	for k := range p.Clues {
		if countByWords(withoutClue(p, k)) == countByWords(p) {
			needless = append(needless, k)
		}
	}
	return needless
}

// harderByWords goes through the clues, and tells for each one whether it is left.
func harderByWords(p impl.Puzzle) impl.Puzzle {
	isOut := make([]bool, len(p.Clues))
	left := func() impl.Puzzle {
		q := puzzle(p.Members)
		for i, c := range p.Clues {
			if !isOut[i] {
				q.Clues = append(q.Clues, c)
			}
		}
		return q
	}
	for i := range p.Clues {
		isOut[i] = true
		isOut[i] = countByWords(left()) == 1
	}
	return left()
}

// sureByWords are the sets that win (or lose) in all of these games.
func sureByWords(solutions []*hidden, wins bool) [][]int {
	var sure [][]int
	for i, set := range solutions[0].votes.sets {
		if !slices.ContainsFunc(solutions, func(h *hidden) bool { return h.votes.wins[i] != wins }) {
			sure = append(sure, set)
		}
	}
	return sure
}

// madeByWords follows the rule of MakePuzzle.
func madeByWords(h *hidden, clues, seed int) impl.Puzzle {
	z := int64(seed)
	nextModulo := func(n int64) int {
		z *= 193
		z += 2549
		for z >= 10009 {
			z -= 10009
		}
		return int(z % n)
	}
	members := h.game.Members
	p := puzzle(members)
	for range clues {
		asked := clue(nextModulo(6), 0, 0)
		if asked.Kind == 0 {
			asked.A = nextModulo(int64(len(h.votes.sets)))
		} else if asked.Kind == 2 || asked.Kind == 3 {
			asked.A = nextModulo(int64(members))
		}
		p.Clues = append(p.Clues, h.clueLike(asked))
	}
	return p
}

func samePuzzle(a, b impl.Puzzle) bool {
	return a.Members == b.Members && slices.Equal(a.Clues, b.Clues)
}

func checkPuzzle(t *testing.T, c call, want impl.Puzzle) {
	t.Helper()
	out := c.results(t, c.values())
	if got := out[0].Interface().(impl.Puzzle); !out[1].Bool() || !samePuzzle(got, want) {
		t.Fatalf("%v = %v, %v, want %v", c, got, out[1].Bool(), want)
	}
}

func checkGames(t *testing.T, c call, want []impl.Game) {
	t.Helper()
	out := c.results(t, c.values())
	if got := out[0].Interface().([]impl.Game); !out[1].Bool() || !slices.EqualFunc(got, want, sameGame) {
		t.Fatalf("%v = %v, %v, want %v", c, got, out[1].Bool(), want)
	}
}

// checkSolutions checks all functions that tell of the solutions of a puzzle, which are these.
func checkSolutions(t *testing.T, p impl.Puzzle, want []impl.Game) {
	t.Helper()
	checkGames(t, callOf("Solutions", impl.Solutions, p), want)
	checkAnswer(t, callOf("CountSolutions", impl.CountSolutions, p), len(want))
	checkAnswer(t, callOf("IsSolved", impl.IsSolved, p), len(want) == 1)
	first := callOf("FirstSolution", impl.FirstSolution, p)
	if len(want) == 0 {
		checkFails(t, first, callOf("SureWins", impl.SureWins, p), callOf("SureLosses", impl.SureLosses, p))
	} else {
		checkGame(t, first, want[0])
	}
	if len(want) != 1 {
		checkFails(t, callOf("HarderPuzzle", impl.HarderPuzzle, p))
	}
}

// puzzleCalls has each function that takes a puzzle and tells of a result, with other arguments that fit each puzzle of one clue to seven.
func puzzleCalls(p impl.Puzzle) []call {
	return append(solutionCalls(p),
		callOf("Solutions", impl.Solutions, p),
		callOf("CountSolutions", impl.CountSolutions, p),
		callOf("IsSolved", impl.IsSolved, p),
		callOf("NeedlessClues", impl.NeedlessClues, p),
		callOf("DropClue", impl.DropClue, p, 0),
		callOf("AddClue", impl.AddClue, p, clue(0, 1, 1)),
		callOf("LeftByClues", impl.LeftByClues, p),
		callOf("BestClue", impl.BestClue, p),
		callOf("PuzzleText", impl.PuzzleText, p),
	)
}

// solutionCalls fail without a solution, the last one also if there are several.
func solutionCalls(p impl.Puzzle) []call {
	return []call{
		callOf("FirstSolution", impl.FirstSolution, p),
		callOf("SureWins", impl.SureWins, p),
		callOf("SureLosses", impl.SureLosses, p),
		callOf("HarderPuzzle", impl.HarderPuzzle, p),
	}
}

// clues takes so many of these, some perhaps more than once.
func (z *lot) clues(from []impl.Clue, count int) []impl.Clue {
	var clues []impl.Clue
	for range count {
		clues = append(clues, from[z.below(len(from))])
	}
	return clues
}

// trueClues are those that a hidden game fits.
func (h *hidden) trueClues() []impl.Clue {
	return slices.DeleteFunc(allClues(h.game.Members), func(c impl.Clue) bool { return !h.fits(c) })
}

// shortPuzzles have no clue, one, and two in all ways for at most three members, and in some for four.
func shortPuzzles() []impl.Puzzle {
	var puzzles []impl.Puzzle
	for members := 1; members <= 4; members++ {
		puzzles = append(puzzles, puzzle(members))
		all := allClues(members)
		for i, c := range all {
			puzzles = append(puzzles, puzzle(members, c))
			for j, d := range all {
				if members < 4 || (i+3*j)%7 == 0 {
					puzzles = append(puzzles, puzzle(members, c, d))
				}
			}
		}
	}
	return puzzles
}

// mixedPuzzles are made by a rule that gives the same ones each time: of each number of members, with three clues to eight that a game fits, but some with one that it perhaps doesn't.
func mixedPuzzles(count int) []impl.Puzzle {
	var puzzles []impl.Puzzle
	z := lot(4096)
	for i := range count {
		members := []int{4, 3, 4, 2, 4, 1, 4, 3}[i%8]
		games := hiddenGames()[members]
		p := puzzle(members, z.clues(games[z.below(len(games))].trueClues(), 3+z.below(6))...)
		if z.below(4) == 0 {
			p.Clues[z.below(len(p.Clues))] = z.clues(allClues(members), 1)[0]
		}
		puzzles = append(puzzles, p)
	}
	return puzzles
}

func manyPuzzles() []impl.Puzzle { return append(shortPuzzles(), mixedPuzzles(2400)...) }
