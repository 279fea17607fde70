package tests

import (
	"slices"
	"testing"

	"loop.example/g01275/impl"
)

// TestGamesByTheirWords compares what is told of many games with what the document's words give.
func TestGamesByTheirWords(t *testing.T) {
	for _, g := range manyGames() {
		v := votesOfGame(g)
		if !impl.IsGame(g) {
			t.Fatalf("IsGame(%v) is false", g)
		}
		for i, set := range v.sets {
			checkAnswer(t, callOf("WinsGame", impl.WinsGame, g, set), v.wins[i])
		}
		checkAnswer(t, callOf("CountWins", impl.CountWins, g), v.countWinning(-1))
		checkGame(t, callOf("DualGame", impl.DualGame, g), newVotes(g.Members, v.blocks).told())
		checkAnswer(t, callOf("IsProperGame", impl.IsProperGame, g), v.isProper())
		checkAnswer(t, callOf("IsStrongGame", impl.IsStrongGame, g), v.isStrong())
		isIdle := func(k int) bool {
			return !slices.ContainsFunc(g.Wins, func(s []int) bool { return slices.Contains(s, k) })
		}
		isNeeded := func(k int) bool {
			return !slices.ContainsFunc(g.Wins, func(s []int) bool { return !slices.Contains(s, k) })
		}
		checkMembersOf(t, callOf("IdleMembers", impl.IdleMembers, g), v.membersThat(isIdle))
		checkMembersOf(t, callOf("NeededMembers", impl.NeededMembers, g), v.membersThat(isNeeded))
	}
}

// TestGamesOfCommitteesByTheirWords asks for each set of many committees whether it wins in the committee and in its game.
func TestGamesOfCommitteesByTheirWords(t *testing.T) {
	for _, c := range manyCommittees() {
		v := votesOf(c)
		g := v.told()
		checkGame(t, callOf("GameOf", impl.GameOf, c), g)
		least, _ := impl.LeastWinning(c)
		if !sameSets(g.Wins, least) {
			t.Fatalf("GameOf(%v) has not the least winning sets %v", c, least)
		}
		dual, _ := impl.DualCommittee(c)
		checkGame(t, callOf("GameOf", impl.GameOf, dual), newVotes(v.members, v.blocks).told())
	}
}

// TestDualsComeBack has duals of duals, and sets that win in them exactly if all others lose.
func TestDualsComeBack(t *testing.T) {
	for _, g := range manyGames() {
		dual, ok := impl.DualGame(g)
		if !ok || !impl.IsGame(dual) {
			t.Fatalf("DualGame(%v) = %v, %v", g, dual, ok)
		}
		checkGame(t, callOf("DualGame", impl.DualGame, dual), g)
		v := votesOfGame(g)
		for _, set := range v.sets {
			others, _ := impl.WinsGame(g, v.others(set))
			checkAnswer(t, callOf("WinsGame", impl.WinsGame, dual, set), !others)
		}
		proper, _ := impl.IsProperGame(g)
		checkAnswer(t, callOf("IsStrongGame", impl.IsStrongGame, dual), proper)
	}
}

// TestGamesOfSetsByTheirWords makes games of sets in some order, of which many are needless.
func TestGamesOfSetsByTheirWords(t *testing.T) {
	for _, x := range mixedSets() {
		want := votesOfSets(x.members, x.sets).told()
		checkGame(t, callOf("GameOfSets", impl.GameOfSets, x.members, x.sets), want)
		back := slices.Clone(x.sets)
		slices.Reverse(back)
		checkGame(t, callOf("GameOfSets", impl.GameOfSets, x.members, back), want)
	}
	for _, g := range manyGames() {
		if len(g.Wins) <= 50 {
			checkGame(t, callOf("GameOfSets", impl.GameOfSets, g.Members, g.Wins), g)
		}
		if wins := winningSets(g); len(wins) <= 50 {
			checkGame(t, callOf("GameOfSets", impl.GameOfSets, g.Members, wins), g)
		}
	}
}

func winningSets(g impl.Game) [][]int {
	v := votesOfGame(g)
	var list [][]int
	for i, set := range v.sets {
		if v.wins[i] {
			list = append(list, set)
		}
	}
	return list
}

// TestGamesByTheirSets asks for lists of sets of three members, in any order, which of them are games.
func TestGamesByTheirSets(t *testing.T) {
	all := sets("", "0", "01", "012", "02", "1", "12", "2", "3", "10")
	games := map[string]bool{}
	for _, g := range smallGames(3) {
		games[word(g)] = true
	}
	lists := []impl.Game{{Members: 3}}
	found := 0
	for range 4 {
		var longer []impl.Game
		for _, g := range lists {
			for _, s := range all {
				longer = append(longer, gameOfLists(3, append(slices.Clone(g.Wins), s)...))
			}
		}
		for _, g := range longer {
			if impl.IsGame(g) != games[word(g)] {
				t.Fatalf("IsGame(%v) = %v", g, impl.IsGame(g))
			}
			if games[word(g)] {
				found++
			}
		}
		lists = longer
	}
	if found != 18 {
		t.Errorf("%d games of three members found", found)
	}
}

// joined has the members of both games, one behind the other: a set wins as the two answers for its parts tell.
func joined(g, h impl.Game, wins func(a, b bool) bool) impl.Game {
	v, w := votesOfGame(g), votesOfGame(h)
	return newVotes(g.Members+h.Members, func(set []int) bool {
		var first, second []int
		for _, k := range set {
			if k < g.Members {
				first = append(first, k)
			} else {
				second = append(second, k-g.Members)
			}
		}
		return wins(v.isWon(first), w.isWon(second))
	}).told()
}

func TestSumsByTheirWords(t *testing.T) {
	small := slices.Concat(smallGames(1), smallGames(2), smallGames(3))
	var pairs [][2]impl.Game
	for _, g := range small {
		for _, h := range small {
			pairs = append(pairs, [2]impl.Game{g, h})
		}
	}
	for i, g := range mixedGames() {
		// Both have nine members together.
		if rest := 9 - g.Members; rest >= 1 && rest <= 4 {
			others := smallGames(rest)
			h := others[i*7%len(others)]
			pairs = append(pairs, [2]impl.Game{g, h}, [2]impl.Game{h, g})
		}
	}
	for _, x := range pairs {
		g, h := x[0], x[1]
		checkGame(t, callOf("SumGames", impl.SumGames, g, h), joined(g, h, func(a, b bool) bool { return a || b }))
		checkGame(t, callOf("ProductGames", impl.ProductGames, g, h), joined(g, h, func(a, b bool) bool { return a && b }))
	}
}

// TestMembersGoByTheirWords takes each member out of many games.
func TestMembersGoByTheirWords(t *testing.T) {
	for _, g := range manyGames() {
		v := votesOfGame(g)
		for k := range g.Members {
			left := v.others([]int{k})
			votesLeft := func(more ...int) *votes {
				return newVotes(len(left), func(set []int) bool {
					old := slices.Clone(more)
					for _, i := range set {
						old = append(old, left[i])
					}
					return v.isWon(old)
				})
			}
			without, with := callOf("GameWithout", impl.GameWithout, g, k), callOf("GameWith", impl.GameWith, g, k)
			checkLeftGame(t, without, votesLeft())
			checkLeftGame(t, with, votesLeft(k))
		}
	}
}

// checkLeftGame expects a failure if no set wins, or the empty one does.
func checkLeftGame(t *testing.T, c call, v *votes) {
	t.Helper()
	if !slices.Contains(v.wins, true) || v.isWon(nil) {
		c.mustFail(t)
		return
	}
	checkGame(t, c, v.told())
}

// allOrders returns all orders of so many members.
func allOrders(members int) [][]int {
	var list [][]int
	order := upTo(members)
	var place func(i int)
	place = func(i int) {
		if i == members {
			list = append(list, slices.Clone(order))
			return
		}
		for j := i; j < members; j++ {
			order[i], order[j] = order[j], order[i]
			place(i + 1)
			order[i], order[j] = order[j], order[i]
		}
	}
	place(0)
	return list
}

// someOrders are all of at most four members, and a few of more.
func someOrders(members int) [][]int {
	if members <= 4 {
		return allOrders(members)
	}
	list := [][]int{upTo(members)}
	for turn := 1; turn < members; turn++ {
		order := upTo(members)
		order = append(order[turn:], order[:turn]...)
		list = append(list, slices.Clone(order))
		slices.Reverse(order)
		list = append(list, slices.Clone(order))
		order[0], order[2] = order[2], order[0]
		list = append(list, order)
	}
	return list
}

// renamedByWords finds the sets that win by the names that their members had.
func renamedByWords(g impl.Game, order []int) impl.Game {
	v := votesOfGame(g)
	return newVotes(g.Members, func(set []int) bool {
		var old []int
		for _, i := range set {
			old = append(old, order[i])
		}
		return v.isWon(old)
	}).told()
}

func TestRenamedByTheirWords(t *testing.T) {
	for _, g := range manyGames() {
		for _, order := range someOrders(g.Members) {
			checkGame(t, callOf("RenameGame", impl.RenameGame, g, order), renamedByWords(g, order))
		}
	}
	for _, c := range append(validCommittees(), mixedCommittees()...) {
		g, _ := impl.GameOf(c)
		for _, order := range someOrders(len(c.Weights)) {
			renamed, _ := impl.RenameCommittee(c, order)
			checkGame(t, callOf("RenameGame", impl.RenameGame, g, order), votesOf(renamed).told())
		}
	}
}

// renamedLists has the lists of Wins that a game has with all orders.
func renamedLists(g impl.Game) [][][]int {
	var lists [][][]int
	for _, order := range allOrders(g.Members) {
		var wins [][]int
		for _, set := range g.Wins {
			var renamed []int
			for i, k := range order {
				if slices.Contains(set, k) {
					renamed = append(renamed, i)
				}
			}
			wins = append(wins, renamed)
		}
		slices.SortFunc(wins, slices.Compare[[]int])
		lists = append(lists, wins)
	}
	return lists
}

func compareLists(a, b [][]int) int { return slices.CompareFunc(a, b, slices.Compare[[]int]) }

// TestFirstByTheirWords looks for the first one of all renamed games.
func TestFirstByTheirWords(t *testing.T) {
	for _, g := range manyGames() {
		first := callOf("FirstGame", impl.FirstGame, g)
		if g.Members > 6 {
			first.mustFail(t)
			continue
		}
		checkGame(t, first, gameOfLists(g.Members, slices.MinFunc(renamedLists(g), compareLists)...))
	}
}

// TestFirstOfRenamed checks that all renamed games have the same first one, and how many first ones there are.
func TestFirstOfRenamed(t *testing.T) {
	for i, want := range []int{1, 3, 8, 28} {
		members := i + 1
		firsts := map[string]bool{}
		for _, g := range smallGames(members) {
			first, ok := impl.FirstGame(g)
			if !ok {
				t.Fatalf("FirstGame(%v) fails", g)
			}
			firsts[word(first)] = true
			for _, order := range someOrders(g.Members) {
				renamed, _ := impl.RenameGame(g, order)
				checkGame(t, callOf("FirstGame", impl.FirstGame, renamed), first)
			}
		}
		if len(firsts) != want {
			t.Errorf("%d first games of %d members, want %d", len(firsts), members, want)
		}
	}
}
