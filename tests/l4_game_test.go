package tests

import (
	"slices"
	"testing"

	"loop.example/g01275/impl"
)

// TestExamplesOfGames has the examples of the chapter.
func TestExamplesOfGames(t *testing.T) {
	g := game(4, "01", "02", "123")
	checkGame(t, callOf("GameOf", impl.GameOf, mustParse(t, "5:3,2,2,1")), g)
	checkGame(t, callOf("DualGame", impl.DualGame, g), game(4, "01", "02", "03", "12"))
	pairs := game(4, "01", "23")
	checkAnswer(t, callOf("IsProperGame", impl.IsProperGame, pairs), false)
	dual := game(4, "02", "03", "12", "13")
	checkGame(t, callOf("DualGame", impl.DualGame, pairs), dual)
	checkAnswer(t, callOf("IsStrongGame", impl.IsStrongGame, dual), false)
	checkGame(t, callOf("SumGames", impl.SumGames, game(1, "0"), game(2, "01")), game(3, "0", "12"))
	checkGame(t, callOf("GameWithout", impl.GameWithout, g, 0), game(3, "012"))
	checkGame(t, callOf("GameWith", impl.GameWith, g, 0), game(3, "0", "1"))
	for i, count := range []int{1, 4, 18, 166} {
		checkAnswer(t, callOf("CountGames", impl.CountGames, i+1), count)
	}
}

// A gameWanted has what is told of one game.
type gameWanted struct {
	g, dual        impl.Game
	count          int
	proper, strong bool
	idle, needed   []int
}

func gamesWanted() []gameWanted {
	return []gameWanted{
		{g: game(4, "01", "02", "123"), dual: game(4, "01", "02", "03", "12"), count: 7, proper: true},
		{g: game(4, "01", "02", "03", "12"), dual: game(4, "01", "02", "123"), count: 9, strong: true},
		{g: game(4, "01", "23"), dual: game(4, "02", "03", "12", "13"), count: 7},
		{g: game(4, "02", "03", "12", "13"), dual: game(4, "01", "23"), count: 9},
		{g: game(1, "0"), dual: game(1, "0"), count: 1, proper: true, strong: true, needed: []int{0}},
		{g: game(2, "1"), dual: game(2, "1"), count: 2, proper: true, strong: true, idle: []int{0}, needed: []int{1}},
		{g: game(2, "01"), dual: game(2, "0", "1"), count: 1, proper: true, needed: []int{0, 1}},
		{g: game(2, "0", "1"), dual: game(2, "01"), count: 3, strong: true},
		{g: game(3, "01", "02", "12"), dual: game(3, "01", "02", "12"), count: 4, proper: true, strong: true},
		{g: game(5, "12", "14"), dual: game(5, "1", "24"), count: 12, proper: true, idle: []int{0, 3}, needed: []int{1}},
		{g: game(5, "1", "24"), dual: game(5, "12", "14"), count: 20, strong: true, idle: []int{0, 3}},
		// only one least winning set: all members, one of them, some of them
		{g: game(9, "012345678"), dual: game(9, "0", "1", "2", "3", "4", "5", "6", "7", "8"), count: 1, proper: true, needed: upTo(9)},
		{g: game(9, "0", "1", "2", "3", "4", "5", "6", "7", "8"), dual: game(9, "012345678"), count: 511, strong: true},
		{g: game(9, "0"), dual: game(9, "0"), count: 256, proper: true, strong: true, idle: fromTo(1, 8), needed: []int{0}},
		{g: game(9, "8"), dual: game(9, "8"), count: 256, proper: true, strong: true, idle: upTo(8), needed: []int{8}},
		{g: game(9, "258"), dual: game(9, "2", "5", "8"), count: 64, proper: true, idle: []int{0, 1, 3, 4, 6, 7}, needed: []int{2, 5, 8}},
		{g: majority(9, 5), dual: majority(9, 5), count: 256, proper: true, strong: true},
		{g: majority(9, 4), dual: majority(9, 6), count: 382, strong: true},
		{g: game(7, "013", "026", "045", "124", "156", "235", "346"), dual: game(7, "013", "026", "045", "124", "156", "235", "346"), count: 64, proper: true, strong: true},
		{g: game(9, "012", "345", "678"), dual: votesOfBlocks(game(9, "012", "345", "678")).told(), count: 512 - 7*7*7},
	}
}

// votesOfBlocks has as winning sets those without whose members nobody wins.
func votesOfBlocks(g impl.Game) *votes { return newVotes(g.Members, votesOfGame(g).blocks) }

func TestKnownGames(t *testing.T) {
	for _, x := range gamesWanted() {
		if !impl.IsGame(x.g) {
			t.Fatalf("IsGame(%v) is false", x.g)
		}
		checkGame(t, callOf("DualGame", impl.DualGame, x.g), x.dual)
		checkAnswer(t, callOf("CountWins", impl.CountWins, x.g), x.count)
		checkAnswer(t, callOf("IsProperGame", impl.IsProperGame, x.g), x.proper)
		checkAnswer(t, callOf("IsStrongGame", impl.IsStrongGame, x.g), x.strong)
		checkMembersOf(t, callOf("IdleMembers", impl.IdleMembers, x.g), x.idle)
		checkMembersOf(t, callOf("NeededMembers", impl.NeededMembers, x.g), x.needed)
	}
}

func TestGamesOfCommittees(t *testing.T) {
	for text, want := range map[string]impl.Game{
		"1:1":                 game(1, "0"),
		"1000:1000":           game(1, "0"),
		"4:4,1,1":             game(3, "0"),
		"5:4,1,1":             game(3, "01", "02"),
		"1:0,0,1":             game(3, "2"),
		"4:2,2,1":             game(3, "01"),
		"2:1,1,1":             game(3, "01", "02", "12"),
		"3:2,1,1,1":           game(4, "01", "02", "03", "123"),
		"9:1,1,1,1,1,1,1,1,1": game(9, "012345678"),
		"1:1,1,1,1,1,1,1,1,1": game(9, "0", "1", "2", "3", "4", "5", "6", "7", "8"),
		"1:0,0,0,0,0,0,0,0,1": game(9, "8"),
		"5:1,1,1,1,1,1,1,1,1": majority(9, 5),
		"3500:1000,1000,1000,1000,1000,1000,1000,1000,1000": majority(9, 4),
	} {
		checkGame(t, callOf("GameOf", impl.GameOf, mustParse(t, text)), want)
	}
}

func TestGamesOfSets(t *testing.T) {
	for _, x := range []struct {
		members int
		sets    [][]int
		want    impl.Game
	}{
		{1, sets("0"), game(1, "0")},
		{1, sets("0", "0"), game(1, "0")},
		{2, sets("1", "0"), game(2, "0", "1")},
		{4, sets("01"), game(4, "01")},
		{4, sets("123", "02", "01"), game(4, "01", "02", "123")},
		{4, sets("23", "01", "23", "01", "23"), game(4, "01", "23")},
		{4, sets("01", "012"), game(4, "01")},
		{4, sets("012", "01"), game(4, "01")},
		{4, sets("0123", "012", "01", "0"), game(4, "0")},
		{4, sets("0", "01", "012", "0123"), game(4, "0")},
		{4, sets("012", "0123", "02"), game(4, "02")},
		{4, sets("0123", "123", "3", "012"), game(4, "012", "3")},
		{4, sets("0123", "0123"), game(4, "0123")},
		{5, sets("01", "2", "34", "134", "24"), game(5, "01", "2", "34")},
		{9, sets("8"), game(9, "8")},
		{9, sets("012345678"), game(9, "012345678")},
		{9, sets("8", "7", "6", "5", "4", "3", "2", "1", "0", "012345678"), game(9, "0", "1", "2", "3", "4", "5", "6", "7", "8")},
	} {
		checkGame(t, callOf("GameOfSets", impl.GameOfSets, x.members, x.sets), x.want)
	}
}

// TestNumbersOfSets meets the limit of 50 sets and exceeds it by 1, also if some are given twice or have all members of another one.
func TestNumbersOfSets(t *testing.T) {
	four := majority(9, 4).Wins
	checkGame(t, callOf("GameOfSets", impl.GameOfSets, 9, four[:1]), gameOfLists(9, four[0]))
	checkGame(t, callOf("GameOfSets", impl.GameOfSets, 9, four[:50]), gameOfLists(9, four[:50]...))
	checkGame(t, callOf("GameOfSets", impl.GameOfSets, 9, four[76:]), gameOfLists(9, four[76:]...))
	checkGame(t, callOf("GameOfSets", impl.GameOfSets, 1, slices.Repeat(sets("0"), 50)), game(1, "0"))
	checkGame(t, callOf("GameOfSets", impl.GameOfSets, 3, slices.Repeat(sets("012", "01"), 25)), game(3, "01"))
	for _, x := range []call{
		callOf("GameOfSets", impl.GameOfSets, 9, four[:51]),
		callOf("GameOfSets", impl.GameOfSets, 9, four),
		callOf("GameOfSets", impl.GameOfSets, 1, slices.Repeat(sets("0"), 51)),
		callOf("GameOfSets", impl.GameOfSets, 3, append(slices.Repeat(sets("012", "01"), 25), []int{0})),
		callOf("GameOfSets", impl.GameOfSets, 9, sets()),
		callOf("GameOfSets", impl.GameOfSets, 9, [][]int(nil)),
	} {
		x.mustFail(t)
	}
}

// TestManyLeastSets has games with more least winning sets than GameOfSets takes.
func TestManyLeastSets(t *testing.T) {
	for need := 1; need <= 9; need++ {
		g := majority(9, need)
		if !impl.IsGame(g) {
			t.Fatalf("IsGame of %d of nine is false", need)
		}
		checkGame(t, callOf("DualGame", impl.DualGame, g), majority(9, 10-need))
		checkAnswer(t, callOf("IsProperGame", impl.IsProperGame, g), need >= 5)
		checkAnswer(t, callOf("IsStrongGame", impl.IsStrongGame, g), need <= 5)
		text, ok := impl.GameText(g)
		if !ok || text != word(g) {
			t.Fatalf("GameText of %d of nine = %q, %v", need, text, ok)
		}
		checkGame(t, callOf("ParseGame", impl.ParseGame, text), g)
		for k := range 9 {
			without, with := callOf("GameWithout", impl.GameWithout, g, k), callOf("GameWith", impl.GameWith, g, k)
			if need == 9 {
				without.mustFail(t)
			} else {
				checkGame(t, without, majority(8, need))
			}
			if need == 1 {
				with.mustFail(t)
			} else {
				checkGame(t, with, majority(8, need-1))
			}
		}
	}
}

func TestSumsAndProducts(t *testing.T) {
	for _, x := range []struct{ g, h, sum, product impl.Game }{
		{game(1, "0"), game(1, "0"), game(2, "0", "1"), game(2, "01")},
		{game(1, "0"), game(2, "01"), game(3, "0", "12"), game(3, "012")},
		{game(2, "01"), game(1, "0"), game(3, "01", "2"), game(3, "012")},
		{game(2, "1"), game(2, "0"), game(4, "1", "2"), game(4, "12")},
		{game(2, "0", "1"), game(2, "0", "1"), game(4, "0", "1", "2", "3"), game(4, "02", "03", "12", "13")},
		{game(3, "0", "12"), game(2, "0"), game(5, "0", "12", "3"), game(5, "03", "123")},
		// nine members together
		{game(4, "01", "23"), game(5, "014", "23"), game(9, "01", "23", "458", "67"), game(9, "01458", "0167", "23458", "2367")},
		{game(5, "014", "23"), game(4, "01", "23"), game(9, "014", "23", "56", "78"), game(9, "01456", "01478", "2356", "2378")},
		{game(8, "01234567"), game(1, "0"), game(9, "01234567", "8"), game(9, "012345678")},
		{game(1, "0"), game(8, "7"), game(9, "0", "8"), game(9, "08")},
	} {
		checkGame(t, callOf("SumGames", impl.SumGames, x.g, x.h), x.sum)
		checkGame(t, callOf("ProductGames", impl.ProductGames, x.g, x.h), x.product)
	}
}

// TestTooManyMembers has sums and products of each two numbers of members.
func TestTooManyMembers(t *testing.T) {
	for a := 1; a <= 9; a++ {
		for b := 1; b <= 9; b++ {
			g, h := majority(a, a), majority(b, 1)
			sum, product := callOf("SumGames", impl.SumGames, g, h), callOf("ProductGames", impl.ProductGames, g, h)
			if a+b > 9 {
				sum.mustFail(t)
				product.mustFail(t)
				continue
			}
			for _, x := range []call{sum, product} {
				if out := x.results(t, x.values()); !out[1].Bool() || out[0].Interface().(impl.Game).Members != a+b {
					t.Fatalf("%v = %v, %v", x, out[0], out[1])
				}
			}
		}
	}
}

// TestMembersGo has games without a member and with it, and such in which that leaves none.
func TestMembersGo(t *testing.T) {
	none := impl.Game{}
	for _, x := range []struct {
		g             impl.Game
		k             int
		without, with impl.Game
	}{
		{game(1, "0"), 0, none, none},
		{game(2, "0"), 0, none, none},
		{game(2, "0"), 1, game(1, "0"), game(1, "0")},
		{game(2, "1"), 0, game(1, "0"), game(1, "0")},
		{game(2, "01"), 0, none, game(1, "0")},
		{game(2, "01"), 1, none, game(1, "0")},
		{game(2, "0", "1"), 0, game(1, "0"), none},
		{game(2, "0", "1"), 1, game(1, "0"), none},
		{game(4, "01", "02", "123"), 0, game(3, "012"), game(3, "0", "1")},
		{game(4, "01", "02", "123"), 1, game(3, "01"), game(3, "0", "12")},
		{game(4, "01", "02", "123"), 2, game(3, "01"), game(3, "0", "12")},
		{game(4, "01", "02", "123"), 3, game(3, "01", "02"), game(3, "01", "02", "12")},
		{game(5, "014", "23"), 3, game(4, "013"), game(4, "013", "2")},
		{game(5, "014", "23"), 4, game(4, "23"), game(4, "01", "23")},
		// sets that without the member are part of others
		{game(3, "01", "12"), 0, game(2, "01"), game(2, "0")},
		{game(4, "02", "123"), 0, game(3, "012"), game(3, "1")},
		{game(4, "013", "02", "12"), 2, game(3, "012"), game(3, "0", "1")},
		{game(9, "0", "12345678"), 0, game(8, "01234567"), none},
		{game(9, "0", "12345678"), 8, game(8, "0"), game(8, "0", "1234567")},
		{game(9, "012345678"), 4, none, game(8, "01234567")},
		{game(9, "4"), 4, none, none},
		{game(9, "4"), 3, game(8, "3"), game(8, "3")},
		{game(9, "4"), 5, game(8, "4"), game(8, "4")},
	} {
		for _, y := range []struct {
			c    call
			want impl.Game
		}{{callOf("GameWithout", impl.GameWithout, x.g, x.k), x.without}, {callOf("GameWith", impl.GameWith, x.g, x.k), x.with}} {
			if y.want.Members == 0 {
				y.c.mustFail(t)
			} else {
				checkGame(t, y.c, y.want)
			}
		}
	}
}

func TestRenamedGames(t *testing.T) {
	g := game(4, "01", "02", "123")
	for _, x := range []struct {
		g     impl.Game
		order []int
		want  impl.Game
	}{
		{game(1, "0"), []int{0}, game(1, "0")},
		{game(2, "0"), []int{0, 1}, game(2, "0")},
		{game(2, "0"), []int{1, 0}, game(2, "1")},
		{g, []int{0, 1, 2, 3}, g},
		{g, []int{3, 2, 1, 0}, game(4, "012", "13", "23")},
		{g, []int{1, 2, 3, 0}, game(4, "012", "03", "13")},
		{g, []int{3, 0, 1, 2}, game(4, "023", "12", "13")},
		{game(3, "0"), []int{1, 2, 0}, game(3, "2")},
		{game(3, "0"), []int{2, 0, 1}, game(3, "1")},
		{game(3, "0", "12"), []int{2, 0, 1}, game(3, "02", "1")},
		{game(9, "07", "17", "27"), []int{7, 8, 0, 1, 2, 3, 4, 5, 6}, game(9, "02", "03", "04")},
		{game(9, "07", "17", "27"), []int{8, 7, 6, 5, 4, 3, 2, 1, 0}, game(9, "16", "17", "18")},
		{majority(9, 5), []int{4, 8, 0, 2, 6, 1, 3, 7, 5}, majority(9, 5)},
	} {
		checkGame(t, callOf("RenameGame", impl.RenameGame, x.g, x.order), x.want)
	}
}

// TestFirstGames has games of 1 to 6 members, and of 7, of which there is no first one.
func TestFirstGames(t *testing.T) {
	for _, x := range []struct{ g, want impl.Game }{
		{game(1, "0"), game(1, "0")},
		{game(2, "1"), game(2, "0")},
		{game(2, "01"), game(2, "01")},
		{game(3, "2"), game(3, "0")},
		{game(3, "02", "1"), game(3, "0", "12")},
		{game(3, "12"), game(3, "01")},
		{game(4, "012", "13", "23"), game(4, "01", "02", "123")},
		{game(4, "01", "02", "123"), game(4, "01", "02", "123")},
		{game(4, "02", "13"), game(4, "01", "23")},
		{game(4, "01", "12", "23"), game(4, "01", "02", "13")},
		{game(5, "014", "23"), game(5, "01", "234")},
		{game(5, "04", "123"), game(5, "01", "234")},
		{game(5, "34"), game(5, "01")},
		{game(6, "5"), game(6, "0")},
		{game(6, "012345"), game(6, "012345")},
		{game(6, "05", "14", "23"), game(6, "01", "23", "45")},
		{game(6, "0", "1", "2", "3", "4", "5"), game(6, "0", "1", "2", "3", "4", "5")},
		{game(6, "12", "345"), game(6, "01", "234")},
		{game(6, "02", "12", "345"), game(6, "01", "02", "345")},
		{game(6, "12", "14", "15", "24"), game(6, "01", "02", "03", "12")},
	} {
		checkGame(t, callOf("FirstGame", impl.FirstGame, x.g), x.want)
	}
	for _, g := range []impl.Game{game(7, "0"), game(7, "0123456"), majority(7, 4), game(8, "01", "23", "45", "67"), game(9, "8"), majority(9, 5)} {
		callOf("FirstGame", impl.FirstGame, g).mustFail(t)
	}
}

// TestCountedGames counts games of 1 to 4 members with other means than the program.
func TestCountedGames(t *testing.T) {
	for i, proper := range []int{1, 3, 11, 80} {
		members := i + 1
		games := smallGames(members)
		count := 0
		for _, g := range games {
			if votesOfGame(g).isProper() {
				count++
			}
		}
		if count != proper {
			t.Fatalf("the test finds %d proper games of %d members, and expects %d", count, members, proper)
		}
		checkAnswer(t, callOf("CountGames", impl.CountGames, members), len(games))
		checkAnswer(t, callOf("CountProperGames", impl.CountProperGames, members), count)
	}
}
