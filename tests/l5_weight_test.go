package tests

import (
	"slices"
	"testing"

	"loop.example/g01275/impl"
)

func TestWeightConstants(t *testing.T) {
	if impl.MaxFound != 5 {
		t.Error(impl.MaxFound)
	}
}

// TestExamplesOfWeights has the examples of the chapter.
func TestExamplesOfWeights(t *testing.T) {
	checkCommittee(t, callOf("LeastCommittee", impl.LeastCommittee, mustParse(t, "50:30,20,20,10")), mustParse(t, "5:3,2,2,1"))
	checkSpare(t, "7:4,4,1", 1, 2)
	checkCommittee(t, callOf("PartCommittee", impl.PartCommittee, mustParse(t, "7:4,4,2")), mustParse(t, "4:2,2,1"))
	checkCommittee(t, callOf("AddVeto", impl.AddVeto, mustParse(t, "2:1,1,1")), mustParse(t, "5:1,1,1,3"))
	checkCommittee(t, callOf("LowerWeights", impl.LowerWeights, mustParse(t, "5:4,4,4")), mustParse(t, "5:1,4,4"))
	checkCommittee(t, callOf("TimesCommittee", impl.TimesCommittee, mustParse(t, "2:1,1,1"), 3), mustParse(t, "4:3,3,3"))
	checkAnswer(t, callOf("HasWeights", impl.HasWeights, game(4, "01", "23")), false)
	for i, count := range []int{1, 4, 18, 148} {
		checkAnswer(t, callOf("CountWeighted", impl.CountWeighted, i+1), count)
	}
}

func checkSpare(t *testing.T, text string, above, below int) {
	t.Helper()
	if a, b, ok := impl.SpareOf(mustParse(t, text)); !ok || a != above || b != below {
		t.Errorf("SpareOf(%s) = %v, %v, %v, want %v, %v", text, a, b, ok, above, below)
	}
}

// TestKnownLeastWeights has games of one member up to MaxFound members, of dictators, with vetoes and with members that are in no least winning set.
func TestKnownLeastWeights(t *testing.T) {
	for text, g := range map[string]impl.Game{
		"1:1":         game(1, "0"),
		"1:1,0":       game(2, "0"),
		"1:0,1":       game(2, "1"),
		"2:1,1":       game(2, "01"),
		"1:1,1":       game(2, "0", "1"),
		"2:1,1,1":     game(3, "01", "02", "12"),
		"1:0,1,0":     game(3, "1"),
		"2:1,0,1":     game(3, "02"),
		"3:2,1,1":     game(3, "01", "02"),
		"2:2,1,1":     game(3, "0", "12"),
		"5:3,2,2,1":   game(4, "01", "02", "123"),
		"4:3,2,2,1":   game(4, "01", "02", "03", "12"),
		"4:1,2,2,3":   game(4, "03", "12", "13", "23"),
		"1:0,0,0,1":   game(4, "3"),
		"4:1,1,1,1":   game(4, "0123"),
		"3:1,1,1,1,1": majority(5, 3),
		"5:1,1,1,1,1": majority(5, 5),
		"1:1,1,1,1,1": majority(5, 1),
		"1:0,0,1,0,0": game(5, "2"),
		"3:0,2,1,0,1": game(5, "12", "14"),
		"4:4,1,1,1,1": game(5, "0", "1234"),
		"9:5,4,3,2,2": game(5, "01", "023", "024", "034", "123", "124"),
		"2:0,1,0,1,1": game(5, "13", "14", "34"),
	} {
		c := mustParse(t, text)
		if ballotOfCommittee(c) != ballotOf(votesOfGame(g)) {
			t.Fatalf("the test takes %s for weights of %v", text, g)
		}
		checkAnswer(t, callOf("HasWeights", impl.HasWeights, g), true)
		checkCommittee(t, callOf("LeastWeights", impl.LeastWeights, g), c)
		checkAnswer(t, callOf("LeastTotal", impl.LeastTotal, g), totalOf(c.Weights))
		checkCommittee(t, callOf("LeastCommittee", impl.LeastCommittee, c), c)
		checkAnswer(t, callOf("IsLeastCommittee", impl.IsLeastCommittee, c), true)
		checkAnswer(t, callOf("DoesFitGame", impl.DoesFitGame, c, g), true)
		checkAnswer(t, callOf("QuotaOfGame", impl.QuotaOfGame, g, c.Weights), c.Quota)
	}
}

// TestGamesWithoutWeights have trades, so that weights of no size make them.
func TestGamesWithoutWeights(t *testing.T) {
	for _, g := range []impl.Game{
		game(4, "01", "23"), game(4, "02", "13"), game(4, "03", "12"),
		game(4, "02", "03", "12", "13"), game(4, "01", "12", "23"), game(4, "01", "02", "13"),
		game(5, "01", "23"), game(5, "014", "23"), game(5, "01", "234"), game(5, "014", "234"), game(5, "01", "23", "4"), game(5, "012", "034", "123"),
	} {
		if !ballotOf(votesOfGame(g)).hasTrade(g.Members) {
			t.Fatalf("the test knows no trade of %v", g)
		}
		checkAnswer(t, callOf("HasWeights", impl.HasWeights, g), false)
		checkFails(t, callOf("LeastWeights", impl.LeastWeights, g), callOf("LeastTotal", impl.LeastTotal, g))
		for _, weights := range [][]int{ofWeight(1, g.Members), ofWeight(1000, g.Members), fromTo(1, g.Members)} {
			checkFails(t, callOf("QuotaOfGame", impl.QuotaOfGame, g, weights))
		}
	}
}

// TestMaxFound has games and committees of one member more than weights are looked for.
func TestMaxFound(t *testing.T) {
	for members := 1; members <= 9; members++ {
		one := committee(1, slices.Concat([]int{1}, ofWeight(0, members-1))...)
		for _, c := range []impl.Committee{committee(1, ofWeight(1, members)...), committee(members, ofWeight(1, members)...), one} {
			g := votesOf(c).told()
			calls := []call{callOf("HasWeights", impl.HasWeights, g), callOf("LeastWeights", impl.LeastWeights, g), callOf("LeastTotal", impl.LeastTotal, g), callOf("LeastCommittee", impl.LeastCommittee, c), callOf("IsLeastCommittee", impl.IsLeastCommittee, c)}
			checkAnswer(t, callOf("DoesFitGame", impl.DoesFitGame, c, g), true)
			checkAnswer(t, callOf("QuotaOfGame", impl.QuotaOfGame, g, c.Weights), c.Quota)
			if members > 5 {
				checkFails(t, calls...)
				continue
			}
			checkAnswer(t, calls[0], true)
			checkCommittee(t, calls[1], c)
			checkAnswer(t, calls[2], totalOf(c.Weights))
			checkCommittee(t, calls[3], c)
			checkAnswer(t, calls[4], true)
		}
	}
	for _, g := range []impl.Game{game(6, "01", "23"), game(9, "012", "345", "678"), majority(6, 3), majority(9, 5)} {
		checkFails(t, callOf("HasWeights", impl.HasWeights, g), callOf("LeastWeights", impl.LeastWeights, g), callOf("LeastTotal", impl.LeastTotal, g))
	}
}

func TestKnownLeastCommittees(t *testing.T) {
	for text, want := range map[string]string{
		"1000:1000":                 "1:1",
		"1:1000":                    "1:1",
		"2:0,3,0":                   "1:0,1,0",
		"51:50,49,1":                "3:2,1,1",
		"52:50,49,1":                "2:1,1,0",
		"50:50,49,1":                "2:2,1,1",
		"100:50,49,1":               "3:1,1,1",
		"1:0,0,0,0,1000":            "1:0,0,0,0,1",
		"2501:1000,999,998,997,996": "3:1,1,1,1,1",
		"4990:1000,999,998,997,996": "5:1,1,1,1,1",
		"900:500,400,300,200,200":   "9:5,4,3,2,2",
		"4:4,1,1":                   "1:1,0,0",
		"5:4,1,1":                   "3:2,1,1",
		"6:3,2,2,1":                 "4:2,1,1,1",
		"7:3,2,2,1":                 "3:1,1,1,0",
		"8:3,2,2,1":                 "4:1,1,1,1",
		"2:3,2,2,1":                 "1:1,1,1,0",
	} {
		c := mustParse(t, text)
		checkCommittee(t, callOf("LeastCommittee", impl.LeastCommittee, c), mustParse(t, want))
		checkAnswer(t, callOf("IsLeastCommittee", impl.IsLeastCommittee, c), false)
		checkAnswer(t, callOf("IsLeastCommittee", impl.IsLeastCommittee, mustParse(t, want)), true)
	}
	// As many weights together as those of 5:3,2,2,1, and the same ones with another quota or in another order.
	for text, is := range map[string]bool{"5:3,2,2,1": true, "4:3,2,2,1": true, "6:3,2,2,1": false, "3:3,2,2,1": false, "5:2,3,2,1": true, "5:1,2,2,3": true, "5:4,2,1,1": false, "5:4,2,2,0": false, "5:3,3,1,1": false, "5:3,2,2,1,0": true, "5:0,3,2,2,1": true, "9:6,4,4,2": false, "9:5,4,3,2,2": true, "8:5,4,3,2,2": true, "10:5,4,3,2,2": false} {
		checkAnswer(t, callOf("IsLeastCommittee", impl.IsLeastCommittee, mustParse(t, text)), is)
	}
}

// TestFittingGames has committees and games of many members, and of unlike numbers of members.
func TestFittingGames(t *testing.T) {
	for _, x := range []struct {
		text string
		g    impl.Game
		want bool
	}{
		{"5:3,2,2,1", game(4, "01", "02", "123"), true},
		{"50:30,20,20,10", game(4, "01", "02", "123"), true},
		{"4:3,2,2,1", game(4, "01", "02", "123"), false},
		{"5:3,2,2,1", game(4, "01", "02"), false},
		{"5:3,2,2,1", game(4, "01", "02", "12"), false},
		{"5:3,2,2,1", game(4, "01", "23"), false},
		{"5:3,2,2,1,0", game(4, "01", "02", "123"), false},
		{"5:3,2,2,1", game(5, "01", "02", "123"), false},
		{"5:3,2,2,1,0", game(5, "01", "02", "123"), true},
		{"5:3,2,2,1,0,0,0,0,0", game(9, "01", "02", "123"), true},
		{"1:1", game(1, "0"), true},
		{"700:1000", game(1, "0"), true},
		{"1:1", game(2, "0"), false},
		{"1:1,0", game(1, "0"), false},
		{"1:1,0", game(2, "0"), true},
		{"1:0,1", game(2, "0"), false},
		{"9:1,1,1,1,1,1,1,1,1", game(9, "012345678"), true},
		{"9:1,1,1,1,1,1,1,1,1", game(8, "01234567"), false},
		{"8:1,1,1,1,1,1,1,1,1", game(9, "012345678"), false},
		{"4500:1000,1000,1000,1000,1000,1000,1000,1000,1000", majority(9, 5), true},
		{"5001:1000,1000,1000,1000,1000,1000,1000,1000,1000", majority(9, 5), false},
	} {
		checkAnswer(t, callOf("DoesFitGame", impl.DoesFitGame, mustParse(t, x.text), x.g), x.want)
	}
}

// TestKnownQuotasOfGames has weights from 0 up to MaxWeight; the quota 0 tells that there is none.
func TestKnownQuotasOfGames(t *testing.T) {
	for _, x := range []struct {
		g       impl.Game
		weights []int
		quota   int
	}{
		{game(1, "0"), []int{1}, 1},
		{game(1, "0"), []int{1000}, 1},
		{game(1, "0"), []int{0}, 0},
		{game(2, "0"), []int{1, 0}, 1},
		{game(2, "0"), []int{1000, 999}, 1000},
		{game(2, "0"), []int{1000, 1000}, 0},
		{game(2, "0"), []int{0, 0}, 0},
		{game(2, "01"), []int{1000, 1000}, 1001},
		{game(2, "01"), []int{1000, 1}, 1001},
		{game(2, "01"), []int{1000, 0}, 0},
		{game(2, "0", "1"), []int{1000, 1}, 1},
		{game(2, "0", "1"), []int{1000, 0}, 0},
		{game(3, "1"), []int{300, 601, 300}, 601},
		{game(3, "1"), []int{300, 600, 300}, 0},
		{game(4, "01", "02", "123"), []int{3, 2, 2, 1}, 5},
		{game(4, "01", "02", "123"), []int{30, 20, 20, 10}, 41},
		{game(4, "01", "02", "123"), []int{3, 2, 2, 2}, 0},
		{game(4, "01", "02", "123"), []int{3, 2, 2, 0}, 0},
		{game(5, "01", "02", "123"), []int{3, 2, 2, 1, 0}, 5},
		{game(5, "01", "02", "123"), []int{6, 4, 4, 2, 1}, 10},
		{game(5, "01", "02", "123"), []int{3, 2, 2, 1, 1}, 0},
		{game(4, "0123"), []int{0, 0, 0, 0}, 0},
		{majority(9, 5), ofWeight(1000, 9), 4001},
		{majority(9, 5), append(ofWeight(1000, 8), 999), 4001},
		{majority(9, 5), append(ofWeight(1000, 8), 0), 0},
		{majority(9, 9), ofWeight(1000, 9), 8001},
		{majority(9, 1), ofWeight(1000, 9), 1},
		{game(9, "8"), append(ofWeight(0, 8), 1), 1},
		{game(9, "8"), append(ofWeight(125, 8), 1000), 0},
		{game(9, "8"), append(ofWeight(124, 8), 1000), 993},
		{game(9, "01", "23", "45"), ofWeight(1, 9), 0},
	} {
		c := callOf("QuotaOfGame", impl.QuotaOfGame, x.g, x.weights)
		if x.quota == 0 {
			c.mustFail(t)
		} else {
			checkAnswer(t, c, x.quota)
		}
	}
}
