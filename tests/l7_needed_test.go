package tests

import (
	"slices"
	"testing"

	"loop.example/g01275/impl"
)

// TestKnownNeeds has games of one member and of MaxNeeded, games that have weights, and games that need two chambers.
func TestKnownNeeds(t *testing.T) {
	for word, texts := range map[string]string{
		"1;0":         "1:1",
		"2;0":         "1:1,0",
		"2;1":         "1:0,1",
		"2;01":        "2:1,1",
		"2;0.1":       "1:1,1",
		"3;01.02.12":  "2:1,1,1",
		"3;1":         "1:0,1,0",
		"4;01.02.123": "5:3,2,2,1",
		"4;0123":      "4:1,1,1,1",
		"4;3":         "1:0,0,0,1",
		// 4;0.23 is before 4;01.02.03.23, as it begins with a lesser set.
		"4;01.23": "2:2,0,1,1 4:1,3,2,2",
		"4;02.13": "2:2,1,0,1 4:1,2,3,2",
		"4;03.12": "2:2,1,1,0 4:1,2,2,3",
		// 4;0.1 is before 4;0.12.13, which differs in the second set.
		"4;02.03.12.13": "1:1,1,0,0 3:1,1,2,2",
		// 4;0.13.23 is before 4;0.3, which makes the game with the same one.
		"4;01.02.13.23": "3:3,1,1,2 3:1,2,2,1",
		"4;01.03.12.23": "3:3,1,2,1 3:1,2,1,2",
		// 4;01.03.12.13 is before 4;01.03.12.13.23, which makes the game with the same one, as it has no further set.
		"4;01.03.12": "2:2,1,1,0 4:2,3,1,2",
		"4;01.02.13": "2:2,1,0,1 4:2,3,2,1",
	} {
		g, want := gameOfWord(word), committees(t, texts)
		checkAnswer(t, callOf("ChambersNeeded", impl.ChambersNeeded, g), len(want))
		checkCommittees(t, callOf("ChambersOf", impl.ChambersOf, g), want)
	}
	for _, g := range []impl.Game{game(5, "014", "23"), game(5, "0"), game(6, "012345"), majority(9, 5)} {
		checkFails(t, callOf("ChambersNeeded", impl.ChambersNeeded, g), callOf("ChambersOf", impl.ChambersOf, g))
	}
}

// eachChoice shows all lists of so many different numbers less than n, increasing, in lexicographic order, until one is found.
func eachChoice(n, count int, begin []int, isFound func(choice []int) bool) bool {
	if count == 0 {
		return isFound(begin)
	}
	first := 0
	if len(begin) > 0 {
		first = begin[len(begin)-1] + 1
	}
	for i := first; i < n; i++ {
		if eachChoice(n, count-1, append(slices.Clone(begin), i), isFound) {
			return true
		}
	}
	return false
}

// weightedBallots are those of all games of so many members with weights, in the order of their least winning sets.
func weightedBallots(least map[ballot]impl.Committee, members int) []ballot {
	words := map[ballot][][]int{}
	var list []ballot
	for b := range least {
		words[b] = b.votes(members).told().Wins
		list = append(list, b)
	}
	slices.SortFunc(list, func(a, b ballot) int { return compareLists(words[a], words[b]) })
	return list
}

// TestAllNeeds goes for all games of at most MaxNeeded members through all lists of games with weights.
func TestAllNeeds(t *testing.T) {
	for members := 1; members <= 4; members++ {
		least := leastByWords(members)
		weighted := weightedBallots(least, members)
		needs := map[int]int{}
		for _, g := range smallGames(members) {
			whole := ballotOf(votesOfGame(g))
			var want []impl.Committee
			makesGame := func(choice []int) bool {
				want = nil
				together := ^ballot(0)
				for _, i := range choice {
					together &= weighted[i]
					want = append(want, least[weighted[i]])
				}
				return together == whole
			}
			for count := 1; !eachChoice(len(weighted), count, nil, makesGame); count++ {
			}
			checkAnswer(t, callOf("ChambersNeeded", impl.ChambersNeeded, g), len(want))
			checkCommittees(t, callOf("ChambersOf", impl.ChambersOf, g), want)
			checkGame(t, callOf("AllGame", impl.AllGame, want), g)
			needs[len(want)]++
		}
		if needs[1] != len(weighted) || needs[1]+needs[2] != []int{1, 4, 18, 166}[members-1] {
			t.Errorf("the test finds games of %d members that need so many chambers: %v", members, needs)
		}
	}
}

// TestChambersOfGamesMakeThem checks what the document promises of chambers: they are least committees of different games, in order, and none is needless.
func TestChambersOfGamesMakeThem(t *testing.T) {
	for _, g := range allSmallGames() {
		list, ok := impl.ChambersOf(g)
		if !ok || !impl.AreChambers(list) {
			t.Fatalf("ChambersOf(%v) = %v, %v", g, list, ok)
		}
		checkGame(t, callOf("AllGame", impl.AllGame, list), g)
		checkMembersOf(t, callOf("NeedlessChambers", impl.NeedlessChambers, list), nil)
		var games [][][]int
		for _, c := range list {
			checkAnswer(t, callOf("IsLeastCommittee", impl.IsLeastCommittee, c), true)
			games = append(games, votesOf(c).told().Wins)
		}
		for i := 1; i < len(games); i++ {
			if compareLists(games[i-1], games[i]) >= 0 {
				t.Fatalf("ChambersOf(%v) = %v is out of order", g, list)
			}
		}
		has, _ := impl.HasWeights(g)
		if has != (len(list) == 1) {
			t.Fatalf("ChambersOf(%v) = %v, HasWeights is %v", g, list, has)
		}
	}
}
