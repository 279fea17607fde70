package tests

import (
	"math"
	"slices"
	"strings"
	"testing"

	"loop.example/g01275/impl"
)

// sets takes each set as its digits.
func sets(words ...string) [][]int {
	list := [][]int{}
	for _, word := range words {
		set := []int{}
		for _, r := range word {
			set = append(set, int(r-'0'))
		}
		list = append(list, set)
	}
	return list
}

func game(members int, words ...string) impl.Game {
	return impl.Game{Members: members, Wins: sets(words...)}
}

func gameOfLists(members int, lists ...[]int) impl.Game {
	return impl.Game{Members: members, Wins: lists}
}

func sameGame(a, b impl.Game) bool { return a.Members == b.Members && sameSets(a.Wins, b.Wins) }

// wonBy reports whether a set has all members of one of these.
func wonBy(set []int, least [][]int) bool {
	return slices.ContainsFunc(least, func(part []int) bool { return isPart(part, set) })
}

func votesOfSets(members int, least [][]int) *votes {
	return newVotes(members, func(set []int) bool { return wonBy(set, least) })
}

func votesOfGame(g impl.Game) *votes { return votesOfSets(g.Members, g.Wins) }

// told returns the game in which the same sets win.
func (v *votes) told() impl.Game { return impl.Game{Members: v.members, Wins: v.leastWon()} }

// majority returns the game in which so many of all members are needed.
func majority(members, need int) impl.Game {
	return newVotes(members, func(set []int) bool { return len(set) >= need }).told()
}

// knownGames meet the limits of the document.
func knownGames() []impl.Game {
	return []impl.Game{
		game(1, "0"),
		game(2, "0"), game(2, "1"), game(2, "01"), game(2, "0", "1"),
		game(3, "01", "02", "12"), game(3, "0", "12"), game(3, "1"), game(3, "0", "1", "2"),
		game(4, "01", "02", "123"), game(4, "01", "02", "03", "12"), game(4, "01", "23"), game(4, "02", "03", "12", "13"), game(4, "0123"), game(4, "3"),
		game(5, "014", "23"), game(5, "0", "1234"), game(5, "12", "14"),
		game(6, "012345"), game(6, "5"), game(6, "0", "1", "2", "3", "4", "5"), game(6, "05", "14", "23"), majority(6, 3),
		game(7, "0123456"), game(7, "013", "026", "045", "124", "156", "235", "346"), majority(7, 4),
		game(8, "01", "23", "45", "67"),
		game(9, "012345678"), game(9, "8"), game(9, "0"), game(9, "4"), game(9, "0", "1", "2", "3", "4", "5", "6", "7", "8"),
		game(9, "012", "345", "678"), game(9, "0", "12345678"), game(9, "07", "17", "27"), majority(9, 4), majority(9, 5), majority(9, 8),
	}
}

// smallGames are all of so many members, at most four: the lists of winning sets that are lost by no set that has all of one of them.
func smallGames(members int) []impl.Game {
	var games []impl.Game
	masks := 1 << members
	for family := range 1 << masks {
		isMonotone := true
		for s := range masks {
			for k := range members {
				isMonotone = isMonotone && (family>>s&1 == 0 || family>>(s|1<<k)&1 == 1)
			}
		}
		if !isMonotone || family&1 == 1 || family == 0 {
			continue
		}
		games = append(games, newVotes(members, func(set []int) bool {
			mask := 0
			for _, k := range set {
				mask |= 1 << k
			}
			return family>>mask&1 == 1
		}).told())
	}
	return games
}

func allSmallGames() []impl.Game {
	return slices.Concat(smallGames(1), smallGames(2), smallGames(3), smallGames(4))
}

// A given has sets of members of which a game can be made.
type given struct {
	members int
	sets    [][]int
}

// mixedSets are made by a rule that gives the same ones each time: of each number of members, and few sets to 50 of them.
func mixedSets() []given {
	var list []given
	z := uint32(1119)
	next := func(below int) int {
		z = z*1664525 + 1013904223
		return int(z>>8) % below
	}
	for i := range 90 {
		g := given{members: 1 + i%9}
		count := []int{1 + next(4), 3 + next(8), 10 + next(41), 50}[i%4]
		most := []int{2, 3, 5, 9}[next(4)]
		for range count {
			set := []int{}
			for k := range g.members {
				if len(set) < most && next(g.members) < most {
					set = append(set, k)
				}
			}
			if len(set) == 0 {
				set = append(set, next(g.members))
			}
			g.sets = append(g.sets, set)
		}
		list = append(list, g)
	}
	return list
}

func mixedGames() []impl.Game {
	var games []impl.Game
	for _, x := range mixedSets() {
		games = append(games, votesOfSets(x.members, x.sets).told())
	}
	return games
}

func manyGames() []impl.Game { return slices.Concat(knownGames(), allSmallGames(), mixedGames()) }

// invalidGames are none, each for one reason; some have numbers that only look right if bits run over.
func invalidGames() []impl.Game {
	return []impl.Game{
		{}, game(1), game(4), game(9), {Members: 4, Wins: [][]int{}},
		game(0), game(0, "0"), game(0, ""), game(-1, "0"), game(10, "0"), game(10, "9"), game(10, "0123456789"), game(64, "0"), game(math.MaxInt, "0"), game(math.MinInt, "0"), game(1<<32+4, "0"),
		// an empty set
		game(1, ""), game(4, ""), game(4, "", "01"), game(4, "01", ""), game(4, "01", "", "23"), gameOfLists(4, nil), gameOfLists(4, nil, []int{0}),
		// out of order
		game(2, "1", "0"), game(4, "02", "01", "123"), game(4, "01", "123", "02"), game(4, "123", "01", "02"), game(4, "23", "01"), game(4, "12", "013"), game(9, "8", "0"), game(4, "02", "013"),
		// the same set twice
		game(1, "0", "0"), game(4, "01", "01"), game(4, "01", "02", "02"), game(4, "01", "23", "01"), game(4, "0123", "0123"),
		// all members of another one
		game(2, "0", "01"), game(2, "01", "1"), game(4, "01", "012"), game(4, "012", "02"), game(4, "01", "0123", "23"), game(4, "01", "02", "023", "123"), game(4, "0123", "3"), game(9, "012345678", "8"), game(4, "0", "01", "012"), game(5, "014", "02", "13", "134"),
		// lists that are no sets
		game(4, "10"), game(4, "01", "20"), game(4, "00"), game(4, "011"), game(4, "0", "11"), game(4, "021"), game(4, "3210"),
		// members that there are not
		game(1, "1"), game(4, "4"), game(4, "01", "24"), game(4, "01", "4"), game(3, "01", "02", "123"), game(8, "8"), game(9, "9"),
		gameOfLists(4, []int{-1}), gameOfLists(4, []int{-1, 0}), gameOfLists(4, []int{0, -1}), gameOfLists(4, []int{0, 64}), gameOfLists(4, []int{64}), gameOfLists(4, []int{0}, []int{67}),
		gameOfLists(4, []int{math.MaxInt}), gameOfLists(4, []int{math.MinInt}), gameOfLists(4, []int{0, math.MaxInt}), gameOfLists(4, []int{1 << 32}), gameOfLists(4, []int{0, 1<<32 + 1}), gameOfLists(9, upTo(10)), gameOfLists(9, upTo(5000)),
		{Members: 4, Wins: make([][]int, 5000)}, {Members: 9, Wins: slices.Repeat([][]int{{0}}, 5000)}, {Members: 9, Wins: votesOf(committee(1, ofWeight(1, 9)...)).sets}, {Members: 9, Wins: votesOf(committee(1, ofWeight(1, 9)...)).sets[1:]},
	}
}

// word tells a game in the way of a GameText.
func word(g impl.Game) string {
	var words []string
	for _, set := range g.Wins {
		digits := ""
		for _, k := range set {
			digits += string(rune('0' + k))
		}
		words = append(words, digits)
	}
	return string(rune('0'+g.Members)) + ";" + strings.Join(words, ".")
}

func checkGame(t *testing.T, c call, want impl.Game) {
	t.Helper()
	out := c.results(t, c.values())
	if got := out[0].Interface().(impl.Game); !out[1].Bool() || !sameGame(got, want) {
		t.Fatalf("%v = %v, %v, want %v", c, got, out[1].Bool(), want)
	}
}

// checkAnswer compares a number or a bool, and checks that the call succeeds.
func checkAnswer[T comparable](t *testing.T, c call, want T) {
	t.Helper()
	out := c.results(t, c.values())
	if got := out[0].Interface().(T); !out[1].Bool() || got != want {
		t.Fatalf("%v = %v, %v, want %v", c, got, out[1].Bool(), want)
	}
}

func checkMembersOf(t *testing.T, c call, want []int) {
	t.Helper()
	out := c.results(t, c.values())
	if got := out[0].Interface().([]int); !out[1].Bool() || !slices.Equal(got, want) {
		t.Fatalf("%v = %v, %v, want %v", c, got, out[1].Bool(), want)
	}
}
