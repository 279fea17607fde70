package tests

import (
	"slices"
	"testing"

	"loop.example/g01275/impl"
)

func withOneMore(set []int, k int) []int {
	more := append(slices.Clone(set), k)
	slices.Sort(more)
	return more
}

func withoutOne(set []int, k int) []int {
	return slices.DeleteFunc(slices.Clone(set), func(i int) bool { return i == k })
}

// exchanged has j instead of i.
func exchanged(set []int, i, j int) []int { return withOneMore(withoutOne(set, i), j) }

func (v *votes) isWorth(i, j int) bool {
	for _, set := range v.sets {
		isWithBoth := slices.Contains(set, i) || slices.Contains(set, j)
		if !isWithBoth && v.isWon(withOneMore(set, j)) && !v.isWon(withOneMore(set, i)) {
			return false
		}
	}
	return true
}

// A desire has for each two members what the first one is for the second one: g for greater, e for equal, l for less, u for unlike.
type desire [][]byte

func (v *votes) desire() desire {
	d := make(desire, v.members)
	for i := range v.members {
		for j := range v.members {
			worth, back := v.isWorth(i, j), v.isWorth(j, i)
			word := byte('u')
			if worth && back {
				word = 'e'
			} else if worth {
				word = 'g'
			} else if back {
				word = 'l'
			}
			d[i] = append(d[i], word)
		}
	}
	return d
}

func (d desire) isComplete() bool {
	return !slices.ContainsFunc(d, func(row []byte) bool { return slices.Contains(row, 'u') })
}

// greatestFirst takes, again and again, all members than whom no other one that is left is greater.
func (d desire) greatestFirst() [][]int {
	var classes [][]int
	left := upTo(len(d))
	for len(left) > 0 {
		var class, rest []int
		for _, k := range left {
			if slices.ContainsFunc(left, func(j int) bool { return d[j][k] == 'g' }) {
				rest = append(rest, k)
			} else {
				class = append(class, k)
			}
		}
		classes = append(classes, class)
		left = rest
	}
	return classes
}

func (d desire) under(k int) []int {
	var under []int
	for j := range d {
		if d[j][k] == 'l' {
			under = append(under, j)
		}
	}
	return under
}

func (d desire) table() [][]int {
	var table [][]int
	for _, row := range d {
		var numbers []int
		for _, word := range row {
			n := 0
			if word == 'g' || word == 'e' {
				n = 1
			}
			numbers = append(numbers, n)
		}
		table = append(table, numbers)
	}
	return table
}

// isShifted reports whether a set, which wins or not, does not do so whoever leaves it (if it wins) or joins it (if not), and whichever one is replaced by a lesser (or greater) one.
func (v *votes) isShifted(set []int, d desire) bool {
	wins, word := v.isWon(set), byte('l')
	if wins {
		word = 'g'
	}
	for _, j := range v.others(set) {
		if !wins && !v.isWon(withOneMore(set, j)) {
			return false
		}
		for _, i := range set {
			if d[i][j] == word && v.isWon(exchanged(set, i, j)) == wins {
				return false
			}
		}
	}
	return !wins || !slices.ContainsFunc(set, func(i int) bool { return v.isWon(withoutOne(set, i)) })
}

func (v *votes) shifted(wins bool, d desire) [][]int {
	var list [][]int
	for i, set := range v.sets {
		if v.wins[i] == wins && v.isShifted(set, d) {
			list = append(list, set)
		}
	}
	return list
}

// A counted list of sets has for each member in how many of them it is: times 4 to the power of k for the member k, as no list has more than three.
type counted struct {
	sets [][]int
	of   int
}

// listsOfSets are all lists of so many winning (or losing) sets, in order, the same ones also.
func (v *votes) listsOfSets(wins bool, count int) []counted {
	lists := []counted{{}}
	for range count {
		var longer []counted
		for _, list := range lists {
			for i, set := range v.sets {
				last := len(list.sets) - 1
				if v.wins[i] != wins || last >= 0 && slices.Compare(set, list.sets[last]) < 0 {
					continue
				}
				of := list.of
				for _, k := range set {
					of += 1 << (2 * k)
				}
				longer = append(longer, counted{append(slices.Clone(list.sets), set), of})
			}
		}
		lists = longer
	}
	return lists
}

// eachTrade shows all trades of so many winning sets, in order, until one is found.
func (v *votes) eachTrade(count int, isFound func(impl.Trade) bool) bool {
	losing := v.listsOfSets(false, count)
	for _, w := range v.listsOfSets(true, count) {
		for _, l := range losing {
			if w.of == l.of && isFound(impl.Trade{Wins: w.sets, Loses: l.sets}) {
				return true
			}
		}
	}
	return false
}

func (v *votes) firstTrade(count int) (impl.Trade, bool) {
	var first impl.Trade
	ok := v.eachTrade(count, func(t impl.Trade) bool {
		first = t
		return true
	})
	return first, ok
}

// hasTrade reports whether there is a trade of two winning sets, of however many members: sets are told as sums of 1<<k for each member k, and each member that is in one of both alone may be in either losing one.
func (v *votes) hasTrade() bool {
	isWon := func(number int) bool { return v.wins[v.at[number]] }
	all := 1 << v.members
	for s := range all {
		for r := range s {
			if !isWon(s) || !isWon(r) {
				continue
			}
			for part := s ^ r; part > 0; part = (part - 1) & (s ^ r) {
				if !isWon(s&r|part) && !isWon(s&r|(s^r)&^part) {
					return true
				}
			}
		}
	}
	return false
}

func inOrderOfSets(a, b []int) [][]int {
	if slices.Compare(a, b) > 0 {
		a, b = b, a
	}
	return [][]int{a, b}
}

// swaps exchanges for each two winning sets each member of one for each one of the other.
func (v *votes) swaps() []impl.Trade {
	var list []impl.Trade
	won := v.listsOfSets(true, 1)
	for _, s := range won {
		for _, t := range won {
			first, second := s.sets[0], t.sets[0]
			for _, i := range first {
				for _, j := range second {
					if slices.Contains(second, i) || slices.Contains(first, j) {
						continue
					}
					one, other := exchanged(first, i, j), exchanged(second, j, i)
					if !v.isWon(one) && !v.isWon(other) {
						list = append(list, impl.Trade{Wins: inOrderOfSets(first, second), Loses: inOrderOfSets(one, other)})
					}
				}
			}
		}
	}
	return list
}

func compareTrades(a, b impl.Trade) int {
	if byWins := compareLists(a.Wins, b.Wins); byWins != 0 {
		return byWins
	}
	return compareLists(a.Loses, b.Loses)
}

// isSide reports whether the lists are sets that all win, or all lose, in order.
func (v *votes) isSide(lists [][]int, wins bool) bool {
	for i, list := range lists {
		at := slices.IndexFunc(v.sets, func(set []int) bool { return slices.Equal(set, list) })
		if at < 0 || v.wins[at] != wins || i > 0 && slices.Compare(lists[i-1], list) > 0 {
			return false
		}
	}
	return true
}

func (v *votes) isTrade(t impl.Trade) bool {
	if len(t.Wins) != 2 && len(t.Wins) != 3 || len(t.Wins) != len(t.Loses) || !v.isSide(t.Wins, true) || !v.isSide(t.Loses, false) {
		return false
	}
	wins, loses := slices.Concat(t.Wins...), slices.Concat(t.Loses...)
	slices.Sort(wins)
	slices.Sort(loses)
	return slices.Equal(wins, loses)
}

func trade(wins, loses [][]int) impl.Trade { return impl.Trade{Wins: wins, Loses: loses} }

func checkTrade(t *testing.T, c call, want impl.Trade) {
	t.Helper()
	out := c.results(t, c.values())
	if got := out[0].Interface().(impl.Trade); !out[1].Bool() || !sameSets(got.Wins, want.Wins) || !sameSets(got.Loses, want.Loses) {
		t.Fatalf("%v = %v, %v, want %v", c, got, out[1].Bool(), want)
	}
}

// checkFirst checks a trade, or that there is none.
func checkFirst(t *testing.T, c call, want impl.Trade, is bool) {
	t.Helper()
	if is {
		checkTrade(t, c, want)
		return
	}
	c.mustFail(t)
}

func checkSetsOf(t *testing.T, c call, want [][]int) {
	t.Helper()
	out := c.results(t, c.values())
	if got := out[0].Interface().([][]int); !out[1].Bool() || !sameSets(got, want) {
		t.Fatalf("%v = %v, %v, want %v", c, got, out[1].Bool(), want)
	}
}

// isAbove reports whether a set has, of each number of first members, at least as many as another one.
func isAbove(set, other []int, members int) bool {
	of := func(set []int, first int) int {
		count := 0
		for _, k := range set {
			if k < first {
				count++
			}
		}
		return count
	}
	for first := range members + 1 {
		if of(set, first) < of(other, first) {
			return false
		}
	}
	return true
}

// chooseAbove shows all choices of numbers less than len(above), each with all numbers that are above it, which are less.
func chooseAbove(above [][]int, chosen []bool, see func(chosen []bool)) {
	next := len(chosen)
	if next == len(above) {
		see(chosen)
		return
	}
	chooseAbove(above, append(slices.Clone(chosen), false), see)
	if !slices.ContainsFunc(above[next], func(i int) bool { return !chosen[i] }) {
		chooseAbove(above, append(slices.Clone(chosen), true), see)
	}
}

// falling are the games of so many members in which each one is worth all behind it: a set may win if all sets win that are above it.
func falling(members int) []impl.Game {
	all := newVotes(members, func([]int) bool { return false }).sets[1:]
	height := func(set []int) int {
		sum := 0
		for _, k := range set {
			sum += members - k
		}
		return sum
	}
	// A set that is above another one has more height.
	slices.SortStableFunc(all, func(a, b []int) int { return height(b) - height(a) })
	var above [][]int
	for i, set := range all {
		var list []int
		for j, other := range all[:i] {
			if isAbove(other, set, members) {
				list = append(list, j)
			}
		}
		above = append(above, list)
	}
	var games []impl.Game
	chooseAbove(above, nil, func(chosen []bool) {
		var won [][]int
		for i, is := range chosen {
			if is {
				won = append(won, all[i])
			}
		}
		if len(won) > 0 {
			games = append(games, votesOfSets(members, won).told())
		}
	})
	return games
}

// fiveMembers are all games of five members, or each one of so many.
func fiveMembers(each int) []impl.Game {
	var games []impl.Game
	for i, b := range ballotsOf(5) {
		if i%each == 0 {
			games = append(games, b.votes(5).told())
		}
	}
	return games
}

// sixMembers are made by a rule that gives the same ones each time: of few sets and of many, some of them of games with weights in which a set or two win or lose otherwise.
func sixMembers(count int) []impl.Game {
	var games []impl.Game
	z := lot(823)
	for i := range count {
		c := z.committee(6, []int{1, 3, 9, 40}[z.below(4)])
		v := votesOf(c)
		if i%2 == 0 {
			v = newVotes(6, func([]int) bool { return false })
		}
		won := v.leastWon()
		for range 1 + z.below(4) {
			set := []int{}
			for k := range 6 {
				if z.below(2) == 0 {
					set = append(set, k)
				}
			}
			if len(set) == 0 {
				set = append(set, z.below(6))
			}
			won = append(won, set)
		}
		games = append(games, votesOfSets(6, won).told())
	}
	return games
}

// squareGame has nine members in three rows, with weights of which only those of a row or of a column are together 37: rows win, as all sets with more do, columns lose.
func squareGame() impl.Game {
	weights := []int{5, 19, 13, 20, 2, 15, 12, 16, 9}
	rows := sets("012", "345", "678")
	return newVotes(9, func(set []int) bool {
		sum := 0
		for _, k := range set {
			sum += weights[k]
		}
		return sum > 37 || slices.ContainsFunc(rows, func(row []int) bool { return slices.Equal(row, set) })
	}).told()
}

func worthCalls(g impl.Game, i, j int) []call {
	return []call{
		callOf("IsWorth", impl.IsWorth, g, i, j),
		callOf("AreUnlike", impl.AreUnlike, g, i, j),
	}
}

// tradeCalls are the calls that look for trades of two sets.
func tradeCalls(g impl.Game) []call {
	return []call{
		callOf("StandsSwaps", impl.StandsSwaps, g),
		callOf("StandsTrades", impl.StandsTrades, g),
	}
}

// chapter8Calls has each function of the chapter, with other arguments that fit every game of two members.
func chapter8Calls(g impl.Game, t impl.Trade) []call {
	return slices.Concat(worthCalls(g, 0, 1), tradeCalls(g), []call{
		callOf("CompareMembers", impl.CompareMembers, g, 0, 1),
		callOf("IsComplete", impl.IsComplete, g),
		callOf("ClassesOf", impl.ClassesOf, g),
		callOf("OrderOfWorth", impl.OrderOfWorth, g),
		callOf("ShiftLeast", impl.ShiftLeast, g),
		callOf("ShiftGreatest", impl.ShiftGreatest, g),
		callOf("FirstSwap", impl.FirstSwap, g),
		callOf("FirstTrade", impl.FirstTrade, g),
		callOf("FirstTradeOfThree", impl.FirstTradeOfThree, g),
		callOf("IsTrade", impl.IsTrade, g, t),
		callOf("UnderMembers", impl.UnderMembers, g, 0),
		callOf("WorthTable", impl.WorthTable, g),
	})
}
