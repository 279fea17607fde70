package tests

import (
	"slices"
	"strings"
	"testing"

	"loop.example/g01275/impl"
)

// committees takes CommitteeTexts with blanks between them.
func committees(t *testing.T, texts string) []impl.Committee {
	t.Helper()
	list := []impl.Committee{}
	for _, text := range strings.Fields(texts) {
		list = append(list, mustParse(t, text))
	}
	return list
}

// gameOfWord takes what word gives.
func gameOfWord(word string) impl.Game {
	return game(int(word[0]-'0'), strings.Split(word[2:], ".")...)
}

// winsIn counts the committees of the same members in which a set wins.
func winsIn(list []impl.Committee, set []int) int {
	count := 0
	for _, c := range list {
		sum := 0
		for _, k := range set {
			sum += c.Weights[k]
		}
		if sum >= c.Quota {
			count++
		}
	}
	return count
}

func votesOfAll(list []impl.Committee) *votes {
	return newVotes(len(list[0].Weights), func(set []int) bool { return winsIn(list, set) == len(list) })
}

func votesOfSome(list []impl.Committee) *votes {
	return newVotes(len(list[0].Weights), func(set []int) bool { return winsIn(list, set) > 0 })
}

// needlessByWords leaves out each chamber of two or more.
func needlessByWords(list []impl.Committee) []int {
	var needless []int
	for i := range list {
		others := slices.Delete(slices.Clone(list), i, i+1)
		if len(others) > 0 && slices.Equal(votesOfAll(others).wins, votesOfAll(list).wins) {
			needless = append(needless, i)
		}
	}
	return needless
}

// countSwingsOf counts the swings of each member.
func (v *votes) countSwingsOf() []int {
	var swings []int
	for k := range v.members {
		swings = append(swings, len(v.swingsByWords(k)))
	}
	return swings
}

// knownChambers meet the limits of the document.
func knownChambers() [][]impl.Committee {
	nine := ofWeight(1, 9)
	return [][]impl.Committee{
		{committee(2, 1, 1, 0, 0), committee(2, 0, 0, 1, 1)},
		{committee(1, 1)},
		{committee(1, 1), committee(5, 9), committee(1000, 1000), committee(1, 2)},
		{committee(1, 1, 0), committee(1, 0, 1)},
		{committee(3, 1, 1, 1), committee(1, 1, 1, 1), committee(2, 1, 1, 1)},
		{committee(2, 0, 1, 1), committee(2, 1, 0, 1), committee(2, 1, 1, 0)},
		{committee(1, 1, 0, 0, 0), committee(1, 0, 1, 0, 0), committee(1, 0, 0, 1, 0), committee(1, 0, 0, 0, 1)},
		{committee(4, 4, 1, 1), committee(2, 0, 1, 1)},
		{committee(4, 4, 1, 1), committee(4, 1, 4, 1), committee(4, 1, 1, 4), committee(1, 1, 1, 1)},
		{committee(1, nine...), committee(5, nine...), committee(9, nine...), committee(4, nine...)},
		{committee(9000, ofWeight(1000, 9)...), committee(1, 0, 0, 0, 0, 0, 0, 0, 0, 1)},
		{committee(1, 0, 0, 0, 0, 0, 0, 0, 0, 1), committee(1, 1, 0, 0, 0, 0, 0, 0, 0, 0)},
	}
}

// A lot gives numbers by a rule, the same ones each time.
type lot uint32

func (z *lot) below(n int) int {
	*z = *z*1664525 + 1013904223
	return int(*z>>8) % n
}

// committee gives some of so many members whose weights are at most most.
func (z *lot) committee(members, most int) impl.Committee {
	c := impl.Committee{}
	for range members {
		c.Weights = append(c.Weights, z.below(most+1))
	}
	if totalOf(c.Weights) == 0 {
		c.Weights[z.below(members)] = 1
	}
	c.Quota = 1 + z.below(totalOf(c.Weights))
	return c
}

// mixedChambers have each number of chambers and of members; some are the same, or have another quota alone.
func mixedChambers() [][]impl.Committee {
	var lists [][]impl.Committee
	z := lot(717)
	for i := range 216 {
		members := 1 + i%9
		list := []impl.Committee{z.committee(members, []int{1, 3, 9, 1000}[z.below(4)])}
		for len(list) < 1+i/9%4 {
			more := z.committee(members, []int{1, 3, 9, 1000}[z.below(4)])
			if z.below(3) == 0 {
				more = list[z.below(len(list))]
			}
			if z.below(3) == 0 {
				more = committee(1+z.below(totalOf(more.Weights)), more.Weights...)
			}
			list = append(list, more)
		}
		lists = append(lists, list)
	}
	return lists
}

// smallPairs are all pairs of chambers of at most three members with weights of 0 and 1, and some of other small committees.
func smallPairs() [][]impl.Committee {
	var lists [][]impl.Committee
	small := smallCommittees()
	for i, c := range small {
		for j, d := range small {
			isLow := len(c.Weights) <= 3 && slices.Max(c.Weights) == 1 && slices.Max(d.Weights) == 1
			if len(c.Weights) == len(d.Weights) && (isLow || (i*31+j*17)%1009 == 0) {
				lists = append(lists, []impl.Committee{c, d})
			}
		}
	}
	return lists
}

func manyChambers() [][]impl.Committee {
	lists := slices.Concat(knownChambers(), mixedChambers(), smallPairs())
	for _, c := range manyCommittees() {
		lists = append(lists, []impl.Committee{c})
	}
	return lists
}

// A council has an outer committee and one inner one for each member of it.
type council struct {
	outer  impl.Committee
	inners []impl.Committee
}

func (x council) members() int {
	count := 0
	for _, inner := range x.inners {
		count += len(inner.Weights)
	}
	return count
}

// partsOf tells a set of the members of all inner committees by its part of each one.
func (x council) partsOf(set []int) [][]int {
	parts := [][]int{}
	first := 0
	for _, inner := range x.inners {
		part := []int{}
		for k := range inner.Weights {
			if slices.Contains(set, first+k) {
				part = append(part, k)
			}
		}
		parts = append(parts, part)
		first += len(inner.Weights)
	}
	return parts
}

func (x council) isWon(set []int) bool {
	sum := 0
	for i, part := range x.partsOf(set) {
		if winsIn(x.inners[i:i+1], part) == 1 {
			sum += x.outer.Weights[i]
		}
	}
	return sum >= x.outer.Quota
}

func (x council) votes() *votes { return newVotes(x.members(), x.isWon) }

// manyCouncils have one member up to MaxMembers.
func manyCouncils() []council {
	one, nine := committee(1, 1), ofWeight(1, 9)
	list := []council{
		{one, []impl.Committee{one}},
		{committee(7, 9), []impl.Committee{committee(1000, 1000)}},
		{one, []impl.Committee{committee(5, nine...)}},
		{committee(5, nine...), slices.Repeat([]impl.Committee{one}, 9)},
		{committee(2, 1, 1, 1), slices.Repeat([]impl.Committee{committee(2, 1, 1, 1)}, 3)},
		{committee(1, 0, 1), []impl.Committee{committee(1, 1, 1, 1, 1, 1, 1, 1, 1), one}},
		{committee(1, 0, 1), []impl.Committee{one, committee(8, 1, 1, 1, 1, 1, 1, 1, 1)}},
	}
	inners := []impl.Committee{one, committee(1, 1, 1), committee(2, 1, 1), committee(1, 0, 1), committee(5, 3, 2, 2, 1)}
	for _, outer := range smallCommittees() {
		switch len(outer.Weights) {
		case 1:
			for _, i := range inners {
				list = append(list, council{outer, []impl.Committee{i}})
			}
		case 2:
			for _, i := range inners {
				for _, j := range inners {
					list = append(list, council{outer, []impl.Committee{i, j}})
				}
			}
		}
	}
	z := lot(722)
	for i := range 240 {
		members := 1 + i%9
		x := council{}
		for x.members() < members {
			x.inners = append(x.inners, z.committee(1+z.below(min(4, members-x.members())), []int{1, 3, 9, 1000}[z.below(4)]))
		}
		x.outer = z.committee(len(x.inners), []int{1, 3, 9, 1000}[z.below(4)])
		list = append(list, x)
	}
	return list
}

func (x council) calls(sets [][]int) []call {
	return []call{
		callOf("CouncilGame", impl.CouncilGame, x.outer, x.inners),
		callOf("WinsCouncil", impl.WinsCouncil, x.outer, x.inners, sets),
		callOf("CouncilPowers", impl.CouncilPowers, x.outer, x.inners),
		callOf("CountCouncilWins", impl.CountCouncilWins, x.outer, x.inners),
	}
}

// checkNone checks that a council is none, and that all functions for councils fail.
func (x council) checkNone(t *testing.T, sets [][]int) {
	t.Helper()
	checkFails(t, callOf("AreCouncil", impl.AreCouncil, x.outer, x.inners))
	checkFails(t, x.calls(sets)...)
}

func chamberCalls(list []impl.Committee, set []int) []call {
	return []call{
		callOf("WinsAll", impl.WinsAll, list, set),
		callOf("WinsSome", impl.WinsSome, list, set),
		callOf("AllGame", impl.AllGame, list),
		callOf("SomeGame", impl.SomeGame, list),
		callOf("NeedlessChambers", impl.NeedlessChambers, list),
		callOf("SwingsOfChambers", impl.SwingsOfChambers, list),
	}
}

// checkNoChambers checks that a list is none, and that all functions for chambers fail.
func checkNoChambers(t *testing.T, list []impl.Committee) {
	t.Helper()
	checkFails(t, callOf("AreChambers", impl.AreChambers, list))
	checkFails(t, chamberCalls(list, nil)...)
	checkFails(t, chamberCalls(list, []int{0})...)
}

func checkCommittees(t *testing.T, c call, want []impl.Committee) {
	t.Helper()
	out := c.results(t, c.values())
	if got := out[0].Interface().([]impl.Committee); !out[1].Bool() || !slices.EqualFunc(got, want, sameCommittee) {
		t.Fatalf("%v = %v, %v, want %v", c, got, out[1].Bool(), want)
	}
}

func checkSharesOf(t *testing.T, c call, want []impl.Share) {
	t.Helper()
	out := c.results(t, c.values())
	if got := out[0].Interface().([]impl.Share); !out[1].Bool() || !slices.Equal(got, want) {
		t.Fatalf("%v = %v, %v, want %v", c, got, out[1].Bool(), want)
	}
}

func checkPlace(t *testing.T, inners []impl.Committee, k, which, member int) {
	t.Helper()
	if i, j, ok := impl.PlaceInCouncil(inners, k); !ok || i != which || j != member {
		t.Fatalf("PlaceInCouncil(%v, %d) = %d, %d, %v, want %d, %d", inners, k, i, j, ok, which, member)
	}
}
