package tests

import (
	"math"
	"slices"
	"testing"

	"loop.example/g01275/impl"
)

func committee(quota int, weights ...int) impl.Committee {
	return impl.Committee{Quota: quota, Weights: weights}
}

func ofWeight(weight int, members int) []int {
	return slices.Repeat([]int{weight}, members)
}

func sameCommittee(a, b impl.Committee) bool {
	return a.Quota == b.Quota && slices.Equal(a.Weights, b.Weights)
}

// sameSets tells nil from no empty list.
func sameSets(a, b [][]int) bool {
	return slices.EqualFunc(a, b, slices.Equal[[]int])
}

// invalidCommittees are none, each for one reason; some have sums that only look right if numbers run over.
func invalidCommittees() []impl.Committee {
	return []impl.Committee{
		{},
		committee(0),
		committee(1),
		committee(0, 1),
		committee(-1, 1),
		committee(math.MinInt, 1),
		committee(2, 1),
		committee(math.MaxInt, 1),
		committee(9, 3, 2, 2, 1),
		committee(0, 3, 2, 2, 1),
		committee(0, 0),
		committee(1, 0),
		committee(1, 0, 0, 0),
		committee(1, ofWeight(1, 10)...),
		committee(1, ofWeight(0, 10)...),
		committee(1, -1),
		committee(1, 2, -1),
		committee(1, -1, 2),
		committee(1, 2, 2, -1, 2),
		committee(1, 1001),
		committee(1001, 1001),
		committee(1, 1, 1, 1001),
		committee(9001, ofWeight(1000, 9)...),
		committee(1, math.MaxInt),
		committee(math.MaxInt, math.MaxInt),
		committee(math.MaxInt, math.MaxInt, 1),
		committee(1, math.MaxInt, math.MaxInt, 3),
		committee(1, math.MinInt),
		committee(1, math.MinInt, math.MinInt, 1),
		committee(1, math.MinInt, math.MaxInt, 2),
		committee(1, 1<<32+1),
		committee(1<<32+1, 1),
		committee(math.MinInt, math.MinInt),
	}
}

// validCommittees meet each limit of the document, some exactly.
func validCommittees() []impl.Committee {
	return []impl.Committee{
		committee(5, 3, 2, 2, 1),
		committee(4, 4, 1, 1),
		committee(5, 4, 1, 1),
		committee(1, 1),
		committee(1, 1000),
		committee(1000, 1000),
		committee(1, 0, 1),
		committee(1, 1, 0, 0),
		committee(1, 0, 0, 0, 0, 0, 0, 0, 0, 1),
		committee(8, 3, 2, 2, 1),
		committee(1, 3, 2, 2, 1),
		committee(1, 3, 0, 2, 0),
		committee(5, 3, 0, 2, 0),
		committee(1, ofWeight(1, 9)...),
		committee(5, ofWeight(1, 9)...),
		committee(9, ofWeight(1, 9)...),
		committee(1, ofWeight(1000, 9)...),
		committee(9000, ofWeight(1000, 9)...),
		committee(8999, ofWeight(1000, 9)...),
		committee(4, 2, 2, 1, 1),
		committee(51, 50, 49, 1),
		committee(3, 1, 1, 1, 0, 3),
	}
}

// smallCommittees are all of at most four members with low weights, and each Quota.
func smallCommittees() []impl.Committee {
	var list []impl.Committee
	for members, most := range []int{0, 4, 4, 3, 2} {
		weights := make([]int, members)
		for {
			sum := 0
			for _, w := range weights {
				sum += w
			}
			for quota := 1; quota <= sum; quota++ {
				list = append(list, committee(quota, slices.Clone(weights)...))
			}
			k := 0
			for k < members && weights[k] == most {
				weights[k] = 0
				k++
			}
			if k == members {
				break
			}
			weights[k]++
		}
	}
	return list
}

// mixedCommittees are made by a rule that gives the same ones each time: up to nine members, and weights of each size.
func mixedCommittees() []impl.Committee {
	var list []impl.Committee
	z := uint32(2026)
	next := func(below int) int {
		z = z*1664525 + 1013904223
		return int(z>>8) % below
	}
	for i := range 60 {
		most := []int{2, 7, 40, 1001}[i%4]
		c := impl.Committee{}
		sum := 0
		for range 4 + i%6 {
			w := next(most)
			c.Weights = append(c.Weights, w)
			sum += w
		}
		if sum > 0 {
			c.Quota = 1 + next(sum)
			list = append(list, c)
		}
	}
	return list
}

func manyCommittees() []impl.Committee {
	return slices.Concat(validCommittees(), smallCommittees(), mixedCommittees())
}

// votes has all sets of some members in order, and which of them win: found from the document's words, without the program.
type votes struct {
	members int
	sets    [][]int
	wins    []bool
	at      [1 << impl.MaxMembers]int
}

func newVotes(members int, isWon func(set []int) bool) *votes {
	v := &votes{members: members}
	for mask := range 1 << members {
		var set []int
		for k := range members {
			if mask>>k&1 == 1 {
				set = append(set, k)
			}
		}
		v.sets = append(v.sets, set)
	}
	slices.SortFunc(v.sets, slices.Compare[[]int])
	for i, set := range v.sets {
		mask := 0
		for _, k := range set {
			mask += 1 << k
		}
		v.wins = append(v.wins, isWon(set))
		v.at[mask] = i
	}
	return v
}

func votesOf(c impl.Committee) *votes {
	return newVotes(len(c.Weights), func(set []int) bool {
		sum := 0
		for _, k := range set {
			sum += c.Weights[k]
		}
		return sum >= c.Quota
	})
}

func (v *votes) isWon(set []int) bool {
	mask := 0
	for _, k := range set {
		mask += 1 << k
	}
	return v.wins[v.at[mask]]
}

func (v *votes) others(set []int) []int {
	var out []int
	for k := range v.members {
		if !slices.Contains(set, k) {
			out = append(out, k)
		}
	}
	return out
}

func (v *votes) blocks(set []int) bool { return !v.isWon(v.others(set)) }

// leastThat returns, in order, the sets of a kind of which no smaller part is of that kind.
func (v *votes) leastThat(is func([]int) bool) [][]int {
	var out [][]int
	for _, s := range v.sets {
		if is(s) && !slices.ContainsFunc(v.sets, func(part []int) bool {
			return len(part) < len(s) && isPart(part, s) && is(part)
		}) {
			out = append(out, s)
		}
	}
	return out
}

// greatestThat returns, in order, the sets of a kind that are part of no larger one of that kind.
func (v *votes) greatestThat(is func([]int) bool) [][]int {
	var out [][]int
	for _, s := range v.sets {
		if is(s) && !slices.ContainsFunc(v.sets, func(more []int) bool {
			return len(more) > len(s) && isPart(s, more) && is(more)
		}) {
			out = append(out, s)
		}
	}
	return out
}

func isPart(part, of []int) bool {
	for _, k := range part {
		if !slices.Contains(of, k) {
			return false
		}
	}
	return true
}

func (v *votes) countWinning(size int) int {
	count := 0
	for i, s := range v.sets {
		if v.wins[i] && (size < 0 || len(s) == size) {
			count++
		}
	}
	return count
}

func (v *votes) isProper() bool {
	for i, s := range v.sets {
		for j, r := range v.sets {
			if v.wins[i] && v.wins[j] && !slices.ContainsFunc(s, func(k int) bool { return slices.Contains(r, k) }) {
				return false
			}
		}
	}
	return true
}

func (v *votes) isStrong() bool {
	for i, s := range v.sets {
		if !v.wins[i] && !v.isWon(v.others(s)) {
			return false
		}
	}
	return true
}

func (v *votes) membersThat(is func(k int) bool) []int {
	var out []int
	for k := range v.members {
		if is(k) {
			out = append(out, k)
		}
	}
	return out
}

func mustParse(t *testing.T, s string) impl.Committee {
	t.Helper()
	c, ok := impl.ParseCommittee(s)
	if !ok {
		t.Fatalf("ParseCommittee(%q) fails", s)
	}
	return c
}
