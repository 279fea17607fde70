package tests

import (
	"math/big"
	"slices"
	"strings"

	"loop.example/g01275/impl"
)

// A powerCount has for each member how many swings and how many pivots it has.
type powerCount struct {
	swings []int
	pivots []int
}

// countPowers goes from each set to each one with a member more, and counts in how many orders the members come so that this step is taken. The number of a set is the sum of 1<<k over its members.
func countPowers(members int, isWon func(number int) bool) powerCount {
	all := 1 << members
	before, behind := make([]int, all), make([]int, all)
	before[0], behind[all-1] = 1, 1
	for number := range all {
		for k := range members {
			if number>>k&1 == 0 {
				before[number|1<<k] += before[number]
				behind[all-1-number-1<<k] += behind[all-1-number]
			}
		}
	}
	count := powerCount{make([]int, members), make([]int, members)}
	for number := range all {
		for k := range members {
			if more := number | 1<<k; more != number && !isWon(number) && isWon(more) {
				count.swings[k]++
				count.pivots[k] += before[number] * behind[more]
			}
		}
	}
	return count
}

func powersOf(c impl.Committee) powerCount {
	sums := sumsOf(c.Weights)
	return countPowers(len(c.Weights), func(number int) bool { return sums[number] >= c.Quota })
}

// sumsOf has the weights together of the set with each number.
func sumsOf(weights []int) []int {
	sums := make([]int, 1<<len(weights))
	for number := range sums {
		for k, w := range weights {
			sums[number] += number >> k & 1 * w
		}
	}
	return sums
}

// heldBy returns the exact part that some members have of all numbers together.
func heldBy(numbers []int, members ...int) *big.Rat {
	held := 0
	for _, k := range members {
		held += numbers[k]
	}
	return big.NewRat(int64(held), int64(totalOf(numbers)))
}

// mergedByWords goes through all members: one that is not in the set stays, the first one that is has the weight of all that are.
func mergedByWords(c impl.Committee, set []int) impl.Committee {
	together := 0
	for _, k := range set {
		together += c.Weights[k]
	}
	merged := impl.Committee{Quota: c.Quota}
	for k, w := range c.Weights {
		if k == set[0] {
			merged.Weights = append(merged.Weights, together)
		} else if !slices.Contains(set, k) {
			merged.Weights = append(merged.Weights, w)
		}
	}
	return merged
}

// splitByWords goes through all members, too.
func splitByWords(c impl.Committee, k, part int) impl.Committee {
	split := impl.Committee{Quota: c.Quota}
	for i, w := range c.Weights {
		if i == k {
			split.Weights = append(split.Weights, part, w-part)
		} else {
			split.Weights = append(split.Weights, w)
		}
	}
	return split
}

func addedByWords(c impl.Committee, weight int) impl.Committee {
	return committee(c.Quota, append(slices.Clone(c.Weights), weight)...)
}

func givenByWords(c impl.Committee, from, to, weight int) impl.Committee {
	given := committee(c.Quota, slices.Clone(c.Weights)...)
	given.Weights[from] -= weight
	given.Weights[to] += weight
	return given
}

// isOneByLimits knows of the committee's numbers that they are from 0 on, together at least the Quota, and that this is at least 1.
func isOneByLimits(c impl.Committee) bool {
	return len(c.Weights) <= 9 && slices.Max(c.Weights) <= 1000
}

// isQuarrelWon reports whether a set wins if i and j quarrel.
func (v *votes) isQuarrelWon(set []int, i, j int) bool {
	return v.isWon(set) && !(slices.Contains(set, i) && slices.Contains(set, j))
}

// inDigits reads the numbers of one digit each.
func inDigits(digits string) []int {
	numbers := make([]int, len(digits))
	for i := range digits {
		numbers[i] = strings.IndexByte("0123456789", digits[i])
	}
	return numbers
}

// unionCommittees have unions whose weight is MaxWeight or one more, and members whose powers go up and down by unions.
func unionCommittees() []impl.Committee {
	return []impl.Committee{
		committee(900, 500, 500, 501, 0),
		committee(1001, 999, 1, 2, 0, 1000),
		committee(2, 1000, 1, 0),
		committee(700, 400, 300, 300, 301),
		committee(1200, 333, 333, 334, 335, 1, 0),
		committee(51, 40, 30, 20, 10),
		committee(7, 5, 4, 3, 2, 1),
		committee(11, 6, 5, 4, 3, 2, 1),
		committee(6, 2, 2, 2, 2, 1),
		committee(4, 2, 2, 2),
		committee(12, 4, 4, 4, 4),
		committee(15, 9, 8, 7, 1, 1, 1),
		committee(112, 112, 111, 111, 111, 111, 111, 111, 111, 111),
		committee(17, 8, 7, 6, 5, 4, 2, 1, 1),
	}
}

func unitedCommittees() []impl.Committee {
	return slices.Concat(manyCommittees(), rareCommittees(), unionCommittees())
}
