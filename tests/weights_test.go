package tests

import (
	"slices"
	"testing"

	"loop.example/g01275/impl"
)

func checkCommittee(t *testing.T, c call, want impl.Committee) {
	t.Helper()
	out := c.results(t, c.values())
	if got := out[0].Interface().(impl.Committee); !out[1].Bool() || !sameCommittee(got, want) {
		t.Fatalf("%v = %v, %v, want %v", c, got, out[1].Bool(), want)
	}
}

func checkFails(t *testing.T, calls ...call) {
	t.Helper()
	for _, c := range calls {
		c.mustFail(t)
	}
}

// A ballot tells all winning sets of at most five members: the bit with the number of a set (each member k adds 1<<k to it) is 1 if the set wins.
type ballot uint32

func (b ballot) isWon(number int) bool { return b>>number&1 == 1 }

// votes goes back to the lists of sets.
func (b ballot) votes(members int) *votes {
	return newVotes(members, func(set []int) bool {
		number := 0
		for _, k := range set {
			number |= 1 << k
		}
		return b.isWon(number)
	})
}

func ballotOf(v *votes) ballot {
	var b ballot
	for number := range len(v.sets) {
		if v.wins[v.at[number]] {
			b |= 1 << number
		}
	}
	return b
}

// ballotsOf has the ballots of all games of so many members, at most five.
func ballotsOf(members int) []ballot {
	var list []ballot
	if members < 5 {
		for _, g := range smallGames(members) {
			list = append(list, ballotOf(votesOfGame(g)))
		}
		return list
	}
	// A set wins with the last member if it wins without it, and perhaps some other ones do.
	rest := append(ballotsOf(4), 0, 1<<16-1)
	for _, without := range rest {
		for _, with := range rest {
			// No members at all lose, and all together win.
			if without&^with == 0 && !without.isWon(0) && with != 0 {
				list = append(list, without|with<<16)
			}
		}
	}
	return list
}

// hasTrade reports whether there are two winning and two losing sets such that each member is in as many of these as of those: weights of any size would have to be together both more and less for these than for those.
func (b ballot) hasTrade(members int) bool {
	all := 1 << members
	for s := range all {
		for t := range all {
			if !b.isWon(s) || !b.isWon(t) {
				continue
			}
			for l := range all {
				m := s&t | (s^t)&^l
				if l&m == s&t && l|m == s|t && !b.isWon(l) && !b.isWon(m) {
					return true
				}
			}
		}
	}
	return false
}

// eachSharingOut shows all weights of so many members that are together rest, in lexicographic order.
func eachSharingOut(members, rest int, begin []int, see func(weights []int)) {
	if members == 1 {
		see(append(slices.Clone(begin), rest))
		return
	}
	for w := range rest + 1 {
		eachSharingOut(members-1, rest-w, append(slices.Clone(begin), w), see)
	}
}

func ballotOfCommittee(c impl.Committee) ballot {
	var b ballot
	for number := range 1 << len(c.Weights) {
		sum := 0
		for k, w := range c.Weights {
			sum += number >> k & 1 * w
		}
		if sum >= c.Quota {
			b |= 1 << number
		}
	}
	return b
}

// leastByWords goes through all committees of so many members, at most five, in the order of their weights together, then of their weights, then of their quotas, and keeps the first one for each ballot.
func leastByWords(members int) map[ballot]impl.Committee {
	first := map[ballot]impl.Committee{}
	for total := 1; total <= 18; total++ {
		eachSharingOut(members, total, nil, func(weights []int) {
			for quota := 1; quota <= total; quota++ {
				c := committee(quota, weights...)
				b := ballotOfCommittee(c)
				if _, ok := first[b]; !ok {
					first[b] = c
				}
			}
		})
	}
	return first
}

// fits reports whether just the sets win that win by these weights.
func (v *votes) fits(quota int, weights []int) bool {
	for i, set := range v.sets {
		sum := 0
		for _, k := range set {
			sum += weights[k]
		}
		if sum >= quota != v.wins[i] {
			return false
		}
	}
	return true
}

// leastQuota goes through all quotas, and returns 0 if none fits.
func (v *votes) leastQuota(weights []int) int {
	for quota := 1; quota <= totalOf(weights); quota++ {
		if v.fits(quota, weights) {
			return quota
		}
	}
	return 0
}

// votesWithLast has a member more behind so many others.
func votesWithLast(others int, isWon func(others []int, last bool) bool) *votes {
	return newVotes(others+1, func(set []int) bool {
		if slices.Contains(set, others) {
			return isWon(set[:len(set)-1], true)
		}
		return isWon(set, false)
	})
}

// rareCommittees have weights that are in other committees of the tests rarely: equal ones, multiples, and such as can be much less.
func rareCommittees() []impl.Committee {
	return []impl.Committee{
		committee(50, 30, 20, 20, 10),
		committee(7, 4, 4, 1),
		committee(7, 4, 4, 2),
		committee(5, 4, 4, 4),
		committee(999, 1000, 0, 1000, 998),
		committee(1998, 999, 999, 999),
		committee(700, 333, 333, 333, 1),
		committee(12, 6, 4, 4, 2, 8, 0),
		committee(30, 15, 15, 15, 15, 15, 15, 15, 15, 15),
		committee(500, 500, 500, 500, 500),
		committee(501, 500, 500, 500, 500),
		committee(6, 12, 18, 6, 30),
		committee(25, 9, 9, 7, 3, 1, 1, 1, 1, 1),
		committee(2000, 1000, 1000, 1),
		committee(300, 1, 2, 4, 8, 16, 32, 64, 128, 256),
		committee(9, 5, 4, 3, 2, 2),
		committee(900, 500, 400, 300, 200, 200),
		committee(41, 25, 19, 17, 11, 8),
	}
}
