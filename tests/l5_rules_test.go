package tests

import (
	"cmp"
	"slices"
	"strconv"
	"testing"

	"loop.example/g01275/impl"
)

// inParts runs a test of many values in parts beside each other.
func inParts[T any](t *testing.T, list []T, see func(t *testing.T, i int, value T)) {
	const parts = 8
	for part := range parts {
		t.Run(strconv.Itoa(part), func(t *testing.T) {
			t.Parallel()
			for i := part; i < len(list); i += parts {
				see(t, i/parts, list[i])
			}
		})
	}
}

// TestAllLeastWeights looks for weights of all games of at most MaxFound members. Those for which the document's words give none have a trade: not even greater weights make them.
func TestAllLeastWeights(t *testing.T) {
	for i, want := range [][2]int{{1, 1}, {4, 4}, {18, 18}, {166, 148}, {7579, 3285}} {
		members := i + 1
		all, least := ballotsOf(members), leastByWords(members)
		if len(all) != want[0] || len(least) != want[1] {
			t.Fatalf("the test finds %d games of %d members, %d of which have weights", len(all), members, len(least))
		}
		inParts(t, all, func(t *testing.T, i int, b ballot) {
			c, ok := least[b]
			if b.hasTrade(members) == ok {
				t.Fatalf("the test finds a trade and weights, or none of both, of %v", b.votes(members).told())
			}
			// Those that have none take longest, and are asked for just some games.
			checkLeastWeights(t, b.votes(members).told(), c, i%8 == 0)
		})
	}
}

// checkLeastWeights expects failures if c is no committee.
func checkLeastWeights(t *testing.T, g impl.Game, c impl.Committee, isWhole bool) {
	t.Helper()
	has := c.Quota != 0
	checkAnswer(t, callOf("HasWeights", impl.HasWeights, g), has)
	weights, total := callOf("LeastWeights", impl.LeastWeights, g), callOf("LeastTotal", impl.LeastTotal, g)
	if has {
		checkCommittee(t, weights, c)
		checkAnswer(t, total, totalOf(c.Weights))
		checkAnswer(t, callOf("DoesFitGame", impl.DoesFitGame, c, g), true)
		checkAnswer(t, callOf("QuotaOfGame", impl.QuotaOfGame, g, c.Weights), c.Quota)
		checkCommittee(t, callOf("LeastCommittee", impl.LeastCommittee, c), c)
		checkAnswer(t, callOf("IsLeastCommittee", impl.IsLeastCommittee, c), true)
	} else if isWhole {
		checkFails(t, weights, total)
	}
}

// TestNoLesserTotals checks promise 5 with the program's own answers: least weights fit their game, and no committee with a lesser total does.
func TestNoLesserTotals(t *testing.T) {
	for _, c := range smallCommittees() {
		g, _ := impl.GameOf(c)
		least, ok := impl.LeastWeights(g)
		total, fine := impl.LeastTotal(g)
		if fits, _ := impl.DoesFitGame(least, g); !ok || !fine || !fits || total != totalOf(least.Weights) {
			t.Fatalf("LeastWeights(%v) = %v, %v, LeastTotal %d, %v", g, least, ok, total, fine)
		}
		for lesser := 1; lesser < total; lesser++ {
			eachSharingOut(g.Members, lesser, nil, func(weights []int) {
				if quota, ok := impl.QuotaOfGame(g, weights); ok {
					t.Fatalf("%v has the weights %v with the quota %d, LeastTotal is %d", g, weights, quota, total)
				}
			})
		}
	}
}

// fewMembered are committees of at most MaxFound members, some with great weights.
func fewMembered() []impl.Committee {
	var list []impl.Committee
	for _, c := range slices.Concat(manyCommittees(), rareCommittees(), timesOfFew()) {
		if len(c.Weights) <= impl.MaxFound {
			list = append(list, c)
		}
	}
	return list
}

// timesOfFew are great multiples of least committees, and some that win with a bit less or more.
func timesOfFew() []impl.Committee {
	var list []impl.Committee
	for _, c := range []impl.Committee{committee(5, 3, 2, 2, 1), committee(9, 5, 4, 3, 2, 2), committee(2, 1, 1, 1), committee(4, 1, 2, 2, 3), committee(1, 0, 0, 1)} {
		for _, k := range []int{2, 100, 199, 200} {
			weights := slices.Clone(c.Weights)
			for i := range weights {
				weights[i] = weights[i]*k - i%2
			}
			if weights[len(weights)-1] >= 0 && slices.Min(weights) >= 0 {
				list = append(list, committee(c.Quota*k-k+1, weights...), committee(c.Quota*k-1, weights...))
			}
		}
	}
	return slices.DeleteFunc(list, func(c impl.Committee) bool { return c.Quota > totalOf(c.Weights) })
}

func TestLeastCommitteesByTheirWords(t *testing.T) {
	least := make([]map[ballot]impl.Committee, 6)
	for members := 1; members <= 5; members++ {
		least[members] = leastByWords(members)
	}
	for _, c := range fewMembered() {
		want, ok := least[len(c.Weights)][ballotOfCommittee(c)]
		if !ok {
			t.Fatalf("the test finds no weights of the game of %v", c)
		}
		checkCommittee(t, callOf("LeastCommittee", impl.LeastCommittee, c), want)
		checkAnswer(t, callOf("IsLeastCommittee", impl.IsLeastCommittee, c), sameCommittee(c, want))
		g := votesOf(c).told()
		checkCommittee(t, callOf("LeastWeights", impl.LeastWeights, g), want)
		checkAnswer(t, callOf("LeastTotal", impl.LeastTotal, g), totalOf(want.Weights))
		checkAnswer(t, callOf("HasWeights", impl.HasWeights, g), true)
	}
}

// TestFittingByTheirWords compares the sets that win in committees and in games, each of many with some of the others.
func TestFittingByTheirWords(t *testing.T) {
	games := manyGames()
	tables := make([]*votes, len(games))
	for i, g := range games {
		tables[i] = votesOfGame(g)
	}
	for i, c := range append(manyCommittees(), rareCommittees()...) {
		v := votesOf(c)
		checkAnswer(t, callOf("DoesFitGame", impl.DoesFitGame, c, v.told()), true)
		for j := i % 5; j < len(games); j += 5 {
			is := v.members == tables[j].members && slices.Equal(v.wins, tables[j].wins)
			checkAnswer(t, callOf("DoesFitGame", impl.DoesFitGame, c, games[j]), is)
		}
	}
}

// checkQuotaOfGame looks at all quotas.
func checkQuotaOfGame(t *testing.T, g impl.Game, v *votes, weights []int) {
	t.Helper()
	c := callOf("QuotaOfGame", impl.QuotaOfGame, g, weights)
	if quota := v.leastQuota(weights); quota > 0 {
		checkAnswer(t, c, quota)
	} else {
		c.mustFail(t)
	}
}

// TestQuotasOfGamesByTheirWords gives all games of three members and some of four all low weights.
func TestQuotasOfGamesByTheirWords(t *testing.T) {
	for i, g := range slices.Concat(smallGames(1), smallGames(2), smallGames(3), smallGames(4)) {
		v := votesOfGame(g)
		for total := range 8 {
			if g.Members == 4 && (total+i)%3 != 0 {
				continue
			}
			eachSharingOut(g.Members, total, nil, func(weights []int) { checkQuotaOfGame(t, g, v, weights) })
		}
	}
}

// TestQuotasOfTheirOwnGames gives games of committees the same weights, and such with one that is greater or less.
func TestQuotasOfTheirOwnGames(t *testing.T) {
	for _, c := range slices.Concat(validCommittees(), mixedCommittees(), rareCommittees()) {
		v := votesOf(c)
		g := v.told()
		least, _, _ := impl.QuotaRange(c)
		checkAnswer(t, callOf("QuotaOfGame", impl.QuotaOfGame, g, c.Weights), least)
		for k := range c.Weights {
			for _, other := range []int{0, c.Weights[k] - 1, c.Weights[k] + 1, 1000} {
				if weights := slices.Clone(c.Weights); other >= 0 && other <= 1000 {
					weights[k] = other
					checkQuotaOfGame(t, g, v, weights)
				}
			}
		}
	}
	for _, g := range slices.Concat(knownGames(), mixedGames()) {
		v := votesOfGame(g)
		for _, weights := range [][]int{ofWeight(1, g.Members), ofWeight(7, g.Members), fromTo(1, g.Members), slices.Repeat([]int{0, 3, 1}, 3)[:g.Members]} {
			checkQuotaOfGame(t, g, v, weights)
		}
	}
}

// TestTimesByTheirWords has multiples of each size: the same sets win.
func TestTimesByTheirWords(t *testing.T) {
	for _, c := range append(manyCommittees(), rareCommittees()...) {
		v := votesOf(c)
		most := slices.Max(c.Weights)
		for _, k := range []int{1, 2, 3, 5, 7, 20, 77, 143, 333, 334, 500, 501, 999, 1000, 1000 / most, 1000/most + 1} {
			x := callOf("TimesCommittee", impl.TimesCommittee, c, k)
			if k > 1000 || most*k > 1000 {
				x.mustFail(t)
				continue
			}
			weights := []int{}
			for _, w := range c.Weights {
				weights = append(weights, w*k)
			}
			quota := (c.Quota-1)*k + 1
			if !v.fits(quota, weights) {
				t.Fatalf("the test expects other sets to win in %v times %d", c, k)
			}
			checkCommittee(t, x, committee(quota, weights...))
		}
	}
}

// TestPartsByTheirWords looks for the greatest divisor and the least quota among all.
func TestPartsByTheirWords(t *testing.T) {
	for _, c := range append(manyCommittees(), rareCommittees()...) {
		divisor := 1000
		for slices.ContainsFunc(c.Weights, func(w int) bool { return w%divisor != 0 }) {
			divisor--
		}
		weights := []int{}
		for _, w := range c.Weights {
			weights = append(weights, w/divisor)
		}
		want := committee(votesOf(c).leastQuota(weights), weights...)
		checkCommittee(t, callOf("PartCommittee", impl.PartCommittee, c), want)
		// Multiples have the same parts.
		if times, ok := impl.TimesCommittee(c, 3); ok {
			checkCommittee(t, callOf("PartCommittee", impl.PartCommittee, times), want)
		}
	}
}

func TestSortedByTheirWords(t *testing.T) {
	for _, c := range append(manyCommittees(), rareCommittees()...) {
		order := upTo(len(c.Weights))
		slices.SortStableFunc(order, func(i, j int) int { return cmp.Compare(c.Weights[j], c.Weights[i]) })
		want, _ := impl.RenameCommittee(c, order)
		checkCommittee(t, callOf("SortCommittee", impl.SortCommittee, c), want)
	}
}

// TestNewMembersByTheirWords asks for each set with and without the new member whether it wins.
func TestNewMembersByTheirWords(t *testing.T) {
	for _, c := range slices.Concat(validCommittees(), smallCommittees(), mixedCommittees(), rareCommittees()) {
		v := votesOf(c)
		n, total := len(c.Weights), totalOf(c.Weights)
		veto, dummy := callOf("AddVeto", impl.AddVeto, c), callOf("AddDummy", impl.AddDummy, c)
		if n == 9 {
			checkFails(t, veto, dummy)
			continue
		}
		want := committee(c.Quota, append(slices.Clone(c.Weights), 0)...)
		checkCommittee(t, dummy, want)
		checkVotes(t, want, votesWithLast(n, func(others []int, last bool) bool { return v.isWon(others) }))
		if members, _ := impl.DummiesOf(want); !slices.Contains(members, n) {
			t.Fatalf("the last member of %v is no dummy", want)
		}
		if total > 1000 {
			veto.mustFail(t)
			continue
		}
		want = committee(c.Quota+total, append(slices.Clone(c.Weights), total)...)
		checkCommittee(t, veto, want)
		checkVotes(t, want, votesWithLast(n, func(others []int, last bool) bool { return last && v.isWon(others) }))
		if members, _ := impl.VetoMembers(want); !slices.Contains(members, n) {
			t.Fatalf("the last member of %v has no veto", want)
		}
	}
}

func checkVotes(t *testing.T, c impl.Committee, v *votes) {
	t.Helper()
	if !slices.Equal(votesOf(c).wins, v.wins) {
		t.Fatalf("other sets win in %v", c)
	}
}

// loweredByWords tries for each weight all lesser ones, from 0 on.
func loweredByWords(c impl.Committee) impl.Committee {
	v := votesOf(c)
	weights := slices.Clone(c.Weights)
	for k := range weights {
		for weights[k] = 0; !v.fits(c.Quota, weights); {
			weights[k]++
		}
	}
	return committee(c.Quota, weights...)
}

func TestLoweredByTheirWords(t *testing.T) {
	for _, c := range append(manyCommittees(), rareCommittees()...) {
		want := loweredByWords(c)
		checkCommittee(t, callOf("LowerWeights", impl.LowerWeights, c), want)
		checkCommittee(t, callOf("LowerWeights", impl.LowerWeights, want), want)
	}
}

func TestSparesByTheirWords(t *testing.T) {
	for _, c := range append(manyCommittees(), rareCommittees()...) {
		v := votesOf(c)
		var wins, losses []int
		for i, set := range v.sets {
			sum := 0
			for _, k := range set {
				sum += c.Weights[k]
			}
			if v.wins[i] {
				wins = append(wins, sum)
			} else {
				losses = append(losses, sum)
			}
		}
		above, below := slices.Min(wins)-c.Quota, c.Quota-slices.Max(losses)
		if a, b, ok := impl.SpareOf(c); !ok || a != above || b != below {
			t.Fatalf("SpareOf(%v) = %v, %v, %v, want %v, %v", c, a, b, ok, above, below)
		}
		// The same sets win with a quota that is greater by the one, and with one that is less by the other and 1 more.
		least, utmost, _ := impl.QuotaRange(c)
		if c.Quota+above != utmost || c.Quota-below+1 != least {
			t.Fatalf("QuotaRange(%v) = %v, %v", c, least, utmost)
		}
	}
}
