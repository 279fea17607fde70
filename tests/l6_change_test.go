package tests

import (
	"testing"

	"loop.example/g01275/impl"
)

// TestKnownNewcomers has weights of 0 and of MaxWeight, and committees of MaxMembers and of one less.
func TestKnownNewcomers(t *testing.T) {
	for _, x := range []struct {
		text   string
		weight int
		want   string
		helped string
	}{
		{"5:3,2,2,1", 0, "5:3,2,2,1,0", ""},
		{"5:3,2,2,1", 1, "5:3,2,2,1,1", ""},
		// The last one has 1 of 12 swings before, and 3 of 27 then.
		{"5:3,2,2,1", 2, "5:3,2,2,1,2", "3"},
		{"5:3,2,2,1", 1000, "5:3,2,2,1,1000", ""},
		{"5:3,2,2,1", 1001, "", ""},
		{"5:3,2,2,1", -1, "", ""},
		{"1:1", 0, "1:1,0", ""},
		{"1:1", 1000, "1:1,1000", ""},
		{"1000:1000", 999, "1000:1000,999", ""},
		// Dummies that get power.
		{"4:4,1,1", 2, "4:4,1,1,2", "12"},
		{"4:4,1,1", 3, "4:4,1,1,3", "12"},
		{"4:4,1,1", 1, "4:4,1,1,1", ""},
		{"2:1,3", 1, "2:1,3,1", "0"},
		// A veto that gets more.
		{"5:4,1,1", 1, "5:4,1,1,1", "0"},
		{"5:4,1,1", 2, "5:4,1,1,2", "0"},
		{"5:4,1,1", 3, "5:4,1,1,3", ""},
		{"3:0,0,1,2", 1, "3:0,0,1,2,1", "3"},
		{"8:5,3,1,1,1", 1, "8:5,3,1,1,1,1", "0234"},
		{"8:5,3,1,1,1", 3, "8:5,3,1,1,1,3", "234"},
		{"5:1,1,1,1,1,1,1,1", 1, "5:1,1,1,1,1,1,1,1,1", ""},
		{"5:1,1,1,1,1,1,1,1", 1000, "5:1,1,1,1,1,1,1,1,1000", ""},
		{"5:1,1,1,1,1,1,1,1,1", 0, "", ""},
		{"5:1,1,1,1,1,1,1,1,1", 1, "", ""},
		{"1:0,0,0,0,0,0,0,0,1", 0, "", ""},
	} {
		c := mustParse(t, x.text)
		checkText(t, callOf("AddMember", impl.AddMember, c, x.weight), x.want)
		helps := callOf("NewcomerHelps", impl.NewcomerHelps, c, x.weight)
		if x.want == "" {
			helps.mustFail(t)
		} else {
			checkMembersOf(t, helps, inDigits(x.helped))
		}
	}
}

// TestKnownGifts has gifts of nothing and of all, and gifts by which a member gets MaxWeight and one more; the gain of one that fails is 0.
func TestKnownGifts(t *testing.T) {
	for _, x := range []struct {
		text             string
		from, to, weight int
		want             string
		gain             int
	}{
		{"5:3,2,2,1", 0, 3, 2, "5:1,2,2,3", -1},
		{"5:3,2,2,1", 0, 3, 0, "5:3,2,2,1", 0},
		{"5:3,2,2,1", 0, 3, 3, "5:0,2,2,4", -1},
		{"5:3,2,2,1", 3, 0, 1, "5:4,2,2,0", -1},
		{"5:3,2,2,1", 1, 2, 1, "5:3,1,3,1", -1},
		{"5:3,2,2,1", 2, 1, 2, "5:3,4,0,1", -1},
		{"5:3,2,2,1", 0, 3, 4, "", 0},
		{"5:3,2,2,1", 3, 0, 2, "", 0},
		{"5:3,2,2,1", 0, 3, -1, "", 0},
		{"5:3,2,2,1", 0, 0, 1, "", 0},
		{"5:3,2,2,1", 0, 0, 0, "", 0},
		{"5:3,2,2,1", 0, 4, 1, "", 0},
		{"5:3,2,2,1", 4, 0, 0, "", 0},
		{"5:3,2,2,1", -1, 0, 0, "", 0},
		{"1:1", 0, 0, 0, "", 0},
		{"1:0,1", 1, 0, 1, "1:1,0", -1},
		{"1:0,1", 0, 1, 0, "1:0,1", 0},
		{"1:0,1", 0, 1, 1, "", 0},
		{"2:1,1", 0, 1, 1, "2:0,2", -1},
		// A dictator that stays one, and a dummy that stays one.
		{"4:5,1,1", 0, 1, 1, "4:4,2,1", 0},
		{"4:4,1,1", 1, 2, 1, "4:4,0,2", 0},
		// The giver has 9 of 19 swings before, and 8 of 16 then, as the others lose theirs.
		{"8:5,3,1,1,1", 0, 1, 1, "8:4,4,1,1,1", 1},
		{"8:5,3,1,1,1", 0, 1, 2, "8:3,5,1,1,1", -1},
		{"1000:1000,0", 0, 1, 1000, "1000:0,1000", -1},
		{"1000:1000,0", 0, 1, 1, "1000:999,1", -1},
		{"1000:1000,0", 0, 1, 1001, "", 0},
		{"900:500,501", 0, 1, 499, "900:1,1000", -1},
		{"900:500,501", 0, 1, 500, "", 0},
		{"901:500,501", 0, 1, 99, "901:401,600", 0},
		{"1500:1000,1000", 0, 1, 0, "1500:1000,1000", 0},
		{"1500:1000,1000", 0, 1, 1, "", 0},
		{"5:1,1,1,1,1,1,1,1,1", 8, 0, 1, "5:2,1,1,1,1,1,1,1,0", -1},
	} {
		c := mustParse(t, x.text)
		checkText(t, callOf("GiveWeight", impl.GiveWeight, c, x.from, x.to, x.weight), x.want)
		gains := callOf("GiverGains", impl.GiverGains, c, x.from, x.to, x.weight)
		if x.want == "" {
			gains.mustFail(t)
		} else {
			checkAnswer(t, gains, x.gain)
		}
	}
}

// TestKnownQuarrels has quarrels of the only two members, of vetoes, of dummies and of a dictator.
func TestKnownQuarrels(t *testing.T) {
	for _, x := range []struct {
		text   string
		i, j   int
		wins   int
		swings []int
	}{
		{"5:3,2,2,1", 0, 1, 3, []int{2, 1, 3, 1}},
		{"5:3,2,2,1", 1, 2, 4, []int{4, 2, 2, 0}},
		{"5:3,2,2,1", 2, 3, 4, []int{4, 2, 1, 0}},
		// The only two members.
		{"1:1,1", 0, 1, 2, []int{1, 1}},
		{"2:1,1", 0, 1, 0, []int{0, 0}},
		{"1:0,1", 0, 1, 1, []int{0, 1}},
		{"2:1,1,1", 0, 1, 2, []int{1, 1, 2}},
		// Vetoes: all members, or some.
		{"3:1,1,1", 0, 2, 0, []int{0, 0, 0}},
		{"9:1,1,1,1,1,1,1,1,1", 3, 7, 0, ofWeight(0, 9)},
		{"8:1,1,1,1,1,1,1,1,1", 0, 1, 2, []int{1, 1, 2, 2, 2, 2, 2, 2, 2}},
		{"7:4,3,1", 0, 1, 0, []int{0, 0, 0}},
		{"7:4,3,1", 1, 2, 1, []int{1, 1, 0}},
		{"5:4,1,1", 0, 1, 1, []int{1, 0, 1}},
		{"5:4,1,1", 1, 2, 2, []int{2, 1, 1}},
		// A dictator with dummies: with a dummy, and two dummies.
		{"4:4,1,1", 0, 1, 2, []int{2, 0, 0}},
		{"4:4,1,1", 1, 2, 3, []int{3, 0, 0}},
		{"1:0,0,0,0,0,0,0,0,1", 0, 8, 128, []int{0, 0, 0, 0, 0, 0, 0, 0, 128}},
		{"1:0,0,0,0,0,0,0,0,1", 0, 7, 192, []int{0, 0, 0, 0, 0, 0, 0, 0, 192}},
		// Of 256 winning sets of at least five members 99 have both.
		{"5:1,1,1,1,1,1,1,1,1", 0, 1, 157, []int{35, 35, 55, 55, 55, 55, 55, 55, 55}},
	} {
		c := mustParse(t, x.text)
		for _, pair := range [][2]int{{x.i, x.j}, {x.j, x.i}} {
			checkAnswer(t, callOf("CountQuarrelWins", impl.CountQuarrelWins, c, pair[0], pair[1]), x.wins)
			checkMembersOf(t, callOf("QuarrelSwings", impl.QuarrelSwings, c, pair[0], pair[1]), x.swings)
			checkMembersOf(t, callOf("QuarrelHelps", impl.QuarrelHelps, c, pair[0], pair[1]), nil)
		}
	}
}

// TestKnownRaises has raises of 0, below 0 and to either end of the quotas.
func TestKnownRaises(t *testing.T) {
	for _, x := range []struct {
		text string
		more int
		want string
	}{
		{"5:3,2,2,1", 0, "5:3,2,2,1"},
		{"5:3,2,2,1", 2, "7:3,2,2,1"},
		{"5:3,2,2,1", 3, "8:3,2,2,1"},
		{"5:3,2,2,1", 4, ""},
		{"5:3,2,2,1", -1, "4:3,2,2,1"},
		{"5:3,2,2,1", -4, "1:3,2,2,1"},
		{"5:3,2,2,1", -5, ""},
		{"5:3,2,2,1", -6, ""},
		{"1:1", 0, "1:1"},
		{"1:1", 1, ""},
		{"1:1", -1, ""},
		{"1:0,1000", 999, "1000:0,1000"},
		{"1:0,1000", 1000, ""},
		{"1:1000,1000,1000,1000,1000,1000,1000,1000,1000", 8999, "9000:1000,1000,1000,1000,1000,1000,1000,1000,1000"},
		{"1:1000,1000,1000,1000,1000,1000,1000,1000,1000", 9000, ""},
		{"9000:1000,1000,1000,1000,1000,1000,1000,1000,1000", -8999, "1:1000,1000,1000,1000,1000,1000,1000,1000,1000"},
		{"9000:1000,1000,1000,1000,1000,1000,1000,1000,1000", -9000, ""},
		{"9000:1000,1000,1000,1000,1000,1000,1000,1000,1000", 1, ""},
	} {
		checkText(t, callOf("RaiseQuota", impl.RaiseQuota, mustParse(t, x.text), x.more), x.want)
	}
}

// TestKnownQuotasOfPower has for each member its quotas, whichever Quota there is.
func TestKnownQuotasOfPower(t *testing.T) {
	for _, x := range []struct {
		weights []int
		want    [][]int
	}{
		{[]int{3, 2, 2, 1}, [][]int{{3, 6}, {2, 7}, {2, 7}, {1, 8}}},
		{[]int{1}, [][]int{{1}}},
		{[]int{10}, [][]int{fromTo(1, 10)}},
		{[]int{0, 3}, [][]int{fromTo(1, 3), fromTo(1, 3)}},
		{[]int{1, 1, 1}, [][]int{{1, 2, 3}, {1, 2, 3}, {1, 2, 3}}},
		{[]int{4, 1, 1}, [][]int{{3, 4}, {1, 6}, {1, 6}}},
		{[]int{1, 2, 2, 2}, [][]int{{1, 3, 5, 7}, {2, 4, 6}, {2, 4, 6}, {2, 4, 6}}},
		// All weights together are 200.
		{[]int{200}, [][]int{fromTo(1, 200)}},
		{[]int{0, 200, 0}, [][]int{fromTo(1, 200), fromTo(1, 200), fromTo(1, 200)}},
		{[]int{100, 100}, [][]int{fromTo(1, 200), fromTo(1, 200)}},
		{[]int{1, 199}, [][]int{{1, 200}, fromTo(2, 199)}},
		{[]int{99, 101}, [][]int{append(fromTo(1, 99), fromTo(102, 200)...), {100, 101}}},
	} {
		total := totalOf(x.weights)
		for _, quota := range []int{1, (total + 1) / 2, total} {
			for k, want := range x.want {
				checkQuotas(t, "QuotasOfPower", committee(quota, x.weights...), k, impl.QuotasOfPower, want)
			}
		}
	}
	for _, weights := range [][]int{{201}, {0, 201, 0}, {100, 101}, {1, 200}, {25, 22, 22, 22, 22, 22, 22, 22, 22}, {1000}, ofWeight(1000, 9)} {
		for _, quota := range []int{1, 100, 101, 200, 201} {
			for k := range weights {
				callOf("QuotasOfPower", impl.QuotasOfPower, committee(quota, weights...), k).mustFail(t)
			}
		}
	}
}
