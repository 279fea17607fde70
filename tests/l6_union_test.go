package tests

import (
	"testing"

	"loop.example/g01275/impl"
)

// checkText compares a committee with its text; the text "" tells that the call fails.
func checkText(t *testing.T, c call, want string) {
	t.Helper()
	if want == "" {
		c.mustFail(t)
	} else {
		checkCommittee(t, c, mustParse(t, want))
	}
}

// TestKnownUnions has unions of one member, of two, of all, and of members that do not stand side by side, with weights that are MaxWeight together, and one more.
func TestKnownUnions(t *testing.T) {
	for _, x := range []struct{ text, set, want string }{
		{"5:3,2,2,1", "12", "5:3,4,1"},
		{"5:3,2,2,1", "0", "5:3,2,2,1"},
		{"5:3,2,2,1", "3", "5:3,2,2,1"},
		{"5:3,2,2,1", "01", "5:5,2,1"},
		{"5:3,2,2,1", "02", "5:5,2,1"},
		{"5:3,2,2,1", "03", "5:4,2,2"},
		{"5:3,2,2,1", "13", "5:3,3,2"},
		{"5:3,2,2,1", "23", "5:3,2,3"},
		{"5:3,2,2,1", "012", "5:7,1"},
		{"5:3,2,2,1", "013", "5:6,2"},
		{"5:3,2,2,1", "023", "5:6,2"},
		{"5:3,2,2,1", "123", "5:3,5"},
		{"5:3,2,2,1", "0123", "5:8"},
		{"1:1", "0", "1:1"},
		{"1000:1000", "0", "1000:1000"},
		{"1:0,1", "01", "1:1"},
		{"1:0,0,1", "01", "1:0,1"},
		{"3:4,0,5,0,6", "13", "3:4,0,5,6"},
		{"3:4,0,5,0,6", "24", "3:4,0,11,0"},
		{"900:500,500,501,0", "01", "900:1000,501,0"},
		{"900:500,500,501,0", "013", "900:1000,501"},
		{"900:500,500,501,0", "23", "900:500,500,501"},
		{"900:500,500,501,0", "02", ""},
		{"900:500,500,501,0", "12", ""},
		{"900:500,500,501,0", "023", ""},
		{"900:500,500,501,0", "0123", ""},
		{"1001:999,1,2,0,1000", "01", "1001:1000,2,0,1000"},
		{"1001:999,1,2,0,1000", "013", "1001:1000,2,1000"},
		{"1001:999,1,2,0,1000", "34", "1001:999,1,2,1000"},
		{"1001:999,1,2,0,1000", "02", ""},
		{"1001:999,1,2,0,1000", "14", ""},
		{"5:1,1,1,1,1,1,1,1,1", "08", "5:2,1,1,1,1,1,1,1"},
		{"5:1,1,1,1,1,1,1,1,1", "78", "5:1,1,1,1,1,1,1,2"},
		{"5:1,1,1,1,1,1,1,1,1", "1357", "5:1,4,1,1,1,1"},
		{"5:1,1,1,1,1,1,1,1,1", "012345678", "5:9"},
		{"7:1,2,3,4,5,6,7,8,9", "12467", "7:1,25,4,6,9"},
		{"112:112,111,111,111,111,111,111,111,111", "012345678", "112:1000"},
		{"112:113,111,111,111,111,111,111,111,111", "012345678", ""},
		{"9000:1000,1000,1000,1000,1000,1000,1000,1000,1000", "4", "9000:1000,1000,1000,1000,1000,1000,1000,1000,1000"},
		{"9000:1000,1000,1000,1000,1000,1000,1000,1000,1000", "48", ""},
		{"9000:1000,1000,1000,1000,1000,1000,1000,1000,1000", "012345678", ""},
	} {
		checkText(t, callOf("MergeMembers", impl.MergeMembers, mustParse(t, x.text), inDigits(x.set)), x.want)
	}
}

// TestKnownGains has gains of each kind, by swings and by orders, that are not always the same, and shares that are equal.
func TestKnownGains(t *testing.T) {
	for _, x := range []struct {
		text, set        string
		bySwings, orders int
	}{
		{"5:3,2,2,1", "12", 1, 1},
		{"5:3,2,2,1", "0", 0, 0},
		{"5:3,2,2,1", "3", 0, 0},
		{"5:3,2,2,1", "0123", 0, 0},
		{"1:1", "0", 0, 0},
		{"1:0,1", "01", 0, 0},
		// By one of three: the share 2 / 3 becomes 1 / 2, 1 or 1 / 2.
		{"1:1,1,1", "01", -1, -1},
		{"2:1,1,1", "01", 1, 1},
		{"3:1,1,1", "12", -1, -1},
		// A dictator, dummies, and one with the other.
		{"4:4,1,1", "0", 0, 0},
		{"4:4,1,1", "12", 0, 0},
		{"4:4,1,1", "01", 0, 0},
		// A veto: 2 / 5 of the swings and 1 / 3 of the orders become 1 / 2, 4 / 5 and 5 / 6 become 1.
		{"5:4,1,1", "12", 1, 1},
		{"5:4,1,1", "01", 1, 1},
		{"2:1,1,1,2", "012", -1, 0},
		{"4:1,1,1,2", "012", -1, 0},
		{"3:1,1,2,3", "012", 0, 1},
		{"5:1,1,3,2", "013", 0, 1},
		{"2:1,1,1,1,2", "012", -1, 1},
		{"2:1,1,1,1,2", "123", -1, 1},
		{"900:500,500,501,0", "01", 1, 1},
		{"900:500,500,501,0", "13", 0, 0},
	} {
		c, set := mustParse(t, x.text), inDigits(x.set)
		checkAnswer(t, callOf("UnionGain", impl.UnionGain, c, set), x.bySwings)
		checkAnswer(t, callOf("UnionGainByOrders", impl.UnionGainByOrders, c, set), x.orders)
	}
	for _, set := range []string{"02", "12", "012", "0123", "023"} {
		c := mustParse(t, "900:500,500,501,0")
		checkFails(t, callOf("UnionGain", impl.UnionGain, c, inDigits(set)), callOf("UnionGainByOrders", impl.UnionGainByOrders, c, inDigits(set)))
	}
}

// TestKnownPartners has for each member its best partners; "-" tells that there are none.
func TestKnownPartners(t *testing.T) {
	for text, wants := range map[string][]string{
		"5:3,2,2,1": {"12", "0", "0", "0"},
		"1:1":       {"-"},
		"1000:1000": {"-"},
		"1:0,1":     {"1", "0"},
		"2:1,1":     {"1", "0"},
		"2:1,1,1":   {"12", "02", "01"},
		// Each union has less than both before.
		"1:1,1,1": {"12", "02", "01"},
		"3:1,1,1": {"12", "02", "01"},
		// A union with a member that has no weight loses nothing, others do.
		"1:0,1,1,1": {"123", "0", "0", "0"},
		"2:0,1,1,2": {"123", "23", "13", "12"},
		"4:4,1,1":   {"12", "02", "01"},
		// Unions that are no committees.
		"900:500,500,501,0":   {"1", "0", "3", "012"},
		"1001:999,1,2,0,1000": {"13", "023", "13", "0124", "3"},
		"1000:600,500,400,1":  {"2", "2", "01", "012"},
		"700:1000,1000":       {"-", "-"},
		"1500:600,600,600":    {"-", "-", "-"},
		"501:500,501":         {"-", "-"},
		"501:500,500":         {"1", "0"},
		"501:500,501,499":     {"2", "2", "01"},
		"7:5,4,3,2,1":         {"1", "0", "01", "0", "0123"},
		"8:5,3,1,1,1":         {"1", "0234", "1", "1", "1"},
		"5:1,1,1,1,1,1,1,1,1": {"12345678", "02345678", "01345678", "01245678", "01235678", "01234678", "01234578", "01234568", "01234567"},
	} {
		for k, want := range wants {
			c := callOf("BestPartners", impl.BestPartners, mustParse(t, text), k)
			if want == "-" {
				c.mustFail(t)
			} else {
				checkMembersOf(t, c, inDigits(want))
			}
		}
	}
}

// TestKnownSplits has parts of 0 and of the whole weight, and committees of MaxMembers and of one less.
func TestKnownSplits(t *testing.T) {
	for _, x := range []struct {
		text    string
		k, part int
		want    string
	}{
		{"5:3,2,2,1", 0, 1, "5:1,2,2,2,1"},
		{"5:3,2,2,1", 0, 2, "5:2,1,2,2,1"},
		{"5:3,2,2,1", 0, 0, "5:0,3,2,2,1"},
		{"5:3,2,2,1", 0, 3, "5:3,0,2,2,1"},
		{"5:3,2,2,1", 2, 1, "5:3,2,1,1,1"},
		{"5:3,2,2,1", 3, 0, "5:3,2,2,0,1"},
		{"5:3,2,2,1", 3, 1, "5:3,2,2,1,0"},
		{"5:3,2,2,1", 0, 4, ""},
		{"5:3,2,2,1", 3, 2, ""},
		{"5:3,2,2,1", 1, -1, ""},
		{"1:1", 0, 0, "1:0,1"},
		{"1:1", 0, 1, "1:1,0"},
		{"1:0,1", 0, 0, "1:0,0,1"},
		{"1:0,1", 0, 1, ""},
		{"1000:1000", 0, 0, "1000:0,1000"},
		{"1000:1000", 0, 400, "1000:400,600"},
		{"1000:1000", 0, 1000, "1000:1000,0"},
		{"1000:1000", 0, 1001, ""},
		{"5:8,7,6,5,4,3,2,1", 7, 1, "5:8,7,6,5,4,3,2,1,0"},
		{"5:8,7,6,5,4,3,2,1", 3, 2, "5:8,7,6,2,3,4,3,2,1"},
		{"5:1,1,1,1,1,1,1,1,1", 0, 0, ""},
		{"5:1,1,1,1,1,1,1,1,1", 8, 1, ""},
		{"1:0,0,0,0,0,0,0,0,1", 0, 0, ""},
		{"1:2,2,2,2,2,2,2,2,2", 4, 1, ""},
	} {
		checkText(t, callOf("SplitMember", impl.SplitMember, mustParse(t, x.text), x.k, x.part), x.want)
	}
}

func TestKnownSplitGains(t *testing.T) {
	for _, x := range []struct {
		text          string
		k, part, gain int
	}{
		{"1:2", 0, 1, 0},
		{"1:1", 0, 0, 0},
		{"1:1", 0, 1, 0},
		// The share 1 / 2 becomes 2 / 3, as each of three wins alone, or all are needed; a dictator becomes two of three that are as strong.
		{"1:1,2", 1, 1, 1},
		{"3:1,2", 1, 1, 1},
		{"2:1,2", 1, 1, -1},
		{"2:1,2", 1, 0, 0},
		{"2:1,2", 1, 2, 0},
		{"2:1,2", 0, 1, 0},
		// Parts of 2 and 2 have a veto each, and 6 of 8 swings instead of 3 of 5; parts of 1 and 3 have 6 of 10.
		{"5:4,1,1", 0, 2, 1},
		{"5:4,1,1", 0, 1, 0},
		{"4:4,1,1", 0, 4, 0},
		{"4:4,1,1", 0, 1, -1},
	} {
		checkAnswer(t, callOf("SplitGain", impl.SplitGain, mustParse(t, x.text), x.k, x.part), x.gain)
	}
}

// TestKnownBestSplits has weights of 20 and of 21, weights of 0, and committees of MaxMembers and of one less.
func TestKnownBestSplits(t *testing.T) {
	for _, x := range []struct {
		text string
		k    int
		want []int
	}{
		{"5:3,2,2,1", 0, []int{0, 3}},
		{"5:3,2,2,1", 3, []int{0, 1}},
		{"5:4,1,1", 0, []int{2}},
		{"4:4,1,1", 0, []int{0, 4}},
		{"4:4,1,1", 1, []int{0, 1}},
		{"1:1", 0, []int{0, 1}},
		{"1:20", 0, fromTo(0, 20)},
		{"20:20", 0, fromTo(0, 20)},
		{"1:0,20", 1, fromTo(0, 20)},
		{"1:0,20", 0, []int{0}},
		{"1:1,20", 1, fromTo(1, 19)},
		{"2:1,20", 1, append(append([]int{0}, fromTo(2, 18)...), 20)},
		{"11:1,20", 1, append(fromTo(0, 9), fromTo(11, 20)...)},
		{"21:1,20", 1, fromTo(1, 19)},
		{"20:20,20", 0, []int{0, 20}},
		// With 9 or more for each part, either is enough beside the 21, which makes them less than one that always is needed.
		{"30:21,20", 1, append(fromTo(0, 8), fromTo(12, 20)...)},
		{"8:1,3,6,7", 2, []int{1, 3, 5}},
		{"4:1,2,2,6", 3, []int{0, 2, 4, 6}},
		{"5:1,1,1,1,1,1,1,1", 7, []int{0, 1}},
		{"500:1,1000", 0, []int{0, 1}},
	} {
		checkMembersOf(t, callOf("BestSplits", impl.BestSplits, mustParse(t, x.text), x.k), x.want)
	}
	for text, k := range map[string]int{"1:21": 0, "21:21": 0, "30:21,20": 0, "1:0,21": 1, "500:1,1000": 1, "5:1,1,1,1,1,1,1,1,1": 0, "1:0,0,0,0,0,0,0,0,1": 3, "1:21,0,0,0,0,0,0,0,1": 0} {
		callOf("BestSplits", impl.BestSplits, mustParse(t, text), k).mustFail(t)
	}
}
