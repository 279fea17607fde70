package tests

import (
	"slices"
	"testing"

	"loop.example/g01275/impl"
)

// checkTexts gives committees to a function; the text "" tells that it fails.
func checkTexts(t *testing.T, name string, fn func(impl.Committee) (impl.Committee, bool), texts map[string]string) {
	t.Helper()
	for text, want := range texts {
		c := callOf(name, fn, mustParse(t, text))
		if want == "" {
			c.mustFail(t)
		} else {
			checkCommittee(t, c, mustParse(t, want))
		}
	}
}

// TestKnownTimes has the multiples 1 and MaxWeight, and products that are MaxWeight and one more.
func TestKnownTimes(t *testing.T) {
	for _, x := range []struct {
		text string
		k    int
		want string
	}{
		{"2:1,1,1", 3, "4:3,3,3"},
		{"5:3,2,2,1", 1, "5:3,2,2,1"},
		{"5:3,2,2,1", 10, "41:30,20,20,10"},
		{"1:1", 1000, "1:1000"},
		{"2:1,0,1", 1000, "1001:1000,0,1000"},
		{"2:1,0,1", 999, "1000:999,0,999"},
		{"1:1000", 1, "1:1000"},
		{"1000:1000", 1, "1000:1000"},
		{"9000:1000,1000,1000,1000,1000,1000,1000,1000,1000", 1, "9000:1000,1000,1000,1000,1000,1000,1000,1000,1000"},
		{"9:1,1,1,1,1,1,1,1,1", 1000, "8001:1000,1000,1000,1000,1000,1000,1000,1000,1000"},
		{"500:500", 2, "999:1000"},
		{"501:501", 2, ""},
		{"8:8,125,0", 8, "57:64,1000,0"},
		// 1001 is 7 times 143, 11 times 91 and 13 times 77.
		{"7:7", 143, ""},
		{"7:1,7", 143, ""},
		{"7:7,1", 143, ""},
		{"143:143", 7, ""},
		{"11:11", 91, ""},
		{"13:13,1", 77, ""},
		{"7:7,1", 142, "853:994,142"},
		{"1:1000", 2, ""},
		{"1:2", 1000, ""},
		{"1:1000,1000", 1000, ""},
	} {
		c := callOf("TimesCommittee", impl.TimesCommittee, mustParse(t, x.text), x.k)
		if x.want == "" {
			c.mustFail(t)
		} else {
			checkCommittee(t, c, mustParse(t, x.want))
		}
	}
}

func TestKnownParts(t *testing.T) {
	checkTexts(t, "PartCommittee", impl.PartCommittee, map[string]string{
		"7:4,4,2":          "4:2,2,1",
		"50:30,20,20,10":   "5:3,2,2,1",
		"41:30,20,20,10":   "5:3,2,2,1",
		"5:3,2,2,1":        "5:3,2,2,1",
		"1:1":              "1:1",
		"1:1000":           "1:1",
		"1000:1000":        "1:1",
		"7:10":             "1:1",
		"2:0,3,0":          "1:0,1,0",
		"1:0,0,6":          "1:0,0,1",
		"1001:1000,0,1000": "2:1,0,1",
		"13:12,18,6":       "3:2,3,1",
		"12:12,18,6":       "2:2,3,1",
		// no divisor in common, but a lesser quota
		"4:4,1,1":    "3:4,1,1",
		"53:50,49,1": "52:50,49,1",
		"999:999,1":  "2:999,1",
		"9000:1000,1000,1000,1000,1000,1000,1000,1000,1000": "9:1,1,1,1,1,1,1,1,1",
		"1:1000,1000,1000,1000,1000,1000,1000,1000,1000":    "1:1,1,1,1,1,1,1,1,1",
	})
}

func TestKnownSorted(t *testing.T) {
	checkTexts(t, "SortCommittee", impl.SortCommittee, map[string]string{
		"5:3,2,2,1":                            "5:3,2,2,1",
		"5:1,2,2,3":                            "5:3,2,2,1",
		"5:2,3,1,2":                            "5:3,2,2,1",
		"1:1":                                  "1:1",
		"1000:1000":                            "1000:1000",
		"1:0,1":                                "1:1,0",
		"4:2,2,2":                              "4:2,2,2",
		"4:0,1000,0,1000,0":                    "4:1000,1000,0,0,0",
		"20:1,2,3,4,5,6,7,8,9":                 "20:9,8,7,6,5,4,3,2,1",
		"20:9,1,8,2,7,3,6,4,5":                 "20:9,8,7,6,5,4,3,2,1",
		"7:10,9,100,99,1000,999,0,11,101":      "7:1000,999,101,100,99,11,10,9,0",
		"2000:1000,0,1000,500,1000,500,1,1000": "2000:1000,1000,1000,1000,500,500,1,0",
	})
}

// TestEvenCommittees has members and needs at both ends, and one behind each.
func TestEvenCommittees(t *testing.T) {
	for _, members := range append(fromTo(-2, 12), someInts...) {
		for _, need := range append(fromTo(-2, 12), someInts...) {
			c := callOf("EvenCommittee", impl.EvenCommittee, members, need)
			if members < 1 || members > 9 || need < 1 || need > members {
				c.mustFail(t)
			} else {
				checkCommittee(t, c, committee(need, ofWeight(1, members)...))
			}
		}
	}
}

// TestKnownVetoes has weights that are MaxWeight together, and one more, and MaxMembers members.
func TestKnownVetoes(t *testing.T) {
	checkTexts(t, "AddVeto", impl.AddVeto, map[string]string{
		"2:1,1,1":               "5:1,1,1,3",
		"5:3,2,2,1":             "13:3,2,2,1,8",
		"1:1":                   "2:1,1",
		"1:1000":                "1001:1000,1000",
		"1000:1000":             "2000:1000,1000",
		"1:0,1":                 "2:0,1,1",
		"7:500,500":             "1007:500,500,1000",
		"7:500,501":             "",
		"1001:500,501":          "",
		"7:500,501,0":           "",
		"1:1000,1":              "",
		"1:1000,0":              "1001:1000,0,1000",
		"8:1,1,1,1,1,1,1,1":     "16:1,1,1,1,1,1,1,1,8",
		"5:1,1,1,1,1,1,1,1,1":   "",
		"1:0,0,0,0,0,0,0,0,1":   "",
		"1000:1000,1000,1000":   "",
		"999:999,0,0,0,0,0,0,1": "1999:999,0,0,0,0,0,0,1,1000",
	})
}

func TestKnownDummies(t *testing.T) {
	checkTexts(t, "AddDummy", impl.AddDummy, map[string]string{
		"5:3,2,2,1":           "5:3,2,2,1,0",
		"1:1":                 "1:1,0",
		"1000:1000":           "1000:1000,0",
		"1:0,1":               "1:0,1,0",
		"8:1,1,1,1,1,1,1,1":   "8:1,1,1,1,1,1,1,1,0",
		"9:1,1,1,1,1,1,1,1,1": "",
		"1:0,0,0,0,0,0,0,0,1": "",
		"8000:1000,1000,1000,1000,1000,1000,1000,1000": "8000:1000,1000,1000,1000,1000,1000,1000,1000,0",
	})
}

func TestKnownLowered(t *testing.T) {
	checkTexts(t, "LowerWeights", impl.LowerWeights, map[string]string{
		"5:4,4,4":      "5:1,4,4",
		"5:4,4,1":      "5:4,4,1",
		"6:4,4,1":      "6:2,4,0",
		"5:3,2,2,1":    "5:3,2,2,1",
		"1:1":          "1:1",
		"1:1000":       "1:1",
		"700:1000":     "700:700",
		"1000:1000":    "1000:1000",
		"1:0,1":        "1:0,1",
		"4:4,1,1":      "4:4,0,0",
		"3:4,1,1":      "3:3,0,0",
		"5:4,1,1":      "5:4,1,1",
		"7:4,4,1":      "7:3,4,0",
		"1:7,7,7":      "1:1,1,1",
		"9:7,7,7":      "9:2,7,7",
		"15:7,7,7":     "15:1,7,7",
		"21:7,7,7":     "21:7,7,7",
		"20:7,7,7":     "20:6,7,7",
		"51:50,49,1":   "51:50,1,1",
		"52:50,49,1":   "52:3,49,0",
		"6:1,2,3,4":    "6:1,2,3,4",
		"5:1,1,4,4":    "5:1,1,4,4",
		"10:4,6,8,1,1": "10:4,6,8,1,1",
		"10:4,6,8,1":   "10:4,6,6,0",
		"1:1000,1000,1000,1000,1000,1000,1000,1000,1000":    "1:1,1,1,1,1,1,1,1,1",
		"8999:1000,1000,1000,1000,1000,1000,1000,1000,1000": "8999:999,1000,1000,1000,1000,1000,1000,1000,1000",
	})
}

func TestKnownSpares(t *testing.T) {
	for text, want := range map[string][2]int{
		"7:4,4,1":    {1, 2},
		"5:3,2,2,1":  {0, 1},
		"1:1":        {0, 1},
		"1:1000":     {999, 1},
		"1000:1000":  {0, 1000},
		"700:1000":   {300, 700},
		"1:0,1":      {0, 1},
		"5:4,4,4":    {3, 1},
		"8:4,4,4":    {0, 4},
		"4:4,4,4":    {0, 4},
		"1:4,4,4":    {3, 1},
		"51:50,49,1": {0, 1},
		"40:50,49,1": {9, 39},
		"9:3,2,2,2":  {0, 2},
		"500:1,1000": {500, 499},
		"4500:1000,1000,1000,1000,1000,1000,1000,1000,1000": {500, 500},
		"9000:1000,1000,1000,1000,1000,1000,1000,1000,1000": {0, 1000},
		"8001:1000,1000,1000,1000,1000,1000,1000,1000,1000": {999, 1},
		"1:1000,1000,1000,1000,1000,1000,1000,1000,1000":    {999, 1},
	} {
		checkSpare(t, text, want[0], want[1])
	}
}

// TestCountedWeights counts games with weights in another way than the program: they are those without trades.
func TestCountedWeights(t *testing.T) {
	for members, want := range []int{0, 1, 4, 18, 148} {
		if members == 0 {
			continue
		}
		traded := slices.DeleteFunc(ballotsOf(members), func(b ballot) bool { return b.hasTrade(members) })
		if len(traded) != want {
			t.Fatalf("the test finds %d games of %d members without trades", len(traded), members)
		}
		checkAnswer(t, callOf("CountWeighted", impl.CountWeighted, members), want)
	}
}
