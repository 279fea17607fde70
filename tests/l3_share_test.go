package tests

import (
	"slices"
	"testing"

	"loop.example/g01275/impl"
)

func TestShareConstants(t *testing.T) {
	if impl.MaxScanned != 60 || impl.MaxPeople != 1000000 {
		t.Error(impl.MaxScanned, impl.MaxPeople)
	}
}

// sharesWanted has what is told of the least winning sets and of the weights of one committee.
type sharesWanted struct {
	text              string
	counts            []int
	parts, even       []impl.Share
	sizes             []int
	smallest, largest int
	weights           []impl.Share
	signs             []int
}

func knownShares() []sharesWanted {
	return []sharesWanted{
		{
			text: "5:3,2,2,1", counts: []int{2, 2, 2, 1}, parts: sharesOf(2, 7, 2, 7, 2, 7, 1, 7), even: sharesOf(1, 3, 5, 18, 5, 18, 1, 9),
			sizes: []int{0, 0, 2, 1, 0}, smallest: 2, largest: 2, weights: sharesOf(3, 8, 1, 4, 1, 4, 1, 8), signs: []int{1, 0, 0, -1},
		},
		{ // one member
			text: "1:1", counts: []int{1}, parts: sharesOf(1, 1), even: sharesOf(1, 1),
			sizes: []int{0, 1}, smallest: 1, largest: 0, weights: sharesOf(1, 1), signs: []int{0},
		},
		{
			text: "7:1000", counts: []int{1}, parts: sharesOf(1, 1), even: sharesOf(1, 1),
			sizes: []int{0, 1}, smallest: 1, largest: 0, weights: sharesOf(1, 1), signs: []int{0},
		},
		{ // a member without weight, before the dictator
			text: "1:0,1", counts: []int{0, 1}, parts: sharesOf(0, 1, 1, 1), even: sharesOf(0, 1, 1, 1),
			sizes: []int{0, 1, 0}, smallest: 1, largest: 1, weights: sharesOf(0, 1, 1, 1), signs: []int{0, 0},
		},
		{ // members without weight between others
			text: "5:3,0,2,0", counts: []int{1, 0, 1, 0}, parts: sharesOf(1, 2, 0, 1, 1, 2, 0, 1), even: sharesOf(1, 2, 0, 1, 1, 2, 0, 1),
			sizes: []int{0, 0, 1, 0, 0}, smallest: 2, largest: 3, weights: sharesOf(3, 5, 0, 1, 2, 5, 0, 1), signs: []int{-1, 0, 1, 0},
		},
		{ // a dictator and dummies
			text: "4:4,1,1", counts: []int{1, 0, 0}, parts: sharesOf(1, 1, 0, 1, 0, 1), even: sharesOf(1, 1, 0, 1, 0, 1),
			sizes: []int{0, 1, 0, 0}, smallest: 1, largest: 2, weights: sharesOf(2, 3, 1, 6, 1, 6), signs: []int{1, -1, -1},
		},
		{ // a veto
			text: "5:4,1,1", counts: []int{2, 1, 1}, parts: sharesOf(1, 2, 1, 4, 1, 4), even: sharesOf(1, 2, 1, 4, 1, 4),
			sizes: []int{0, 0, 2, 0}, smallest: 2, largest: 2, weights: sharesOf(2, 3, 1, 6, 1, 6), signs: []int{0, 0, 0},
		},
		{ // a dummy with weight
			text: "4:2,2,1", counts: []int{1, 1, 0}, parts: sharesOf(1, 2, 1, 2, 0, 1), even: sharesOf(1, 2, 1, 2, 0, 1),
			sizes: []int{0, 0, 1, 0}, smallest: 2, largest: 2, weights: sharesOf(2, 5, 2, 5, 1, 5), signs: []int{1, 1, -1},
		},
		{ // the Quota 1
			text: "1:3,2,0,1", counts: []int{1, 1, 0, 1}, parts: sharesOf(1, 3, 1, 3, 0, 1, 1, 3), even: sharesOf(1, 3, 1, 3, 0, 1, 1, 3),
			sizes: []int{0, 3, 0, 0, 0}, smallest: 1, largest: 1, weights: sharesOf(1, 2, 1, 3, 0, 1, 1, 6), signs: []int{-1, 0, 0, 1},
		},
		{ // the Quota of all weights together
			text: "6:3,2,0,1", counts: []int{1, 1, 0, 1}, parts: sharesOf(1, 3, 1, 3, 0, 1, 1, 3), even: sharesOf(1, 3, 1, 3, 0, 1, 1, 3),
			sizes: []int{0, 0, 0, 1, 0}, smallest: 3, largest: 3, weights: sharesOf(1, 2, 1, 3, 0, 1, 1, 6), signs: []int{-1, 0, 0, 1},
		},
		{ // members in as many sets, but in smaller ones
			text: "4:1,2,1,2", counts: []int{2, 2, 2, 2}, parts: sharesOf(1, 4, 1, 4, 1, 4, 1, 4), even: sharesOf(2, 9, 5, 18, 2, 9, 5, 18),
			sizes: []int{0, 0, 1, 2, 0}, smallest: 2, largest: 2, weights: sharesOf(1, 6, 1, 3, 1, 6, 1, 3), signs: []int{0, 0, 0, 0},
		},
		{
			text: "51:50,49,1", counts: []int{2, 1, 1}, parts: sharesOf(1, 2, 1, 4, 1, 4), even: sharesOf(1, 2, 1, 4, 1, 4),
			sizes: []int{0, 0, 2, 0}, smallest: 2, largest: 2, weights: sharesOf(1, 2, 49, 100, 1, 100), signs: []int{1, -1, 1},
		},
		{
			text: "30:28,12,10,6,4", counts: []int{4, 2, 2, 2, 2}, parts: sharesOf(1, 3, 1, 6, 1, 6, 1, 6, 1, 6), even: sharesOf(2, 5, 3, 20, 3, 20, 3, 20, 3, 20),
			sizes: []int{0, 0, 4, 0, 1, 0}, smallest: 2, largest: 3, weights: sharesOf(7, 15, 1, 5, 1, 6, 1, 10, 1, 15), signs: []int{1, -1, -1, 0, 1},
		},
		{ // nine members of different weights
			text: "23:9,8,7,6,5,4,3,2,1", counts: []int{25, 23, 25, 24, 24, 22, 21, 18, 12},
			parts: sharesOf(25, 194, 23, 194, 25, 194, 12, 97, 12, 97, 11, 97, 21, 194, 9, 97, 6, 97),
			even:  sharesOf(367, 2640, 329, 2640, 117, 880, 1, 8, 41, 330, 29, 264, 17, 165, 227, 2640, 73, 1320),
			sizes: []int{0, 0, 0, 2, 24, 16, 2, 0, 0, 0}, smallest: 3, largest: 6,
			weights: sharesOf(1, 5, 8, 45, 7, 45, 2, 15, 1, 9, 4, 45, 1, 15, 2, 45, 1, 45), signs: []int{1, 1, -1, -1, -1, -1, -1, -1, -1},
		},
	}
}

func TestKnownShares(t *testing.T) {
	for _, x := range knownShares() {
		c := mustParse(t, x.text)
		checkNumbers(t, "LeastSetCounts", c, impl.LeastSetCounts, x.counts)
		checkShares(t, "LeastSetShares", c, impl.LeastSetShares, x.parts)
		checkShares(t, "EvenSetPowers", c, impl.EvenSetPowers, x.even)
		checkNumbers(t, "SizesOfLeast", c, impl.SizesOfLeast, x.sizes)
		checkNumber(t, "SmallestWin", c, impl.SmallestWin, x.smallest)
		checkNumber(t, "LargestLoss", c, impl.LargestLoss, x.largest)
		checkShares(t, "WeightShares", c, impl.WeightShares, x.weights)
		checkNumbers(t, "PowerSigns", c, impl.PowerSigns, x.signs)
	}
}

func checkNumber(t *testing.T, name string, c impl.Committee, fn func(impl.Committee) (int, bool), want int) {
	t.Helper()
	if got, ok := fn(c); !ok || got != want {
		t.Fatalf("%s(%v) = %v, %v, want %v", name, c, got, ok, want)
	}
}

// TestNineEqualMembers has as many least winning sets as there can be, and as few.
func TestNineEqualMembers(t *testing.T) {
	ninths := slices.Repeat(sharesOf(1, 9), 9)
	for _, x := range []struct {
		text       string
		need, sets int
		each       int
	}{
		{"1:1,1,1,1,1,1,1,1,1", 1, 9, 1},
		{"4:1,1,1,1,1,1,1,1,1", 4, 126, 56},
		{"5:1,1,1,1,1,1,1,1,1", 5, 126, 70},
		{"9:1,1,1,1,1,1,1,1,1", 9, 1, 1},
		{"1:1000,1000,1000,1000,1000,1000,1000,1000,1000", 1, 9, 1},
		{"9000:1000,1000,1000,1000,1000,1000,1000,1000,1000", 9, 1, 1},
	} {
		c := mustParse(t, x.text)
		checkNumbers(t, "LeastSetCounts", c, impl.LeastSetCounts, ofWeight(x.each, 9))
		checkShares(t, "LeastSetShares", c, impl.LeastSetShares, ninths)
		checkShares(t, "EvenSetPowers", c, impl.EvenSetPowers, ninths)
		sizes := make([]int, 10)
		sizes[x.need] = x.sets
		checkNumbers(t, "SizesOfLeast", c, impl.SizesOfLeast, sizes)
		checkNumber(t, "SmallestWin", c, impl.SmallestWin, x.need)
		checkNumber(t, "LargestLoss", c, impl.LargestLoss, x.need-1)
		checkShares(t, "WeightShares", c, impl.WeightShares, ninths)
		checkNumbers(t, "PowerSigns", c, impl.PowerSigns, ofWeight(0, 9))
	}
	dictator := mustParse(t, "1:0,0,0,0,0,0,0,0,1000")
	checkNumbers(t, "LeastSetCounts", dictator, impl.LeastSetCounts, []int{0, 0, 0, 0, 0, 0, 0, 0, 1})
	checkNumbers(t, "SizesOfLeast", dictator, impl.SizesOfLeast, []int{0, 1, 0, 0, 0, 0, 0, 0, 0, 0})
	checkNumber(t, "LargestLoss", dictator, impl.LargestLoss, 8)
	checkShares(t, "WeightShares", dictator, impl.WeightShares, sharesOf(0, 1, 0, 1, 0, 1, 0, 1, 0, 1, 0, 1, 0, 1, 0, 1, 1, 1))
	checkNumbers(t, "PowerSigns", dictator, impl.PowerSigns, ofWeight(0, 9))
}

// TestSlightSigns has powers that differ from weight shares by little: 1 / 3 and 333 / 1000 or so.
func TestSlightSigns(t *testing.T) {
	for _, x := range []struct {
		text  string
		signs []int
	}{
		{"501:333,333,334", []int{1, 1, -1}},
		{"501:333,334,333", []int{1, -1, 1}},
		{"1500:1000,1000,999", []int{-1, -1, 1}},
		{"1500:1000,1000,1000", []int{0, 0, 0}},
		{"1500:1000,1000,1000,0", []int{0, 0, 0, 0}},
		{"4500:1000,1000,1000,1000,1000,1000,1000,1000,999", []int{-1, -1, -1, -1, -1, -1, -1, -1, 1}},
	} {
		checkNumbers(t, "PowerSigns", mustParse(t, x.text), impl.PowerSigns, x.signs)
	}
}
