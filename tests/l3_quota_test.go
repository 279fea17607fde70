package tests

import (
	"slices"
	"strconv"
	"strings"
	"sync"
	"testing"

	"loop.example/g01275/impl"
)

// fromTo has the numbers from first to last.
func fromTo(first, last int) []int {
	var list []int
	for n := first; n <= last; n++ {
		list = append(list, n)
	}
	return list
}

func TestKnownSteps(t *testing.T) {
	for _, x := range []struct {
		text          string
		steps         []int
		least, utmost int
	}{
		{"5:3,2,2,1", fromTo(1, 8), 5, 5},
		{"1:3,2,2,1", fromTo(1, 8), 1, 1},
		{"8:3,2,2,1", fromTo(1, 8), 8, 8},
		{"1:1", []int{1}, 1, 1},
		{"7:10", []int{1}, 1, 10},
		{"1:1000", []int{1}, 1, 1000},
		{"1000:1000", []int{1}, 1, 1000},
		{"1:0,1", []int{1}, 1, 1},
		{"2:0,3,0", []int{1}, 1, 3},
		{"5:3,0,2,0", []int{1, 3, 4}, 4, 5},
		{"4:4,1,1", []int{1, 2, 3, 5, 6}, 3, 4},
		{"5:4,1,1", []int{1, 2, 3, 5, 6}, 5, 5},
		{"3:4,1,1", []int{1, 2, 3, 5, 6}, 3, 4},
		{"4:2,2,1", fromTo(1, 5), 4, 4},
		{"51:50,49,1", []int{1, 2, 50, 51, 52, 100}, 51, 51},
		{"40:50,49,1", []int{1, 2, 50, 51, 52, 100}, 2, 49},
		{"53:50,49,1", []int{1, 2, 50, 51, 52, 100}, 52, 99},
		{"8:5,3,3,1", []int{1, 2, 4, 5, 6, 7, 8, 9, 10, 12}, 8, 8},
		{"60:30,30", []int{1, 31}, 31, 60},
		{"30:30,30", []int{1, 31}, 1, 30},
		{"5:1,1,1,1,1,1,1,1,1", fromTo(1, 9), 5, 5},
		{"4500:1000,1000,1000,1000,1000,1000,1000,1000,1000", []int{1, 1001, 2001, 3001, 4001, 5001, 6001, 7001, 8001}, 4001, 5000},
		{"300:1,2,4,8,16,32,64,128,256", fromTo(1, 511), 300, 300},
	} {
		c := mustParse(t, x.text)
		checkNumbers(t, "QuotaSteps", c, impl.QuotaSteps, x.steps)
		checkNumber(t, "CountVotings", c, impl.CountVotings, len(x.steps))
		if least, utmost, ok := impl.QuotaRange(c); !ok || least != x.least || utmost != x.utmost {
			t.Errorf("QuotaRange(%s) = %v, %v, %v", x.text, least, utmost, ok)
		}
	}
}

// TestKnownDummyQuotas has the quotas for each member; those of a veto end with all weights together.
func TestKnownDummyQuotas(t *testing.T) {
	for _, x := range []struct {
		weights    []int
		dummies    [][]int
		firstVetos []int
	}{
		{[]int{3, 2, 2, 1}, [][]int{nil, nil, nil, {2, 7}}, []int{6, 7, 7, 8}},
		{[]int{1}, [][]int{nil}, []int{1}},
		{[]int{10}, [][]int{nil}, []int{1}},
		{[]int{60}, [][]int{nil}, []int{1}},
		{[]int{0, 1}, [][]int{{1}, nil}, []int{2, 1}},
		{[]int{3, 0, 2, 0}, [][]int{nil, fromTo(1, 5), {3}, fromTo(1, 5)}, []int{3, 6, 4, 6}},
		{[]int{4, 1, 1}, [][]int{nil, {3, 4}, {3, 4}}, []int{3, 6, 6}},
		{[]int{2, 2, 1}, [][]int{nil, nil, {2, 4}}, []int{4, 4, 5}},
		{[]int{1, 2, 1, 2}, [][]int{nil, nil, nil, nil}, []int{6, 5, 6, 5}},
		{[]int{5, 3, 3, 1}, [][]int{nil, nil, nil, {2, 3, 5, 8, 10, 11}}, []int{8, 10, 10, 12}},
		{[]int{28, 12, 10, 6, 4}, [][]int{nil, nil, nil, nil, {5, 6, 27, 28, 33, 34, 55, 56}}, []int{33, 49, 51, 55, 57}},
		{[]int{1, 59}, [][]int{fromTo(2, 59), nil}, []int{60, 2}},
		{ofWeight(1, 9), make([][]int, 9), ofWeight(9, 9)},
		{[]int{11, 11, 9, 9, 7, 5, 4, 2, 1}, [][]int{nil, nil, nil, nil, nil, nil, nil, {4, 56}, {2, 4, 9, 11, 20, 40, 49, 51, 56, 58}}, []int{49, 49, 51, 51, 53, 55, 56, 58, 59}},
	} {
		total := 0
		for _, w := range x.weights {
			total += w
		}
		for _, quota := range []int{1, total/2 + 1, total} {
			c := committee(min(quota, total), x.weights...)
			for k := range x.weights {
				checkQuotas(t, "DummyQuotas", c, k, impl.DummyQuotas, x.dummies[k])
				checkQuotas(t, "VetoQuotas", c, k, impl.VetoQuotas, fromTo(x.firstVetos[k], total))
			}
		}
	}
}

func checkQuotas(t *testing.T, name string, c impl.Committee, k int, fn func(impl.Committee, int) ([]int, bool), want []int) {
	t.Helper()
	if got, ok := fn(c, k); !ok || !slices.Equal(got, want) {
		t.Fatalf("%s(%v, %d) = %v, %v, want %v", name, c, k, got, ok, want)
	}
}

func TestKnownFairness(t *testing.T) {
	for _, x := range []struct {
		text    string
		fairest int
		off     impl.Share
	}{
		{"5:3,2,2,1", 4, share(1, 24)},
		{"1:1", 1, share(0, 1)},
		{"7:10", 1, share(0, 1)},
		{"60:60", 1, share(0, 1)},
		{"1:0,1", 1, share(0, 1)},
		{"5:3,0,2,0", 1, share(1, 10)},
		{"4:4,1,1", 2, share(1, 3)},
		{"5:4,1,1", 2, share(0, 1)},
		{"4:2,2,1", 1, share(1, 5)},
		{"1:3,2,0,1", 1, share(1, 6)},
		{"6:3,2,0,1", 1, share(1, 6)},
		{"4:1,2,1,2", 3, share(0, 1)},
		{"8:5,3,3,1", 6, share(1, 4)},
		{"30:28,12,10,6,4", 13, share(2, 15)},
		{"1:1,59", 2, share(29, 60)},
		{"60:1,59", 2, share(29, 60)},
		{"2:1,59", 2, share(1, 60)},
		{"60:30,30", 1, share(0, 1)},
		{"5:1,1,1,1,1,1,1,1,1", 1, share(0, 1)},
		{"45:9,8,7,6,5,4,3,2,1", 11, share(4, 45)},
		{"23:9,8,7,6,5,4,3,2,1", 11, share(1, 63)},
		// The greatest Den that there is: 2520 times the greatest total without a divisor in common.
		{"28:11,11,9,9,7,5,4,2,1", 23, share(1433, 148680)},
	} {
		c := mustParse(t, x.text)
		checkNumber(t, "FairestQuota", c, impl.FairestQuota, x.fairest)
		if s, ok := impl.FarthestOff(c); !ok || s != x.off {
			t.Errorf("FarthestOff(%s) = %v, %v, want %v", x.text, s, ok, x.off)
		}
	}
}

// TestDifferencesAreShares shows that the Den of no difference is too great: the Dens of OrderPowers divide 2520, and those of weight shares the total.
func TestDifferencesAreShares(t *testing.T) {
	for members := 1; members <= impl.MaxMembers; members++ {
		for total := 1; total <= impl.MaxScanned; total++ {
			weights := make([]int, members)
			for i := range total {
				weights[i*i%members]++
			}
			for _, quota := range []int{1, (total + 3) / 4, (total + 1) / 2, total} {
				c := committee(quota, weights...)
				if s, ok := impl.FarthestOff(c); !ok || s.Den > 2520*total || 2520*total%s.Den != 0 {
					t.Fatalf("FarthestOff(%v) = %v, %v", c, s, ok)
				}
			}
		}
	}
}

// scannedCalls has the functions that require at most MaxScanned.
func scannedCalls(c impl.Committee) []call {
	return []call{
		callOf("DummyQuotas", impl.DummyQuotas, c, 0),
		callOf("VetoQuotas", impl.VetoQuotas, c, 0),
		callOf("FairestQuota", impl.FairestQuota, c),
		callOf("FarthestOff", impl.FarthestOff, c),
	}
}

// TestMaxScanned has weights that are MaxScanned together, and others that are one more, or many.
func TestMaxScanned(t *testing.T) {
	for _, weights := range [][]int{{60}, {0, 60}, {30, 30}, {59, 1}, {12, 11, 9, 8, 7, 5, 4, 3, 1}, {52, 1, 1, 1, 1, 1, 1, 1, 1}} {
		for _, quota := range []int{1, 30, 31, 60} {
			for _, x := range scannedCalls(committee(quota, weights...)) {
				out := x.results(t, x.values())
				if !out[1].Bool() {
					t.Errorf("%v fails", x)
				}
			}
		}
		for k := range weights {
			more := slices.Clone(weights)
			more[k]++
			for _, quota := range []int{1, 30, 31, 60, 61} {
				for _, x := range scannedCalls(committee(quota, more...)) {
					x.mustFail(t)
				}
			}
		}
	}
	for _, text := range []string{"1:1000", "1000:1000", "51:50,49,1", "1:64", "128:128", "1:1000,1000,1000,1000,1000,1000,1000,1000,1000"} {
		for _, x := range scannedCalls(mustParse(t, text)) {
			x.mustFail(t)
		}
	}
}

// TestFairestEachTime asks many times, as the quotas may be looked at in any order, and at the same time.
func TestFairestEachTime(t *testing.T) {
	var texts []string
	for total := 1; total <= impl.MaxScanned; total += 7 {
		texts = append(texts, "1:"+strings.Repeat("0,", total%4)+strconv.Itoa(total))
	}
	wants := append(slices.Repeat([]int{1}, len(texts)), 13, 11, 23, 2, 4)
	texts = append(texts, "30:28,12,10,6,4", "23:9,8,7,6,5,4,3,2,1", "28:11,11,9,9,7,5,4,2,1", "60:1,59", "5:3,2,2,1")
	var group sync.WaitGroup
	for i, text := range texts {
		c := mustParse(t, text)
		for range 4 {
			group.Go(func() {
				for range 25 {
					if quota, ok := impl.FairestQuota(c); !ok || quota != wants[i] {
						t.Errorf("FairestQuota(%s) = %v, %v, want %d", text, quota, ok, wants[i])
						return
					}
				}
			})
		}
	}
	group.Wait()
}
