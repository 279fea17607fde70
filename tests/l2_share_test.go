package tests

import (
	"math/big"
	"testing"

	"loop.example/g01275/impl"
)

func TestCompareShares(t *testing.T) {
	for _, x := range []struct {
		a, b impl.Share
		want int
	}{
		{share(0, 1), share(0, 1), 0},
		{share(1, 1), share(1, 1), 0},
		{share(0, 1), share(1, 1), -1},
		{share(1, 1), share(0, 1), 1},
		{share(5, 12), share(1, 4), 1},
		{share(1, 4), share(5, 12), -1},
		{share(1, 2), share(1, 3), 1},
		{share(1, 3), share(2, 3), -1},
		{share(2, 5), share(2, 3), -1},
		{share(0, 1), share(1, 1000000), -1},
		{share(1, 1), share(999999, 1000000), 1},
		{share(1, 1000000), share(1, 999999), -1},
		{share(999998, 999999), share(999999, 1000000), -1},
		{share(999999, 1000000), share(999999, 1000000), 0},
	} {
		if n, ok := impl.CompareShares(x.a, x.b); !ok || n != x.want {
			t.Errorf("CompareShares(%v, %v) = %v, %v", x.a, x.b, n, ok)
		}
	}
}

func TestAddShares(t *testing.T) {
	for _, x := range []struct {
		a, b, want impl.Share
	}{
		{share(0, 1), share(0, 1), share(0, 1)},
		{share(0, 1), share(1, 1), share(1, 1)},
		{share(0, 1), share(999999, 1000000), share(999999, 1000000)},
		{share(1, 2), share(1, 2), share(1, 1)},
		{share(1, 3), share(2, 3), share(1, 1)},
		{share(5, 12), share(1, 4), share(2, 3)},
		{share(1, 4), share(1, 12), share(1, 3)},
		{share(1, 6), share(1, 3), share(1, 2)},
		{share(1, 2), share(1, 3), share(5, 6)},
		{share(1, 1000000), share(999999, 1000000), share(1, 1)},
		{share(1, 1000000), share(499999, 1000000), share(1, 2)},
		// The Den that is the greatest one, and those that are 1 less and 1 more.
		{share(1, 64), share(1, 15625), share(15689, 1000000)},
		{share(1, 999), share(1, 1001), share(2000, 999999)},
		{share(1, 101), share(1, 9901), impl.Share{}},
		{share(1, 999999), share(1, 1000000), impl.Share{}},
		{share(1, 999983), share(1, 2), impl.Share{}},
		// Sums that are greater than 1, by much or by little.
		{share(1, 1), share(1, 1), impl.Share{}},
		{share(1, 1), share(1, 1000000), impl.Share{}},
		{share(1, 2), share(500001, 1000000), impl.Share{}},
		{share(1, 2), share(2, 3), impl.Share{}},
		{share(999999, 1000000), share(999999, 1000000), impl.Share{}},
	} {
		wantOK := x.want != impl.Share{}
		if s, ok := impl.AddShares(x.a, x.b); ok != wantOK || s != x.want {
			t.Errorf("AddShares(%v, %v) = %v, %v", x.a, x.b, s, ok)
		}
		if s, ok := impl.AddShares(x.b, x.a); ok != wantOK || s != x.want {
			t.Errorf("AddShares(%v, %v) = %v, %v", x.b, x.a, s, ok)
		}
	}
}

// TestSharesByTheirWords compares all pairs of many shares with exact fractions.
func TestSharesByTheirWords(t *testing.T) {
	list := validShares()
	added, exceeding := 0, 0
	for _, a := range list {
		for _, b := range list {
			x, y := ratOf(a), ratOf(b)
			if n, ok := impl.CompareShares(a, b); !ok || n != x.Cmp(y) {
				t.Fatalf("CompareShares(%v, %v) = %v, %v", a, b, n, ok)
			}
			sum := new(big.Rat).Add(x, y)
			fits := sum.Cmp(big.NewRat(1, 1)) <= 0 && sum.Denom().Cmp(big.NewInt(1000000)) <= 0
			want := impl.Share{}
			if fits {
				want = share(int(sum.Num().Int64()), int(sum.Denom().Int64()))
				added++
			} else {
				exceeding++
			}
			if s, ok := impl.AddShares(a, b); ok != fits || s != want {
				t.Fatalf("AddShares(%v, %v) = %v, %v, want %v", a, b, s, ok, want)
			}
		}
	}
	if added < 1000 || exceeding < 1000 {
		t.Error("too few sums of a kind", added, exceeding)
	}
}

func TestInvalidShares(t *testing.T) {
	invalid := invalidShares()
	for _, s := range invalid {
		for _, other := range append(validShares(), invalid...) {
			callOf("CompareShares", impl.CompareShares, s, other).mustFail(t)
			callOf("CompareShares", impl.CompareShares, other, s).mustFail(t)
			callOf("AddShares", impl.AddShares, s, other).mustFail(t)
			callOf("AddShares", impl.AddShares, other, s).mustFail(t)
		}
	}
}

// TestAllSmallFractions tells which fractions with numbers near 0 are shares.
func TestAllSmallFractions(t *testing.T) {
	for den := -6; den <= 24; den++ {
		for num := -6; num <= 30; num++ {
			s := share(num, den)
			want := den >= 1 && num >= 0 && num <= den && partOf(num, den) == s
			if sum, ok := impl.AddShares(s, share(0, 1)); ok != want || ok && sum != s {
				t.Errorf("AddShares(%v, 0/1) = %v, %v", s, sum, ok)
			}
			if n, ok := impl.CompareShares(s, s); ok != want || n != 0 {
				t.Errorf("CompareShares of %v with itself = %v, %v", s, n, ok)
			}
		}
	}
}
