package tests

import (
	"math"
	"math/big"
	"slices"

	"loop.example/g01275/impl"
)

func share(num, den int) impl.Share { return impl.Share{Num: num, Den: den} }

// sharesOf takes a Num and a Den in turn.
func sharesOf(numbers ...int) []impl.Share {
	var list []impl.Share
	for pair := range slices.Chunk(numbers, 2) {
		list = append(list, share(pair[0], pair[1]))
	}
	return list
}

// partOf reduces a fraction with other means than the program.
func partOf(num, den int) impl.Share {
	r := big.NewRat(int64(num), int64(den))
	return share(int(r.Num().Int64()), int(r.Denom().Int64()))
}

func partsOf(numbers []int, den int) []impl.Share {
	var list []impl.Share
	for _, n := range numbers {
		list = append(list, partOf(n, den))
	}
	return list
}

func ratOf(s impl.Share) *big.Rat { return big.NewRat(int64(s.Num), int64(s.Den)) }

// validShares are all with low Dens, and some that meet the limits.
func validShares() []impl.Share {
	list := sharesOf(
		1, 1000000, 3, 1000000, 499999, 1000000, 500001, 1000000, 999997, 1000000, 999999, 1000000,
		1, 999999, 499999, 999999, 500000, 999999, 999998, 999999,
		1, 999983, 999982, 999983, 1, 500000, 499999, 500000, 1, 333333, 2, 333333, 333332, 333333,
		1, 15625, 15624, 15625, 1, 64, 63, 64, 1, 101, 100, 101, 1, 9901, 1, 999, 1, 1001, 577, 1000, 577, 1001, 1, 362880, 362879, 362880,
	)
	for den := 1; den <= 16; den++ {
		for num := range den + 1 {
			if s := share(num, den); partOf(num, den) == s {
				list = append(list, s)
			}
		}
	}
	return list
}

// invalidShares are none, each for one reason; some products of their numbers run over.
func invalidShares() []impl.Share {
	return sharesOf(
		0, 0, 1, 0, -1, 0, math.MaxInt, 0, math.MinInt, 0,
		0, 2, 0, 1000000, 2, 2, 5, 5, 2, 4, 3, 6, 4, 6, 10, 15, 2, 1000000, 500000, 1000000, 1000000, 1000000, 333333, 999999,
		2, 1, 3, 2, 1000000, 1, 1000000, 999999, 1000001, 1000000, math.MaxInt, 1, math.MaxInt, 1000000,
		-1, 1, -1, 2, -1, 1000000, -2, 1, math.MinInt, 1, math.MinInt, 1000000,
		0, -1, 1, -1, 1, -2, -1, -1, -1, -2, -2, -1, -3, -2,
		1, 1000001, 0, 1000001, 500000, 1000001, 1000000, 1000001, 1000001, 1000001, 1, 1000003,
		1, math.MaxInt, math.MaxInt-1, math.MaxInt, math.MaxInt, math.MaxInt, 0, math.MaxInt,
		1, math.MinInt, math.MinInt, math.MinInt, math.MinInt, -1, -1, math.MinInt, 0, math.MinInt, math.MaxInt, math.MinInt, math.MinInt, math.MaxInt,
		1, 1<<32+1, 1<<32, 1<<32+1, 1<<32+1, 1<<33, 1, 1<<62,
	)
}
