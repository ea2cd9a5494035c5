package tests

import (
	"fmt"
	"slices"
	"testing"

	"loop.example/g01084/impl"
)

// outside returns numbers that are not in the range, next to it and near the ends of int.
func outside(least, greatest int) []int {
	list := []int{minInt, minInt + 1, -maxWhole, least - 2, least - 1, greatest + 1, greatest + 2, 1 << 40, 1 << 62, maxInt - 1, maxInt}
	return slices.DeleteFunc(list, func(x int) bool { return x >= least && x <= greatest })
}

func TestNumbersThatAreNotWholeAreRefused(t *testing.T) {
	for _, x := range outside(0, maxWhole) {
		what := fmt.Sprint("number ", x)
		n, ok := impl.BitLength(x)
		refused(t, what, n, ok)
		n, ok = impl.LogStar(x)
		refused(t, what, n, ok)
		for _, y := range []int{0, 1, 63, x} {
			n, ok = impl.BitAt(x, y)
			refused(t, what, n, ok)
			n, ok = impl.FirstDifferentBit(x, y)
			refused(t, what, n, ok)
			n, ok = impl.FirstDifferentBit(y, x)
			refused(t, what, n, ok)
		}
		list, ok := impl.DigitsOf(x, 10, 60)
		refused(t, what, list, ok)
		list, ok = impl.DigitsOf(x, 2, 60)
		refused(t, what, list, ok)
	}
	n, ok := impl.LogStar(0)
	refused(t, "logarithms of 0", n, ok)
	n, ok = impl.FirstDifferentBit(0, 0)
	refused(t, "equal numbers", n, ok)
	n, ok = impl.FirstDifferentBit(maxWhole, maxWhole)
	refused(t, "equal numbers", n, ok)
}

func TestNumbersAtTheLimitsAreTaken(t *testing.T) {
	n, ok := impl.BitAt(maxWhole, 63)
	wantNumber(t, n, ok, 0, "digit 63")
	n, ok = impl.BitAt(1, 0)
	wantNumber(t, n, ok, 1, "digit 0")
	n, ok = impl.FirstDifferentBit(maxWhole, 0)
	wantNumber(t, n, ok, 12, "first different digit")
	n, ok = impl.LogStar(1)
	wantNumber(t, n, ok, 0, "logarithms of 1")
	list, ok := impl.DigitsOf(maxWhole, 1000, 60)
	wantList(t, list, ok, append([]int{0, 0, 0, 0, 1}, make([]int, 55)...), "digits")
	n, ok = impl.PolynomialAt(997, append(make([]int, 59), 996), 996)
	wantNumber(t, n, ok, 1, "60 coefficients")
	n, ok = impl.PolynomialAt(2, []int{1, 1}, 1)
	wantNumber(t, n, ok, 0, "the least field")
}

func TestPlacesOfDigitsOutOfRangeAreRefused(t *testing.T) {
	for _, i := range outside(0, 63) {
		for _, x := range []int{0, 1, maxWhole} {
			n, ok := impl.BitAt(x, i)
			refused(t, fmt.Sprint("digit ", i, " of ", x), n, ok)
		}
	}
}

func TestNumbersThatAreNoPrimes(t *testing.T) {
	for _, n := range append(outside(0, million), 0, 1, 1000003, 1000000007, 2147483647, 999999999989) {
		if impl.IsPrime(n) {
			t.Errorf("%d: taken for a prime of at most 1000000", n)
		}
	}
	for _, n := range outside(0, million) {
		p, ok := impl.NextPrime(n)
		refused(t, fmt.Sprint("prime from ", n), p, ok)
	}
}

func TestBasesAndCountsOutOfRangeAreRefused(t *testing.T) {
	for _, base := range outside(2, 1000) {
		what := fmt.Sprint("base ", base)
		for _, count := range []int{0, 1, 60} {
			list, ok := impl.DigitsOf(0, base, count)
			refused(t, what, list, ok)
			n, ok := impl.FromDigits(base, make([]int, count))
			refused(t, what, n, ok)
		}
		list, ok := impl.DigitsOf(5, base, 60)
		refused(t, what, list, ok)
	}
	for _, count := range outside(0, 60) {
		for _, x := range []int{0, 1, 7} {
			list, ok := impl.DigitsOf(x, 10, count)
			refused(t, fmt.Sprint("count ", count), list, ok)
		}
	}
}

func TestDigitsThatAreNotBelowTheBaseAreRefused(t *testing.T) {
	for _, base := range []int{2, 3, 10, 1000} {
		for _, x := range outside(0, base-1) {
			for _, digits := range [][]int{{x}, {x, 0}, {0, x}, {0, x, 0}, append(make([]int, 59), x), append([]int{x}, make([]int, 59)...)} {
				n, ok := impl.FromDigits(base, digits)
				refused(t, fmt.Sprint("digits ", digits, " to the base ", base), n, ok)
			}
		}
		n, ok := impl.FromDigits(base, make([]int, 61))
		refused(t, "61 digits", n, ok)
		n, ok = impl.FromDigits(base, make([]int, 100000))
		refused(t, "100000 digits", n, ok)
	}
}

func TestPolynomialsWithoutFieldsAreRefused(t *testing.T) {
	for _, q := range append(outside(2, 1000), 0, 1, 4, 6, 9, 15, 25, 49, 561, 841, 961, 999, 1000, 1009, 1013) {
		for _, f := range [][]int{nil, {0}, {1, 1}} {
			for _, x := range []int{0, 1} {
				n, ok := impl.PolynomialAt(q, f, x)
				refused(t, fmt.Sprint("modulo ", q), n, ok)
			}
		}
	}
	for _, q := range []int{2, 3, 7, 997} {
		for _, x := range outside(0, q-1) {
			for _, f := range [][]int{nil, {0}, {1, 1}} {
				n, ok := impl.PolynomialAt(q, f, x)
				refused(t, fmt.Sprint("at ", x, " modulo ", q), n, ok)
			}
			for _, f := range [][]int{{x}, {0, x}, {x, 0}, append(make([]int, 59), x)} {
				n, ok := impl.PolynomialAt(q, f, 0)
				refused(t, fmt.Sprint(f, " modulo ", q), n, ok)
			}
		}
		n, ok := impl.PolynomialAt(q, make([]int, 61), 1)
		refused(t, "61 coefficients", n, ok)
		n, ok = impl.PolynomialAt(q, make([]int, 60), 1)
		wantNumber(t, n, ok, 0, "60 coefficients")
	}
}

func TestSubsetsOutOfRangeAreRefused(t *testing.T) {
	for _, x := range outside(0, 60) {
		what := fmt.Sprint("subsets of ", x)
		for _, y := range []int{0, 1, 60, x} {
			n, ok := impl.Binomial(x, y)
			refused(t, what, n, ok)
			n, ok = impl.Binomial(y, x)
			refused(t, what, n, ok)
			lists, ok := impl.SubsetsOf(x, y)
			refused(t, what, lists, ok)
			lists, ok = impl.SubsetsOf(y, x)
			refused(t, what, lists, ok)
			list, ok := impl.SubsetAt(x, y, 0)
			refused(t, what, list, ok)
			list, ok = impl.SubsetAt(y, x, 0)
			refused(t, what, list, ok)
		}
		for _, l := range [][]int{nil, {0}, {0, 1}} {
			n, ok := impl.SubsetRank(x, l)
			refused(t, what, n, ok)
		}
	}
	list, ok := impl.SubsetAt(3, 4, 0)
	refused(t, "more elements than there are", list, ok)
	list, ok = impl.SubsetAt(0, 1, 0)
	refused(t, "an element of no set", list, ok)
}

func TestListsThatAreNoSubsetsHaveNoRank(t *testing.T) {
	for _, l := range [][]int{{5}, {-1}, {minInt}, {maxInt}, {0, 0}, {1, 0}, {0, 2, 1}, {0, 1, 1}, {4, 4}, {0, 5}, {-1, 0}, {3, 4, 5}, {0, maxInt}, {minInt, 0}, {0, 1, 2, 3, 4, 5}, {0, 1, 2, 3, 4, 4}, rising(61), make([]int, 100000)} {
		n, ok := impl.SubsetRank(5, l)
		refused(t, fmt.Sprint("index of ", len(l), " integers below 5"), n, ok)
	}
	n, ok := impl.SubsetRank(0, []int{0})
	refused(t, "an element of no set", n, ok)
	n, ok = impl.SubsetRank(60, rising(61))
	refused(t, "61 integers below 60", n, ok)
	n, ok = impl.SubsetRank(60, rising(60))
	wantNumber(t, n, ok, 0, "60 integers below 60")
}

func TestListsThatAreNoLengthsAreRefused(t *testing.T) {
	lists := [][]int{nil, {}, {3, 3}, {5, 3}, {1, 2, 2}, {1, 3, 2}, {3, 5, 4, 6}, shifted(rising(41), 1, 0), shifted(rising(41), 1, 1), make([]int, 100000), {0, 0}}
	for _, x := range outside(1, 40) {
		lists = append(lists, []int{x}, []int{x, 7}, []int{7, x}, []int{1, 7, x})
	}
	for _, l := range lists {
		what := fmt.Sprint("lengths, ", len(l), " of them, from ", l[:min(4, len(l))])
		n, ok := impl.GcdOf(l)
		refused(t, what, n, ok)
		n, ok = impl.ConductorOf(l)
		refused(t, what, n, ok)
		for _, sum := range []int{0, 1, 40, 2000} {
			counts, ok := impl.SumsTo(l, sum)
			refused(t, what, counts, ok)
		}
	}
}

func TestSumsOutOfRangeAreRefused(t *testing.T) {
	for _, n := range outside(0, 2000) {
		for _, l := range [][]int{{1}, {40}, {3, 5}, {1, 2, 40}} {
			counts, ok := impl.SumsTo(l, n)
			refused(t, fmt.Sprint(n, " as a sum of ", l), counts, ok)
		}
	}
}
