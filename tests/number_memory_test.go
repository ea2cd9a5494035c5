package tests

import (
	"reflect"
	"testing"

	"loop.example/g01084/impl"
)

// argumentsOfChapter2 returns numbers and lists around the limits of the chapter.
func argumentsOfChapter2() map[reflect.Type][]any {
	numbers := []any{}
	for _, x := range []int{minInt, minInt + 1, -1, 0, 1, 2, 3, 5, 12, 39, 40, 45, 60, 61, 63, 64, 990, 997, 1000, 1001, 2000, 2001, million, million + 1, maxWhole, maxWhole + 1, maxInt - 1, maxInt} {
		numbers = append(numbers, x)
	}
	lists := []any{}
	for _, l := range [][]int{nil, {}, {0}, {1}, {3}, {40}, {41}, {-1}, {0, 1}, {1, 0}, {1, 1}, {3, 5}, {2, 4}, {39, 40}, {4, 6, 9}, {0, 2, 5}, {minInt}, {maxInt}, {minInt, maxInt}, {999, 999}, {1, maxInt}, rising(60), rising(61), shifted(rising(40), 1, 1), shifted(rising(41), 1, 1), make([]int, 60), make([]int, 61), make([]int, 5000)} {
		lists = append(lists, l)
	}
	return map[reflect.Type][]any{reflect.TypeFor[int](): numbers, reflect.TypeFor[[]int](): lists}
}

func TestCallsOfChapter2KeepToTheirMemory(t *testing.T) {
	choices := argumentsOfChapter2()
	everyCall(t, "BitLength", impl.BitLength, choices)
	everyCall(t, "BitAt", impl.BitAt, choices)
	everyCall(t, "FirstDifferentBit", impl.FirstDifferentBit, choices)
	everyCall(t, "LogStar", impl.LogStar, choices)
	everyCall(t, "IsPrime", impl.IsPrime, choices)
	everyCall(t, "NextPrime", impl.NextPrime, choices)
	everyCall(t, "DigitsOf", impl.DigitsOf, choices)
	everyCall(t, "FromDigits", impl.FromDigits, choices)
	everyCall(t, "PolynomialAt", impl.PolynomialAt, choices)
	everyCall(t, "Binomial", impl.Binomial, choices)
	everyCall(t, "SubsetsOf", impl.SubsetsOf, choices)
	everyCall(t, "SubsetRank", impl.SubsetRank, choices)
	everyCall(t, "SubsetAt", impl.SubsetAt, choices)
	everyCall(t, "GcdOf", impl.GcdOf, choices)
	everyCall(t, "SumsTo", impl.SumsTo, choices)
	everyCall(t, "ConductorOf", impl.ConductorOf, choices)
}
