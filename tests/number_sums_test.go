package tests

import (
	"math/rand"
	"slices"
	"testing"

	"loop.example/g01084/impl"
)

// sampleLengths returns all lists of lengths with one or two elements, all those up to 9, and others made by chance.
func sampleLengths() [][]int {
	lists := [][]int{}
	for a := 1; a <= 40; a++ {
		lists = append(lists, []int{a})
		for b := a + 1; b <= 40; b++ {
			lists = append(lists, []int{a, b})
		}
	}
	for k := 3; k <= 9; k++ {
		for _, list := range subsetsByHand(9, k) {
			lists = append(lists, shifted(list, 1, 1))
		}
	}
	r := rand.New(rand.NewSource(25))
	for range 300 {
		factor := 1 + r.Intn(4)
		list := r.Perm(40 / factor)[:3+r.Intn(4)]
		slices.Sort(list)
		lists = append(lists, shifted(list, factor, 1))
	}
	return append(lists, shifted(rising(40), 1, 1), shifted(rising(39), 1, 2), []int{36, 38, 40}, []int{38, 39, 40})
}

// shifted returns the numbers, each with the number added and then multiplied.
func shifted(list []int, factor, added int) []int {
	moved := []int{}
	for _, x := range list {
		moved = append(moved, factor*(x+added))
	}
	return moved
}

// sumsByHand tells which numbers below the limit are sums, found by steps from 0.
func sumsByHand(l []int, limit int) []bool {
	met := make([]bool, limit)
	met[0] = true
	open := []int{0}
	for len(open) > 0 {
		n := open[len(open)-1]
		open = open[:len(open)-1]
		for _, length := range l {
			if m := n + length; m < limit && !met[m] {
				met[m] = true
				open = append(open, m)
			}
		}
	}
	return met
}

// divisorByHand tries all divisors.
func divisorByHand(l []int) int {
	for d := 40; d > 1; d-- {
		if !slices.ContainsFunc(l, func(x int) bool { return x%d > 0 }) {
			return d
		}
	}
	return 1
}

func TestGreatestCommonDivisors(t *testing.T) {
	for _, l := range sampleLengths() {
		got, ok := impl.GcdOf(l)
		wantNumber(t, got, ok, divisorByHand(l), "divisor of", l)
	}
	for _, c := range [][]int{{1, 1}, {40, 40}, {2, 2, 40}, {1, 1, 40}, {6, 12, 18, 30}, {1, 6, 10, 15}, {20, 20, 40}, {1, 39, 40}} {
		got, ok := impl.GcdOf(c[1:])
		wantNumber(t, got, ok, c[0], "divisor of", c[1:])
	}
}

func TestConductors(t *testing.T) {
	const limit = 4000
	for _, l := range sampleLengths() {
		isSum, divisor := sumsByHand(l, limit), divisorByHand(l)
		want := 0
		for n := 0; n < limit; n += divisor {
			if !isSum[n] {
				want = n + 1
			}
		}
		got, ok := impl.ConductorOf(l)
		wantNumber(t, got, ok, want, "conductor of", l)
	}
}

func TestConductorsOfChosenLengths(t *testing.T) {
	for _, c := range [][]int{{0, 1}, {0, 5}, {0, 40}, {0, 1, 40}, {0, 2, 4}, {0, 7, 14, 35}, {2, 2, 3}, {3, 4, 6}, {15, 6, 10}, {30, 6, 10, 15}, {1482, 39, 40}, {0, 20, 40}, {2*(19*20-19-20) + 1, 38, 40}} {
		got, ok := impl.ConductorOf(c[1:])
		wantNumber(t, got, ok, c[0], "conductor of", c[1:])
	}
}

// TestConductorsOfTwoLengths compares with the formula of Sylvester for the greatest number that is no sum.
func TestConductorsOfTwoLengths(t *testing.T) {
	for a := 1; a <= 40; a++ {
		for b := a + 1; b <= 40; b++ {
			d := divisorByHand([]int{a, b})
			want := d*((a/d)*(b/d)-a/d-b/d) + 1
			got, ok := impl.ConductorOf([]int{a, b})
			wantNumber(t, got, ok, max(want, 0), "conductor of", a, b)
		}
	}
}

// greatestCounts returns the lexicographically greatest list of counts with the sum n, by trying all.
func greatestCounts(l []int, n int) ([]int, bool) {
	if len(l) == 0 {
		return nil, n == 0
	}
	for count := n / l[0]; count >= 0; count-- {
		if rest, ok := greatestCounts(l[1:], n-count*l[0]); ok {
			return append([]int{count}, rest...), true
		}
	}
	return nil, false
}

func TestSums(t *testing.T) {
	for k, l := range sampleLengths() {
		for n := range 90 {
			if len(l) > 5 && n > 40 {
				break
			}
			wantSum(t, l, n)
		}
		for n := 100 + k%13; n <= 2000 && len(l) < 4; n += 271 {
			wantSum(t, l, n)
		}
	}
	for _, l := range [][]int{{1}, {40}, {1, 40}, {39, 40}, {38, 40}, {3, 5, 40}} {
		for n := 1990; n <= 2000; n++ {
			wantSum(t, l, n)
		}
	}
}

func wantSum(t *testing.T, l []int, n int) {
	t.Helper()
	want, fine := greatestCounts(l, n)
	got, ok := impl.SumsTo(l, n)
	if !fine {
		refused(t, "no sum", got, ok)
		return
	}
	wantList(t, got, ok, want, n, "as a sum of", l)
}

func TestSumsUpToTheLimit(t *testing.T) {
	for k, l := range sampleLengths() {
		if k%17 > 0 && len(l) < 39 {
			continue
		}
		isSum := sumsByHand(l, 2001)
		for n, want := range isSum {
			got, ok := impl.SumsTo(l, n)
			if ok != want || ok && len(got) != len(l) {
				t.Fatalf("%d as a sum of %v: %v %v", n, l, got, ok)
			}
			total := 0
			for i, count := range got {
				if count < 0 {
					t.Fatalf("%d as a sum of %v: %v", n, l, got)
				}
				total += count * l[i]
			}
			if ok && total != n {
				t.Fatalf("%d as a sum of %v: %v", n, l, got)
			}
		}
	}
}

func TestSumsAreTheGreatestOfAllPossibleLists(t *testing.T) {
	for _, c := range []struct {
		l    []int
		n    int
		want []int
	}{
		{[]int{3, 5}, 0, []int{0, 0}},
		{[]int{3, 5}, 15, []int{5, 0}},
		{[]int{3, 5}, 8, []int{1, 1}},
		{[]int{4, 6, 9}, 22, []int{4, 1, 0}},
		{[]int{4, 6, 9}, 27, []int{3, 1, 1}},
		{[]int{1, 2, 3}, 2000, []int{2000, 0, 0}},
		{[]int{1}, 0, []int{0}},
		{[]int{1}, 1, []int{1}},
		{[]int{40}, 2000, []int{50}},
		{[]int{39, 40}, 2000, []int{40, 11}},
		{[]int{5, 7, 11}, 18, []int{0, 1, 1}},
		{shifted(rising(40), 1, 1), 40, append([]int{40}, make([]int, 39)...)},
	} {
		got, ok := impl.SumsTo(c.l, c.n)
		wantList(t, got, ok, c.want, c.n, "as a sum of", c.l)
	}
	for _, c := range [][]int{{7, 3, 5}, {1, 2}, {1999, 2, 4}, {1999, 40}, {41, 40}, {39, 40}, {1481, 39, 40}} {
		got, ok := impl.SumsTo(c[1:], c[0])
		refused(t, "no sum", got, ok)
	}
}
