package tests

import (
	"math/rand"
	"slices"
	"testing"

	"loop.example/g01084/impl"
)

// pascal returns how many subsets with k elements a set with n elements has, for n and k in 0..60.
func pascal() [61][61]int {
	var table [61][61]int
	for n := range table {
		table[n][0] = 1
		for k := 1; k <= n; k++ {
			table[n][k] = table[n-1][k-1] + table[n-1][k]
		}
	}
	return table
}

func TestNumbersOfSubsets(t *testing.T) {
	table := pascal()
	for n, row := range table {
		for k, want := range row {
			got, ok := impl.Binomial(n, k)
			wantNumber(t, got, ok, want, "subsets", n, k)
		}
	}
	got, ok := impl.Binomial(60, 30)
	wantNumber(t, got, ok, 118264581564861424, "a number beyond the whole numbers")
	got, ok = impl.Binomial(0, 0)
	wantNumber(t, got, ok, 1, "subsets of no element")
	got, ok = impl.Binomial(3, 4)
	wantNumber(t, got, ok, 0, "more elements than there are")
}

// following turns the list into the one behind it among those of its length, by the least change at the latest place.
func following(l []int, n int) bool {
	for i := len(l) - 1; i >= 0; i-- {
		if l[i] < n-len(l)+i {
			l[i]++
			for j := i + 1; j < len(l); j++ {
				l[j] = l[j-1] + 1
			}
			return true
		}
	}
	return false
}

// subsetsByHand returns the subsets, given by bits of numbers, in order.
func subsetsByHand(n, k int) [][]int {
	lists := [][]int{}
	for set := range 1 << n {
		list := []int{}
		for x := range n {
			if set>>x&1 == 1 {
				list = append(list, x)
			}
		}
		if len(list) == k {
			lists = append(lists, list)
		}
	}
	slices.SortFunc(lists, slices.Compare)
	return lists
}

func TestSubsetsOfSmallSets(t *testing.T) {
	for n := range 13 {
		for k := range 15 {
			want := subsetsByHand(n, k)
			got, ok := impl.SubsetsOf(n, k)
			if !ok || !same(got, want) {
				t.Fatalf("subsets %d %d: %v %v, want %v", n, k, got, ok, want)
			}
			for r, list := range want {
				wantRank(t, n, list, r)
			}
			list, ok := impl.SubsetAt(n, k, len(want))
			refused(t, "an index beyond the last one", list, ok)
		}
	}
}

// wantRank checks that the list has the index r, and no other list has.
func wantRank(t *testing.T, n int, list []int, r int) {
	t.Helper()
	rank, ok := impl.SubsetRank(n, list)
	wantNumber(t, rank, ok, r, "index of", list, "below", n)
	back, ok := impl.SubsetAt(n, len(list), r)
	wantList(t, back, ok, list, "list with the index", r, "below", n)
}

func TestSubsetsOfLargeSets(t *testing.T) {
	for n, row := range pascal() {
		for k, count := range row {
			got, ok := impl.SubsetsOf(n, k)
			if count > 1000 {
				refused(t, "too many subsets", got, ok)
				continue
			}
			if !ok || len(got) != count {
				t.Fatalf("subsets %d %d: %d lists %v, want %d", n, k, len(got), ok, count)
			}
			list := rising(k)
			for r := range got {
				wantList(t, got[r], true, list, "subset", n, k, r)
				wantRank(t, n, list, r)
				if more := following(list, n); more != (r < count-1) {
					t.Fatalf("subsets %d %d: the list %d is not the last one", n, k, r)
				}
			}
		}
	}
}

// rising returns the first list of k integers.
func rising(k int) []int {
	list := []int{}
	for x := range k {
		list = append(list, x)
	}
	return list
}

func TestNumbersOfSubsetsAroundTheLimit(t *testing.T) {
	for _, c := range []struct{ n, k, count int }{{45, 2, 990}, {19, 3, 969}, {19, 16, 969}, {12, 6, 924}, {60, 59, 60}, {60, 60, 1}, {60, 0, 1}, {0, 0, 1}, {0, 1, 0}, {0, 60, 0}, {59, 60, 0}} {
		got, ok := impl.SubsetsOf(c.n, c.k)
		if !ok || len(got) != c.count {
			t.Errorf("subsets %d %d: %d lists %v, want %d", c.n, c.k, len(got), ok, c.count)
		}
	}
	for _, c := range [][2]int{{14, 4}, {14, 10}, {46, 2}, {46, 44}, {20, 3}, {60, 30}, {60, 58}} {
		got, ok := impl.SubsetsOf(c[0], c[1])
		refused(t, "too many subsets", got, ok)
	}
}

func TestEmptySubset(t *testing.T) {
	for _, n := range []int{0, 1, 7, 60} {
		got, ok := impl.SubsetsOf(n, 0)
		if !ok || len(got) != 1 || len(got[0]) != 0 {
			t.Errorf("subsets %d 0: %v %v", n, got, ok)
		}
		wantRank(t, n, nil, 0)
		list, ok := impl.SubsetAt(n, 0, 1)
		refused(t, "a second empty list", list, ok)
	}
}

func TestRanksOfLargeSubsets(t *testing.T) {
	r := rand.New(rand.NewSource(24))
	table := pascal()
	for range 4000 {
		n := r.Intn(61)
		k := r.Intn(n + 1)
		list := r.Perm(n)[:k]
		slices.Sort(list)
		rank, ok := impl.SubsetRank(n, list)
		if !ok || rank < 0 || rank >= table[n][k] {
			t.Fatalf("index of %v below %d: %d %v", list, n, rank, ok)
		}
		wantRank(t, n, list, rank)
		if following(list, n) {
			wantRank(t, n, list, rank+1)
		} else if rank != table[n][k]-1 {
			t.Fatalf("index of the last list %v below %d: %d", list, n, rank)
		}
	}
	for n, row := range table {
		for k := range n + 1 {
			last := []int{}
			for i := range k {
				last = append(last, n-k+i)
			}
			wantRank(t, n, rising(k), 0)
			wantRank(t, n, last, row[k]-1)
			for _, index := range []int{row[k], row[k] + 1, maxInt, -1, minInt} {
				list, ok := impl.SubsetAt(n, k, index)
				refused(t, "no such index", list, ok)
			}
		}
	}
}
