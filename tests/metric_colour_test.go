package tests

import (
	"fmt"
	"math/rand"
	"slices"
	"testing"

	"loop.example/g01084/impl"
)

// wantOddWalk compares the walk with the first one, and with the conditions of the chapter.
func wantOddWalk(t *testing.T, n impl.Network) []int {
	t.Helper()
	walk, ok := impl.OddClosedWalk(n)
	wantList(t, walk, ok, oddWalkByHand(n), "odd closed walk of", n)
	last := len(walk) - 1
	if last%2 == 0 || walk[0] != walk[last] || !isWalk(n, walk) {
		t.Fatalf("no odd closed walk: %v in %v", walk, n)
	}
	return walk
}

// wantFirst fails the test unless the call succeeded with the first list, or failed where there is none.
func wantFirst(t *testing.T, got []int, ok bool, first []int, what ...any) {
	t.Helper()
	if first == nil {
		refused(t, fmt.Sprint(what...), got, ok)
	} else {
		wantList(t, got, ok, first, what...)
	}
}

func TestColoursOrOddClosedWalks(t *testing.T) {
	coloured := 0
	for _, n := range metricNetworks(t) {
		colours, ok := impl.TwoColouring(n)
		if want := colouringByHand(n); isColouring(n, want) {
			coloured++
			wantList(t, colours, ok, want, "two-colouring of", n)
			walk, ok := impl.OddClosedWalk(n)
			refused(t, fmt.Sprint("odd closed walk with two colours ", n), walk, ok)
			continue
		}
		refused(t, fmt.Sprint("two-colouring ", n), colours, ok)
		wantOddWalk(t, n)
	}
	if coloured < 150 {
		t.Error("only", coloured, "networks have two colours")
	}
}

// TestFirstColouringsOfSmallNetworks tries all lists in lexicographic order.
func TestFirstColouringsOfSmallNetworks(t *testing.T) {
	for _, n := range metricNetworks(t) {
		if len(n.Ends) > 6 {
			continue
		}
		var first []int
		allLists(len(n.Ends), []int{0, 1}, func(l []int) {
			if first == nil && isColouring(n, l) {
				first = l
			}
		})
		colours, ok := impl.TwoColouring(n)
		wantFirst(t, colours, ok, first, "two-colouring of ", n)
	}
}

// TestFirstOddWalksOfSmallNetworks tries all lists of nodes in lexicographic order, for each odd length. A least odd closed walk has no node twice but the first one, so that it is no longer than the number of nodes.
func TestFirstOddWalksOfSmallNetworks(t *testing.T) {
	for _, n := range metricNetworks(t) {
		if len(n.Ends) > 5 {
			continue
		}
		var first []int
		for length := 1; length <= len(n.Ends) && first == nil; length += 2 {
			allLists(length, rising(len(n.Ends)), func(l []int) {
				if walk := append(l, l[0]); first == nil && isWalk(n, walk) {
					first = walk
				}
			})
		}
		walk, ok := impl.OddClosedWalk(n)
		wantFirst(t, walk, ok, first, "odd closed walk of ", n)
	}
}

// TestOddWalksAgreeWithCycles has no stubs in its networks, so that a least odd closed walk is a cycle.
func TestOddWalksAgreeWithCycles(t *testing.T) {
	met := map[int]int{}
	for _, n := range metricNetworks(t) {
		walk, ok := impl.OddClosedWalk(n)
		if !ok {
			continue
		}
		if len(walk) == 2 {
			neighbours, ok := impl.NeighboursOf(n, walk[0])
			wantTruth(t, slices.Contains(neighbours, walk[0]), ok, true, "a node joined with itself", walk, n)
			continue
		}
		girth, ok := impl.GirthOf(n)
		if !ok || girth > len(walk)-1 {
			t.Fatalf("girth %d, but the odd closed walk %v in %v", girth, walk, n)
		}
		if girth%2 == 1 {
			wantNumber(t, len(walk)-1, ok, girth, "odd girth of", n)
		}
		nodes := slices.Clone(walk[1:])
		slices.Sort(nodes)
		if len(slices.Compact(nodes)) != len(walk)-1 || nodes[0] != walk[0] {
			t.Fatalf("no cycle from its least node: %v in %v", walk, n)
		}
		met[len(walk)-1]++
	}
	if met[3] < 20 || met[5] < 5 || met[7] < 3 || met[9] < 3 {
		t.Error("lengths of odd closed walks:", met)
	}
}

func TestOddClosedWalksOfStandardNetworks(t *testing.T) {
	check := func(n impl.Network, want ...int) {
		t.Helper()
		walk, ok := impl.OddClosedWalk(n)
		wantList(t, walk, ok, want, n)
	}
	for k := 1; k <= 39; k += 2 {
		cycle := sure(t)(impl.CycleNetwork(k))
		check(cycle, append(rising(k), 0)...)
		if colours, ok := impl.TwoColouring(cycle); ok {
			t.Error("two colours", k, colours)
		}
		even := sure(t)(impl.CycleNetwork(k + 1))
		colours, ok := impl.TwoColouring(even)
		wantList(t, colours, ok, slices.Repeat([]int{0, 1}, (k+1)/2), "cycle", k+1)
		// The nodes 0 and k have two ways to each other, one of which is even after one more edge.
		if k > 1 {
			walk := wantOddWalk(t, sure(t)(impl.AddEdge(even, 0, k-1)))
			wantNumber(t, len(walk)-1, true, 3, "a chord", k)
		}
	}
	check(sure(t)(impl.CompleteNetwork(7)), 0, 1, 2, 0)
	check(sure(t)(impl.UnionOf(sure(t)(impl.CycleNetwork(5)), sure(t)(impl.CycleNetwork(3)))), 5, 6, 7, 5)
	check(sure(t)(impl.UnionOf(sure(t)(impl.CycleNetwork(7)), sure(t)(impl.BouquetNetwork(0, 1)))), 7, 7)
	check(sure(t)(impl.BouquetNetwork(1, 0)), 0, 0)
	check(full(40), 0, 0)
	// Ports lead to greater nodes first, and the least node is not in the cycle.
	check(edgeByEdge(6, [][]int{{0, 5}, {5, 4}, {4, 3}, {5, 2}, {2, 3}, {3, 5}, {1, 2}}), 2, 3, 5, 2)
	check(edgeByEdge(6, [][]int{{0, 5}, {5, 4}, {4, 3}, {5, 2}, {2, 4}, {3, 5}, {1, 2}}), 2, 4, 5, 2)
}

// TestStubsAndLoopsAreOdd adds them to networks that have two colours.
func TestStubsAndLoopsAreOdd(t *testing.T) {
	r := rand.New(rand.NewSource(83))
	changed := 0
	for _, n := range metricNetworks(t) {
		if _, ok := impl.TwoColouring(n); !ok {
			continue
		}
		least := len(n.Ends)
		for range 3 {
			v := r.Intn(len(n.Ends))
			m, ok := impl.AddStub(n, v)
			if r.Intn(2) == 0 {
				m, ok = impl.AddEdge(n, v, v)
			}
			if !ok {
				continue
			}
			n, least = m, min(least, v)
			changed++
			walk, ok := impl.OddClosedWalk(n)
			wantList(t, walk, ok, []int{least, least}, "stubs and loops of", n)
			colours, ok := impl.TwoColouring(n)
			refused(t, fmt.Sprint("two-colouring ", n), colours, ok)
		}
	}
	if changed < 300 {
		t.Error("only", changed, "stubs and loops")
	}
}

// TestColoursAgreeWithDistances compares colours with distances from the least node, and double covers with both.
func TestColoursAgreeWithDistances(t *testing.T) {
	for _, n := range metricNetworks(t) {
		colours, coloured := impl.TwoColouring(n)
		components, ok := impl.ComponentsOf(n)
		for v := range colours {
			distances, fine := impl.DistancesFrom(n, v)
			for w, d := range distances {
				if d >= 0 && (colours[v]+colours[w]+d)%2 > 0 || colours[components[v]] != 0 || !ok || !fine {
					t.Fatalf("colours %v and distances %v from %d in %v", colours, distances, v, n)
				}
			}
		}
		cover, ok := impl.DoubleCover(n)
		if !ok {
			continue
		}
		is, ok := impl.IsConnected(n)
		both, fine := impl.IsConnected(cover)
		wantTruth(t, both, ok && fine, is && !coloured, "connected double cover of", n)
		sides, ok := impl.TwoColouring(cover)
		wantTruth(t, isColouring(cover, sides), ok, true, "colours of the double cover of", n)
	}
}

func TestColoursOfUnconnectedNetworks(t *testing.T) {
	edge := sure(t)(impl.PathNetwork(2))
	two := sure(t)(impl.UnionOf(edge, sure(t)(impl.UnionOf(zeroInputs(bare(1)), edge))))
	colours, ok := impl.TwoColouring(two)
	wantList(t, colours, ok, []int{0, 1, 0, 0, 1}, "two edges and a node")
	colours, ok = impl.TwoColouring(zeroInputs(bare(40)))
	wantList(t, colours, ok, make([]int, 40), "nodes without ports")
	colours, ok = impl.TwoColouring(sure(t)(impl.UnionOf(two, sure(t)(impl.CycleNetwork(3)))))
	refused(t, "an odd cycle beside", colours, ok)
	colours, ok = impl.TwoColouring(sure(t)(impl.CycleNetwork(2)))
	wantList(t, colours, ok, []int{0, 1}, "two edges between two nodes")
}
