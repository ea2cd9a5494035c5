package tests

import (
	"fmt"
	"testing"

	"loop.example/g01084/impl"
)

// wantUnfolded compares with the network of walks that are named by their ports, and fails the test if they differ.
func wantUnfolded(t *testing.T, n impl.Network, v, steps int) {
	t.Helper()
	got, ok := impl.UnfoldNetwork(n, v, steps)
	want, wantOk := unfoldedByHand(n, v, steps)
	wantNetwork(t, fmt.Sprint("unfolded from ", v, " with ", steps, " steps: ", n), got, ok, want, wantOk)
	if !ok {
		return
	}
	if !impl.IsNetwork(got) || len(got.Ids) > 0 {
		t.Fatalf("%v is no network without identifiers", got)
	}
	// Nodes less than steps away have all their ports.
	for depth := range steps {
		is, ok := impl.SameView(n, v, got, 0, depth)
		wantTruth(t, is, ok, true, "depth", depth, "of", n, v, "unfolded", steps)
	}
}

func TestUnfoldedNetworks(t *testing.T) {
	for k, n := range viewNetworks(t) {
		for v := range n.Ends {
			if v%9 == k%9 || k%7 == 0 {
				for _, steps := range []int{0, 1, 2, 3, 4} {
					wantUnfolded(t, n, v, steps)
				}
			}
		}
		for _, steps := range []int{5, 10, 19, 20, 39, 40, 79, 80} {
			wantUnfolded(t, n, k%len(n.Ends), steps)
		}
	}
}

func TestUnfoldedKnownNetworks(t *testing.T) {
	check := func(n impl.Network, v, steps int, ports string) {
		t.Helper()
		wantPorts(t, fmt.Sprint("unfolded from ", v, " with ", steps, " steps: ", n), ports)(impl.UnfoldNetwork(n, v, steps))
	}
	cycle, path := sure(t)(impl.CycleNetwork(3)), sure(t)(impl.PathNetwork(3))
	for v := range 3 {
		check(cycle, v, 0, "")
		check(cycle, v, 1, "1.0 2.0|0.0|0.1")
		check(cycle, v, 2, "1.1 2.0|3.0 0.0|0.1 4.0|1.0|2.1")
		check(cycle, v, 3, "1.1 2.0|3.1 0.0|0.1 4.0|5.0 1.0|2.1 6.0|3.0|4.1")
		check(path, v, 0, "")
	}
	check(path, 0, 1, "1.0|0.0")
	for _, steps := range []int{2, 3, 80} {
		check(path, 0, steps, "1.0|0.0 2.0|1.1")
		check(path, 1, steps, "1.0 2.0|0.0|0.1")
		check(path, 2, steps, "1.1|2.0 0.0|1.0")
	}
	stub, loop := sure(t)(impl.BouquetNetwork(1, 0)), sure(t)(impl.BouquetNetwork(0, 1))
	three := sure(t)(impl.BouquetNetwork(3, 0))
	check(stub, 0, 0, "")
	for _, steps := range []int{1, 2, 80} {
		check(stub, 0, steps, "1.0|0.0")
		check(zeroInputs(bare(3)), 1, steps, "")
	}
	check(loop, 0, 1, "1.0 2.0|0.0|0.1")
	check(loop, 0, 2, "1.1 2.0|3.0 0.0|0.1 4.0|1.0|2.1")
	check(three, 0, 1, "1.0 2.0 3.0|0.0|0.1|0.2")
	check(three, 0, 2, "1.0 2.1 3.2|0.0 4.0 5.0|6.0 0.1 7.0|8.0 9.0 0.2|1.1|1.2|2.0|2.2|3.0|3.1")
	check(sure(t)(impl.BouquetNetwork(6, 0)), 0, 1, "1.0 2.0 3.0 4.0 5.0 6.0|0.0|0.1|0.2|0.3|0.4|0.5")
	// Two edges between the same nodes: the way back may be the other one.
	twice := zeroInputs(joined([]int{2, 2}, [4]int{0, 0, 1, 1}, [4]int{0, 1, 1, 0}))
	check(twice, 0, 1, "1.0 2.0|0.0|0.1")
	check(twice, 0, 2, "1.1 2.0|3.0 0.0|0.1 4.0|1.0|2.1")
}

func TestUnfoldedNetworksKeepInputsAndLoseIdentifiers(t *testing.T) {
	n := withIds(withInputs(joined([]int{1, 2, 1}, [4]int{0, 0, 1, 1}, [4]int{1, 0, 2, 0}), 3, 4, 5), 9, 8, 7)
	want := withInputs(joined([]int{2, 1, 1}, [4]int{0, 1, 2, 0}, [4]int{0, 0, 1, 0}), 4, 5, 3)
	for _, steps := range []int{1, 2, 80} {
		got, ok := impl.UnfoldNetwork(n, 1, steps)
		wantNetwork(t, "the middle", got, ok, want, true)
	}
	got, ok := impl.UnfoldNetwork(n, 1, 0)
	wantNetwork(t, "the middle alone", got, ok, withInputs(bare(1), 4), true)
	got, ok = impl.UnfoldNetwork(n, 2, 1)
	wantNetwork(t, "an end and the middle", got, ok, withInputs(joined([]int{1, 1}, [4]int{0, 0, 1, 0}), 5, 4), true)
}

func TestUnfoldedTreesAreTheSameTrees(t *testing.T) {
	for k := 1; k <= 40; k++ {
		path := sure(t)(impl.PathNetwork(k))
		for v := range k {
			for _, steps := range []int{max(v, k-1-v) + 1, 80} {
				u := sure(t)(impl.UnfoldNetwork(path, v, steps))
				if !areIsomorphic(path, u) {
					t.Fatalf("path %d unfolded from %d: %v", k, v, u)
				}
			}
		}
	}
	for d := range 7 {
		tree := sure(t)(impl.RegularTree(d, 2))
		for v := range tree.Ends {
			if u := sure(t)(impl.UnfoldNetwork(tree, v, 5)); !areIsomorphic(tree, u) {
				t.Fatalf("tree %d unfolded from %d: %v", d, v, u)
			}
		}
		// From the root, the walks are numbered as the nodes of a regular tree are.
		u, ok := impl.UnfoldNetwork(tree, 0, 2)
		wantNetwork(t, "a tree unfolded from its root", u, ok, tree, true)
	}
}

// TestRegularNetworksUnfoldToRegularTrees has the same numbers of walks, as ports do not count for them.
func TestRegularNetworksUnfoldToRegularTrees(t *testing.T) {
	for _, c := range symmetricNetworks(t) {
		for steps := range 6 {
			u, ok := impl.UnfoldNetwork(c.n, len(c.n.Ends)/2, steps)
			tree, wantOk := impl.RegularTree(c.degree, steps)
			if ok != wantOk || len(u.Ends) != len(tree.Ends) {
				t.Fatalf("%s with %d steps: %v %v", c.name, steps, u, ok)
			}
		}
	}
}

func TestUnfoldedNetworksAtTheLimit(t *testing.T) {
	check := func(nodes int, n impl.Network, v, steps int) {
		t.Helper()
		u, ok := impl.UnfoldNetwork(n, v, steps)
		if nodes > 40 {
			refused(t, "too many walks", u, ok)
		} else if !ok || len(u.Ends) != nodes || !impl.IsNetwork(u) {
			t.Errorf("%d walks: %v %v", nodes, u, ok)
		}
		wantUnfolded(t, n, v, steps)
	}
	cycle := sure(t)(impl.CycleNetwork(3))
	check(39, cycle, 0, 19)
	check(41, cycle, 0, 20)
	check(41, cycle, 0, 80)
	path := sure(t)(impl.PathNetwork(40))
	check(40, path, 0, 39)
	check(40, path, 0, 80)
	check(40, path, 39, 40)
	longer := sure(t)(impl.AddStub(path, 39))
	check(40, longer, 0, 39)
	check(41, longer, 0, 40)
	check(41, longer, 0, 80)
	check(37, full(2), 1, 2)
	check(41, full(2), 1, 3)
	check(41, full(40), 39, 80)
	// Walks that cannot go on are as many with each number of steps.
	check(7, sure(t)(impl.StarNetwork(6)), 3, 80)
	// A tree of 37 nodes with a tail of three more, at the end of which a stub leads back.
	tree := sure(t)(impl.UnionOf(sure(t)(impl.RegularTree(6, 2)), sure(t)(impl.PathNetwork(3))))
	tree = sure(t)(impl.AddEdge(tree, 36, 37))
	check(40, tree, 0, 5)
	check(40, tree, 0, 80)
	tree = sure(t)(impl.AddStub(tree, 39))
	check(40, tree, 0, 5)
	check(41, tree, 0, 6)
}

// TestEqualViewsUnfoldToEqualNetworks unfolds nodes of a network and of its cover.
func TestEqualViewsUnfoldToEqualNetworks(t *testing.T) {
	for _, n := range deepNetworks(t) {
		if len(n.Ends) > 20 {
			continue
		}
		cover := sure(t)(impl.DoubleCover(n))
		for v := range n.Ends {
			for _, steps := range []int{0, 1, 2, 6} {
				want, wantOk := impl.UnfoldNetwork(n, v, steps)
				for _, w := range []int{v, v + len(n.Ends)} {
					got, ok := impl.UnfoldNetwork(cover, w, steps)
					wantNetwork(t, fmt.Sprint("cover of ", n, w, steps), got, ok, want, wantOk)
				}
			}
		}
	}
}
