package tests

import (
	"testing"

	"loop.example/g01084/impl"
)

func TestGirth(t *testing.T) {
	met := map[int]int{}
	for _, n := range metricNetworks(t) {
		girth, ok := impl.GirthOf(n)
		want := girthByHand(n)
		met[min(want, 8)]++
		if want == 0 {
			refused(t, "girth", girth, ok)
		} else {
			wantNumber(t, girth, ok, want, "girth of", n)
		}
	}
	for k := range 9 {
		if met[k] < 5 {
			t.Error("only", met[k], "networks with the girth", k)
		}
	}
}

func TestForestsAndTrees(t *testing.T) {
	met := map[bool]int{}
	for _, n := range metricNetworks(t) {
		forest := isForestByHand(n)
		is, ok := impl.IsForest(n)
		wantTruth(t, is, ok, forest, "forest", n)
		is, ok = impl.IsTree(n)
		wantTruth(t, is, ok, forest && len(componentsByHand(n)) == 1, "tree", n)
		if forest {
			met[is]++
		}
	}
	if met[true] < 30 || met[false] < 30 {
		t.Error("forests that are trees and that are not:", met)
	}
}

// TestCyclesAgreeWithForests compares girths, edges, components and stubs of the same network.
func TestCyclesAgreeWithForests(t *testing.T) {
	for _, n := range metricNetworks(t) {
		_, hasCycle := impl.GirthOf(n)
		stubs := 0
		edges, ok := impl.EdgesOf(n)
		for _, e := range edges {
			if e[0] == e[2] && e[1] == e[3] {
				stubs++
			}
		}
		forest, fine := impl.IsForest(n)
		wantTruth(t, forest, ok && fine, !hasCycle && stubs == 0, "no cycles and no stubs in", n)
		tree, fine := impl.IsTree(n)
		connected, ok := impl.IsConnected(n)
		wantTruth(t, tree, ok && fine, forest && connected, "connected forest", n)
		if tree && len(edges) != len(n.Ends)-1 {
			t.Fatalf("a tree with %d edges: %v", len(edges), n)
		}
		if forest {
			// One more edge within a component closes a cycle, whose length tells the distance of its ends.
			last := len(n.Ends) - 1
			d, _ := impl.DistancesFrom(n, last)
			if m, ok := impl.AddEdge(n, 0, last); ok && d[0] >= 0 {
				girth, ok := impl.GirthOf(m)
				wantNumber(t, girth, ok, d[0]+1, "an edge between", 0, last, "more than in", n)
			}
		}
	}
}

func TestShortestCycles(t *testing.T) {
	check := func(want int, what string, n impl.Network) {
		t.Helper()
		girth, ok := impl.GirthOf(n)
		wantNumber(t, girth, ok, want, what)
	}
	loop := zeroInputs(joined([]int{2}, [4]int{0, 0, 0, 1}))
	twice := zeroInputs(joined([]int{2, 2}, [4]int{0, 0, 1, 0}, [4]int{0, 1, 1, 1}))
	check(1, "a loop", loop)
	check(2, "two edges", twice)
	check(1, "two edges and a loop", sure(t)(impl.UnionOf(twice, loop)))
	three, six := sure(t)(impl.CycleNetwork(3)), sure(t)(impl.CycleNetwork(6))
	check(3, "the shorter cycle last", sure(t)(impl.UnionOf(six, three)))
	check(3, "the shorter cycle first", sure(t)(impl.UnionOf(three, six)))
	check(3, "a stub beside", sure(t)(impl.AddStub(three, 2)))
	check(4, "a long cycle that is cut", sure(t)(impl.AddEdge(six, 1, 4)))
	check(2, "one edge repeated", sure(t)(impl.AddEdge(six, 3, 4)))
	for _, n := range []impl.Network{zeroInputs(bare(1)), zeroInputs(bare(40)), zeroInputs(full(40)), sure(t)(impl.StarNetwork(6)), pair()} {
		girth, ok := impl.GirthOf(n)
		refused(t, "no cycle", girth, ok)
	}
}

func TestSmallForests(t *testing.T) {
	check := func(forest, tree bool, what string, n impl.Network) {
		t.Helper()
		is, ok := impl.IsForest(n)
		wantTruth(t, is, ok, forest, "forest:", what)
		is, ok = impl.IsTree(n)
		wantTruth(t, is, ok, tree, "tree:", what)
	}
	path := sure(t)(impl.PathNetwork(5))
	check(true, true, "one node", zeroInputs(bare(1)))
	check(true, false, "two nodes without ports", zeroInputs(bare(2)))
	check(true, true, "a path", path)
	check(true, false, "two paths", sure(t)(impl.UnionOf(path, path)))
	check(false, false, "a stub alone", sure(t)(impl.BouquetNetwork(1, 0)))
	check(false, false, "a loop alone", sure(t)(impl.BouquetNetwork(0, 1)))
	check(false, false, "a path with a stub", sure(t)(impl.AddStub(path, 2)))
	check(false, false, "a path with a loop", sure(t)(impl.AddEdge(path, 4, 4)))
	check(false, false, "a path with a repeated edge", sure(t)(impl.AddEdge(path, 1, 0)))
	check(false, false, "a path and a stub", sure(t)(impl.UnionOf(path, zeroInputs(full(1)))))
	// As many edges as a tree has, but in the wrong places.
	check(false, false, "a cycle and a node", sure(t)(impl.UnionOf(sure(t)(impl.CycleNetwork(3)), zeroInputs(bare(1)))))
	check(false, false, "an edge and two nodes with stubs", edgeByEdge(4, [][]int{{0, 1}, {2}, {3}}))
	check(true, true, "a tree with the most ports", sure(t)(impl.RegularTree(6, 2)))
}

// TestSubdividedNetworks have cycles and distances that are twice as long, and walks between nodes of n are even.
func TestSubdividedNetworks(t *testing.T) {
	subdivided := 0
	for _, n := range metricNetworks(t) {
		m, ok := impl.SubdivideEdges(n)
		if !ok {
			continue
		}
		subdivided++
		girth, fine := impl.GirthOf(n)
		double, ok := impl.GirthOf(m)
		wantNumber(t, double, ok == fine, 2*girth, "girth of", m)
		for v := range n.Ends {
			near, _ := impl.DistancesFrom(n, v)
			far, ok := impl.DistancesFrom(m, v)
			for w, d := range near {
				if !ok || far[w] != max(2*d, -1) {
					t.Fatalf("distance %d of %d and %d in %v, %d in %v", d, v, w, n, far[w], m)
				}
			}
		}
		first, fine := impl.IsForest(n)
		second, ok := impl.IsForest(m)
		wantTruth(t, second, ok && fine, first, "forest", m)
	}
	if subdivided < 300 {
		t.Error("only", subdivided, "networks")
	}
}
