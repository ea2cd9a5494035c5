package tests

import (
	"fmt"
	"testing"

	"loop.example/g01084/impl"
)

// TestStandardNetworksAtTheLimits meets each limit of nodes and ports exactly, and exceeds it by one.
func TestStandardNetworksAtTheLimits(t *testing.T) {
	meets := func(nodes int, name string) func(impl.Network, bool) {
		return func(n impl.Network, ok bool) {
			t.Helper()
			if !ok || !impl.IsNetwork(n) || len(n.Ends) != nodes {
				t.Errorf("%s: got %v %v, want %d nodes", name, n, ok, nodes)
			}
		}
	}
	meets(40, "path 40")(impl.PathNetwork(40))
	noNetwork(t, "path 41")(impl.PathNetwork(41))
	meets(40, "cycle 40")(impl.CycleNetwork(40))
	noNetwork(t, "cycle 41")(impl.CycleNetwork(41))
	meets(7, "complete 7")(impl.CompleteNetwork(7))
	noNetwork(t, "complete 8")(impl.CompleteNetwork(8))
	meets(7, "star 6")(impl.StarNetwork(6))
	noNetwork(t, "star 7")(impl.StarNetwork(7))
	meets(40, "grid 5 8")(impl.GridNetwork(5, 8))
	meets(40, "grid 40 1")(impl.GridNetwork(40, 1))
	meets(40, "torus 8 5")(impl.TorusNetwork(8, 5))
	meets(40, "torus 1 40")(impl.TorusNetwork(1, 40))
	for _, sizes := range [][2]int{{41, 1}, {1, 41}, {3, 14}, {6, 7}, {9, 5}, {21, 2}} {
		noNetwork(t, "grid ", sizes)(impl.GridNetwork(sizes[0], sizes[1]))
		noNetwork(t, "torus ", sizes)(impl.TorusNetwork(sizes[0], sizes[1]))
	}
	meets(32, "hypercube 5")(impl.HypercubeNetwork(5))
	noNetwork(t, "hypercube 6")(impl.HypercubeNetwork(6))
	noNetwork(t, "hypercube 7")(impl.HypercubeNetwork(7))
	meets(37, "tree 6 2")(impl.RegularTree(6, 2))
	noNetwork(t, "tree 7 1")(impl.RegularTree(7, 1))
	meets(39, "tree 2 19")(impl.RegularTree(2, 19))
	noNetwork(t, "tree 2 20")(impl.RegularTree(2, 20))
	meets(40, "circulant 40")(impl.CirculantNetwork(40, []int{39, 0, 20}))
	noNetwork(t, "circulant 41")(impl.CirculantNetwork(41, []int{39, 0, 20}))
	noNetwork(t, "circulant 41 without steps")(impl.CirculantNetwork(41, nil))
	noNetwork(t, "circulant with four steps")(impl.CirculantNetwork(40, []int{1, 2, 3, 4}))
	meets(1, "bouquet 6 0")(impl.BouquetNetwork(6, 0))
	noNetwork(t, "bouquet 7 0")(impl.BouquetNetwork(7, 0))
	meets(1, "bouquet 0 3")(impl.BouquetNetwork(0, 3))
	noNetwork(t, "bouquet 1 3")(impl.BouquetNetwork(1, 3))
	noNetwork(t, "bouquet 5 1")(impl.BouquetNetwork(5, 1))
}

func TestCoversAndSubdivisionsAtTheLimits(t *testing.T) {
	if n, ok := impl.DoubleCover(withIds(full(20), idsUpTo(20)...)); !ok || len(n.Ends) != 40 || len(n.Ids) != 0 {
		t.Error("double cover of 20 nodes", n, ok)
	}
	noNetwork(t, "double cover of 21 nodes")(impl.DoubleCover(full(21)))
	noNetwork(t, "double cover of 40 nodes")(impl.DoubleCover(full(40)))
	twenty, _ := impl.CycleNetwork(20)
	if n, ok := impl.SubdivideEdges(twenty); !ok || len(n.Ends) != 40 {
		t.Error("20 nodes and 20 edges", n, ok)
	}
	long, _ := impl.PathNetwork(21)
	noNetwork(t, "21 nodes and 20 edges")(impl.SubdivideEdges(long))
	dense, _ := impl.CirculantNetwork(40, []int{1, 2, 3})
	noNetwork(t, "40 nodes and 120 edges")(impl.SubdivideEdges(dense))
	got, ok := impl.SubdivideEdges(withIds(full(40), idsUpTo(40)...))
	wantNetwork(t, "40 nodes with stubs", got, ok, full(40), true)
}

func TestNumbersThatMakeNoNetwork(t *testing.T) {
	for _, x := range outside(0, 100) {
		what := fmt.Sprint("number ", x)
		noNetwork(t, what)(impl.PathNetwork(x))
		noNetwork(t, what)(impl.CycleNetwork(x))
		noNetwork(t, what)(impl.CompleteNetwork(x))
		noNetwork(t, what)(impl.StarNetwork(x))
		noNetwork(t, what)(impl.HypercubeNetwork(x))
		noNetwork(t, what)(impl.CirculantNetwork(x, nil))
		noNetwork(t, what)(impl.CirculantNetwork(x, []int{0}))
		noNetwork(t, what)(impl.CirculantNetwork(x, []int{x}))
		for _, y := range []int{minInt, -1, 0, 1, 2, 4, 8, 40, 1 << 32, 1 << 61, maxInt, x} {
			what := fmt.Sprint("numbers ", x, y)
			noNetwork(t, what)(impl.GridNetwork(x, y))
			noNetwork(t, what)(impl.GridNetwork(y, x))
			noNetwork(t, what)(impl.TorusNetwork(x, y))
			noNetwork(t, what)(impl.TorusNetwork(y, x))
			noNetwork(t, what)(impl.BouquetNetwork(x, y))
			noNetwork(t, what)(impl.BouquetNetwork(y, x))
			if y != 0 || x < 0 {
				noNetwork(t, what)(impl.RegularTree(x, y))
			}
			if y != 0 && y != 1 || x < 0 {
				noNetwork(t, what)(impl.RegularTree(y, x))
			}
		}
	}
	noNetwork(t, "no node")(impl.PathNetwork(0))
	noNetwork(t, "no node")(impl.CycleNetwork(0))
	noNetwork(t, "no node")(impl.CompleteNetwork(0))
	noNetwork(t, "no node")(impl.CirculantNetwork(0, nil))
	noNetwork(t, "no row")(impl.GridNetwork(0, 3))
	noNetwork(t, "no column")(impl.GridNetwork(3, 0))
	noNetwork(t, "no row")(impl.TorusNetwork(0, 3))
	noNetwork(t, "no column")(impl.TorusNetwork(3, 0))
	noNetwork(t, "two negative sizes")(impl.GridNetwork(-3, -3))
	noNetwork(t, "two negative sizes")(impl.TorusNetwork(-3, -3))
	noNetwork(t, "less than no leaf")(impl.StarNetwork(-1))
}

// TestTreesWithoutBounds meets arguments that may be any numbers, because few nodes depend on them.
func TestTreesWithoutBounds(t *testing.T) {
	for _, x := range []int{7, 40, 41, 1 << 40, 1 << 62, maxInt - 1, maxInt} {
		wantPorts(t, fmt.Sprint("tree of depth 0 with d = ", x), "")(impl.RegularTree(x, 0))
		wantPorts(t, fmt.Sprint("tree with d = 0 of depth ", x), "")(impl.RegularTree(0, x))
		wantPorts(t, fmt.Sprint("tree with d = 1 of depth ", x), "1.0|0.0")(impl.RegularTree(1, x))
	}
	for _, depth := range []int{20, 21, 40, 1 << 40, maxInt - 1, maxInt} {
		noNetwork(t, "tree with d = 2 of depth ", depth)(impl.RegularTree(2, depth))
		noNetwork(t, "tree with d = 6 of depth ", depth)(impl.RegularTree(6, depth))
	}
}

func TestStepsOutOfRangeAreRefused(t *testing.T) {
	for _, k := range []int{1, 2, 5, 40} {
		for _, x := range outside(0, k-1) {
			for _, steps := range [][]int{{x}, {0, x}, {x, 0}, {0, 0, x}, {x, x, x}, {0, 0, 0, x}} {
				noNetwork(t, "steps ", steps, " of ", k)(impl.CirculantNetwork(k, steps))
			}
		}
		noNetwork(t, "many steps of ", k)(impl.CirculantNetwork(k, make([]int, 4)))
		noNetwork(t, "very many steps of ", k)(impl.CirculantNetwork(k, make([]int, 1000000)))
	}
}

func TestBrokenNetworksHaveNoCoverAndNoSubdivision(t *testing.T) {
	for _, c := range brokenNetworks() {
		noNetwork(t, "double cover: ", c.name)(impl.DoubleCover(c.n))
		noNetwork(t, "edges divided: ", c.name)(impl.SubdivideEdges(c.n))
	}
}
