package tests

import (
	"fmt"
	"testing"

	"loop.example/g01084/impl"
)

// treeByHand looks for the ports of each node that lead nearer to the root.
func treeByHand(n impl.Network, row []int) []int {
	ports := []int{}
	for v, list := range n.Ends {
		port := -1
		for i := len(list) - 1; i >= 0; i-- {
			if row[v] >= 1 && row[list[i].Node] == row[v]-1 {
				port = i
			}
		}
		ports = append(ports, port)
	}
	return ports
}

func TestSpanningTrees(t *testing.T) {
	for _, n := range metricNetworks(t) {
		for root, row := range distanceTable(n) {
			ports, ok := impl.SpanningTree(n, root)
			wantList(t, ports, ok, treeByHand(n, row), "spanning tree with the root", root, "of", n)
		}
	}
}

// treeOf returns the component of the root with only the edges of its spanning tree.
func treeOf(t *testing.T, n impl.Network, root int) impl.Network {
	ports, ok := impl.SpanningTree(n, root)
	ball, fine := impl.BallOf(n, root, 40)
	edges, number := [][]int{}, map[int]int{}
	for k, v := range ball {
		number[v] = k
	}
	for v, i := range ports {
		if i >= 0 {
			edges = append(edges, []int{number[v], number[n.Ends[v][i].Node]})
		}
	}
	if !ok || !fine || len(edges) != len(ball)-1 {
		t.Fatalf("%d edges of a spanning tree with the root %d of %v", len(edges), root, n)
	}
	return edgeByEdge(len(ball), edges)
}

// TestSpanningTreesAreTrees keeps only the edges of a spanning tree, which makes no distance from the root longer.
func TestSpanningTreesAreTrees(t *testing.T) {
	for k, n := range metricNetworks(t) {
		for root := k % 3; root < len(n.Ends); root += 3 {
			tree := treeOf(t, n, root)
			is, ok := impl.IsTree(tree)
			wantTruth(t, is, ok, true, "spanning tree with the root", root, "of", n)
			ball, _ := impl.BallOf(n, root, 40)
			distances, _ := impl.DistancesFrom(n, root)
			for x, v := range ball {
				if v != root {
					continue
				}
				near, ok := impl.DistancesFrom(tree, x)
				for y, w := range ball {
					wantNumber(t, near[y], ok, distances[w], "distance from", root, "to", w, "in", n)
				}
			}
		}
	}
}

// wantPath compares the path with the first one, with the distance and with the spanning tree of its end.
func wantPath(t *testing.T, n impl.Network, v, w int, want []int) {
	t.Helper()
	path, ok := impl.PathBetween(n, v, w)
	wantList(t, path, ok, want, "path from", v, "to", w, "in", n)
	wantNumber(t, followed(n, v, path).Node, ok, w, "end of the path from", v, "to", w, "in", n)
	distances, ok := impl.DistancesFrom(n, w)
	wantNumber(t, len(path), ok, distances[v], "length of the path from", v, "to", w, "in", n)
	ports, ok := impl.SpanningTree(n, w)
	for k, i := range path {
		wantNumber(t, ports[followed(n, v, path[:k]).Node], ok, i, "port towards", w, "in", n)
	}
}

func TestPaths(t *testing.T) {
	for k, n := range metricNetworks(t) {
		step := 1 + len(n.Ends)/8
		for v := k % step; v < len(n.Ends); v += step {
			ways := waysFrom(n, v)
			for w := range n.Ends {
				if ways[w] != nil {
					wantPath(t, n, v, w, ways[w])
					continue
				}
				path, ok := impl.PathBetween(n, v, w)
				refused(t, fmt.Sprint("path from ", v, " to ", w, " in ", n), path, ok)
			}
		}
	}
}

// TestShortestPathsAmongSeveral has ports that lead to the same node, to greater nodes first, and away.
func TestShortestPathsAmongSeveral(t *testing.T) {
	// Node 0 has a stub, a loop and two edges to node 3; the nodes 2 and 3 lead to node 4, and node 1 does not.
	n := edgeByEdge(6, [][]int{{0}, {0, 0}, {0, 3}, {0, 3}, {0, 2}, {1, 3}, {2, 4}, {3, 4}, {3, 4}})
	wantPath(t, n, 0, 0, nil)
	wantPath(t, n, 0, 3, []int{3})
	wantPath(t, n, 3, 0, []int{0})
	wantPath(t, n, 0, 4, []int{3, 3})
	wantPath(t, n, 4, 0, []int{0, 0})
	wantPath(t, n, 1, 0, []int{0, 0})
	ports, ok := impl.SpanningTree(n, 0)
	wantList(t, ports, ok, []int{-1, 0, 0, 0, 0, -1}, "spanning tree")
	ports, ok = impl.SpanningTree(n, 4)
	wantList(t, ports, ok, []int{3, 0, 1, 3, -1, -1}, "spanning tree")
	ports, ok = impl.SpanningTree(n, 5)
	wantList(t, ports, ok, []int{-1, -1, -1, -1, -1, -1}, "a node without ports")
	path, ok := impl.PathBetween(n, 0, 5)
	refused(t, "to a node without ports", path, ok)
	path, ok = impl.PathBetween(n, 5, 0)
	refused(t, "from a node without ports", path, ok)
	wantPath(t, n, 5, 5, nil)
	// In a hypercube all orders of the bits that differ are shortest walks.
	cube := sure(t)(impl.HypercubeNetwork(5))
	wantPath(t, cube, 9, 22, []int{0, 1, 2, 3, 4})
	wantPath(t, cube, 31, 4, []int{0, 1, 3, 4})
	grid := sure(t)(impl.GridNetwork(4, 4))
	wantPath(t, grid, 0, 15, []int{0, 1, 1, 1, 2, 2})
	wantPath(t, sure(t)(impl.CycleNetwork(6)), 1, 4, []int{0, 0, 0})
	wantPath(t, sure(t)(impl.CycleNetwork(40)), 39, 18, []int{0, 0, 0, 0, 0, 0, 0, 0, 0, 0, 0, 0, 0, 0, 0, 0, 0, 0, 0})
}

// TestTreesOfOneComponent leave the nodes of other components without a port.
func TestTreesOfOneComponent(t *testing.T) {
	path := sure(t)(impl.PathNetwork(3))
	n := sure(t)(impl.UnionOf(sure(t)(impl.UnionOf(path, zeroInputs(full(1)))), path))
	for root, want := range [][]int{{-1, 0, 0, -1, -1, -1, -1}, {0, -1, 0, -1, -1, -1, -1}, {0, 1, -1, -1, -1, -1, -1}, {-1, -1, -1, -1, -1, -1, -1}, {-1, -1, -1, -1, -1, 0, 0}, {-1, -1, -1, -1, 0, -1, 0}, {-1, -1, -1, -1, 0, 1, -1}} {
		ports, ok := impl.SpanningTree(n, root)
		wantList(t, ports, ok, want, "root", root)
	}
}
