package tests

import (
	"cmp"
	"fmt"
	"slices"
	"strings"
	"testing"

	"loop.example/g01084/impl"
)

func TestExampleOfChapter3(t *testing.T) {
	three, ok := impl.CycleNetwork(3)
	cover, fine := impl.DoubleCover(three)
	six, good := impl.CycleNetwork(6)
	if !ok || !fine || !good || !areIsomorphic(cover, six) {
		t.Error("the double cover of the cycle with three nodes", cover, fine)
	}
	if n, ok := impl.RegularTree(3, 2); !ok || len(n.Ends) != 10 {
		t.Error("the tree with d = 3 and depth 2", n, ok)
	}
}

// TestSmallestNetworks names the cases in which nodes are their own neighbours, ports are missing, or edges are repeated.
func TestSmallestNetworks(t *testing.T) {
	wantPorts(t, "path of one node", "")(impl.PathNetwork(1))
	wantPorts(t, "path of two nodes", "1.0|0.0")(impl.PathNetwork(2))
	wantPorts(t, "path of three nodes", "1.0|0.0 2.0|1.1")(impl.PathNetwork(3))
	wantPorts(t, "cycle of one node", "0.1 0.0")(impl.CycleNetwork(1))
	wantPorts(t, "cycle of two nodes", "1.1 1.0|0.1 0.0")(impl.CycleNetwork(2))
	wantPorts(t, "cycle of three nodes", "1.1 2.0|2.1 0.0|0.1 1.0")(impl.CycleNetwork(3))
	wantPorts(t, "complete network of one node", "")(impl.CompleteNetwork(1))
	wantPorts(t, "complete network of two nodes", "1.0|0.0")(impl.CompleteNetwork(2))
	wantPorts(t, "complete network of three nodes", "1.1 2.0|2.1 0.0|0.1 1.0")(impl.CompleteNetwork(3))
	wantPorts(t, "star without leaves", "")(impl.StarNetwork(0))
	wantPorts(t, "star with one leaf", "1.0|0.0")(impl.StarNetwork(1))
	wantPorts(t, "star with two leaves", "1.0 2.0|0.0|0.1")(impl.StarNetwork(2))
	wantPorts(t, "hypercube of no bit", "")(impl.HypercubeNetwork(0))
	wantPorts(t, "hypercube of one bit", "1.0|0.0")(impl.HypercubeNetwork(1))
	wantPorts(t, "hypercube of two bits", "1.0 2.1|0.0 3.1|3.0 0.1|2.0 1.1")(impl.HypercubeNetwork(2))
	wantPorts(t, "bouquet without stubs and loops", "")(impl.BouquetNetwork(0, 0))
	wantPorts(t, "bouquet of a stub", "0.0")(impl.BouquetNetwork(1, 0))
	wantPorts(t, "bouquet of a loop", "0.1 0.0")(impl.BouquetNetwork(0, 1))
	wantPorts(t, "bouquet of two stubs and two loops", "0.0 0.1 0.3 0.2 0.5 0.4")(impl.BouquetNetwork(2, 2))
}

func TestSmallestGridsAndTrees(t *testing.T) {
	wantPorts(t, "grid of one node", "")(impl.GridNetwork(1, 1))
	wantPorts(t, "grid of one row", "1.0|0.0 2.0|1.1")(impl.GridNetwork(1, 3))
	wantPorts(t, "grid of one column", "1.0|0.0 2.0|1.1")(impl.GridNetwork(3, 1))
	wantPorts(t, "grid of two rows and columns", "1.0 2.0|0.0 3.0|0.1 3.1|1.1 2.1")(impl.GridNetwork(2, 2))
	wantPorts(t, "torus of one node", "0.1 0.0 0.3 0.2")(impl.TorusNetwork(1, 1))
	wantPorts(t, "torus of one row", "1.1 1.0 0.3 0.2|0.1 0.0 1.3 1.2")(impl.TorusNetwork(1, 2))
	wantPorts(t, "torus of one column", "0.1 0.0 1.3 1.2|1.1 1.0 0.3 0.2")(impl.TorusNetwork(2, 1))
	wantPorts(t, "torus of two rows and columns", "1.1 1.0 2.3 2.2|0.1 0.0 3.3 3.2|3.1 3.0 0.3 0.2|2.1 2.0 1.3 1.2")(impl.TorusNetwork(2, 2))
	wantPorts(t, "tree of degree 0", "")(impl.RegularTree(0, 5))
	wantPorts(t, "tree of degree 1 and depth 1", "1.0|0.0")(impl.RegularTree(1, 1))
	wantPorts(t, "tree of degree 1", "1.0|0.0")(impl.RegularTree(1, 5))
	wantPorts(t, "tree of degree 2", "1.0 2.0|0.0 3.0|0.1 4.0|1.1|2.1")(impl.RegularTree(2, 2))
	wantPorts(t, "tree of depth 0", "")(impl.RegularTree(3, 0))
	wantPorts(t, "tree of degree and depth 0", "")(impl.RegularTree(0, 0))
	wantPorts(t, "tree of depth 1", "1.0 2.0 3.0|0.0|0.1|0.2")(impl.RegularTree(3, 1))
	wantPorts(t, "circulant network of one node", "")(impl.CirculantNetwork(1, nil))
	wantPorts(t, "circulant network without steps", "||")(impl.CirculantNetwork(3, []int{}))
	wantPorts(t, "circulant network with the step 0", "0.1 0.0|1.1 1.0")(impl.CirculantNetwork(2, []int{0}))
	wantPorts(t, "circulant network with equal steps", "1.1 2.0 1.3 2.2|2.1 0.0 2.3 0.2|0.1 1.0 0.3 1.2")(impl.CirculantNetwork(3, []int{1, 1}))
	wantPorts(t, "circulant network with half a turn", "2.1 2.0|3.1 3.0|0.1 0.0|1.1 1.0")(impl.CirculantNetwork(4, []int{2}))
}

func TestPathsCyclesAndStars(t *testing.T) {
	for k := -3; k <= 90; k++ {
		along, apart := [][]int{}, [][]int{}
		for v := 1; v < k; v++ {
			along = append(along, []int{v - 1, v})
		}
		for v := 1; v <= k; v++ {
			apart = append(apart, []int{0, v})
		}
		got, ok := impl.PathNetwork(k)
		wantNetwork(t, fmt.Sprint("path ", k), got, ok, edgeByEdge(max(k, 0), along), 1 <= k && k <= 40)
		got, ok = impl.StarNetwork(k)
		wantNetwork(t, fmt.Sprint("star ", k), got, ok, edgeByEdge(max(k+1, 0), apart), 0 <= k && k <= 6)
		got, ok = impl.CycleNetwork(k)
		wantNetwork(t, fmt.Sprint("cycle ", k), got, ok, byRule(max(k, 0), 2, func(v, i int) (int, int) {
			return (v + 1 + i*(k-2)) % k, 1 - i
		}), 1 <= k && k <= 40)
	}
}

func TestCompleteNetworks(t *testing.T) {
	for k := -3; k <= 90; k++ {
		want := byRule(max(k, 0), max(k-1, 0), func(v, i int) (int, int) {
			w := (v + 1 + i) % k
			for j := range k - 1 {
				if (w+1+j)%k == v {
					return w, j
				}
			}
			return -1, -1
		})
		got, ok := impl.CompleteNetwork(k)
		wantNetwork(t, fmt.Sprint("complete network ", k), got, ok, want, 1 <= k && k <= 7)
	}
}

func TestGrids(t *testing.T) {
	for a := -2; a <= 43; a++ {
		for b := -2; b <= 43; b++ {
			fits := a > 0 && b > 0 && a*b <= 40
			edges := [][]int{}
			for v := 0; fits && v < a*b; v++ {
				for w := v + 1; w < a*b; w++ {
					if abs(v/b-w/b)+abs(v%b-w%b) == 1 {
						edges = append(edges, []int{v, w})
					}
				}
			}
			nodes := 0
			if fits {
				nodes = a * b
			}
			got, ok := impl.GridNetwork(a, b)
			wantNetwork(t, fmt.Sprint("grid ", a, " ", b), got, ok, edgeByEdge(nodes, edges), fits)
		}
	}
}

func abs(x int) int {
	return max(x, -x)
}

func TestTori(t *testing.T) {
	for a := -2; a <= 43; a++ {
		for b := -2; b <= 43; b++ {
			fits := a > 0 && b > 0 && a*b <= 40
			want := impl.Network{}
			if fits {
				want = byRule(a*b, 4, func(v, i int) (int, int) {
					r, s := v/b, v%b
					switch i {
					case 0:
						s = (s + 1) % b
					case 1:
						s = (s + b - 1) % b
					case 2:
						r = (r + 1) % a
					case 3:
						r = (r + a - 1) % a
					}
					return r*b + s, []int{1, 0, 3, 2}[i]
				})
			}
			got, ok := impl.TorusNetwork(a, b)
			wantNetwork(t, fmt.Sprint("torus ", a, " ", b), got, ok, want, fits)
		}
	}
}

func TestHypercubes(t *testing.T) {
	for d := -3; d <= 70; d++ {
		want := impl.Network{}
		if 0 <= d && d <= 5 {
			values := []int{1, 2, 4, 8, 16, 32}
			want = byRule(values[d], d, func(v, i int) (int, int) {
				if v/values[i]%2 == 0 {
					return v + values[i], i
				}
				return v - values[i], i
			})
		}
		got, ok := impl.HypercubeNetwork(d)
		wantNetwork(t, fmt.Sprint("hypercube ", d), got, ok, want, 0 <= d && d <= 5)
	}
}

func TestRegularTrees(t *testing.T) {
	for d := -2; d <= 9; d++ {
		for _, depth := range []int{-2, -1, 0, 1, 2, 3, 4, 5, 18, 19, 20, 21, 39, 40, 41, 1000, maxInt} {
			want, fine := treeByNames(d, depth)
			got, ok := impl.RegularTree(d, depth)
			wantNetwork(t, fmt.Sprint("tree ", d, " ", depth), got, ok, want, fine)
		}
	}
}

// treeByNames gives each node the name of its parent followed by its own place, and sorts the names.
func treeByNames(d, depth int) (impl.Network, bool) {
	if d < 0 || depth < 0 || d > 6 && depth > 0 {
		return impl.Network{}, false
	}
	names := []string{}
	var grow func(name string)
	grow = func(name string) {
		names = append(names, name)
		for i := range childrenOf(name, d, depth) {
			if len(names) <= 2000 {
				grow(name + string(rune('a'+i)))
			}
		}
	}
	grow("")
	slices.SortFunc(names, func(x, y string) int {
		return cmp.Or(cmp.Compare(len(x), len(y)), strings.Compare(x, y))
	})
	n := zeroInputs(bare(len(names)))
	for v, name := range names {
		if name != "" {
			parent := name[:len(name)-1]
			place := int(name[len(name)-1]-'a') + min(len(parent), 1)
			n.Ends[v] = append(n.Ends[v], impl.End{Node: slices.Index(names, parent), Port: place})
		}
		for i := range childrenOf(name, d, depth) {
			n.Ends[v] = append(n.Ends[v], impl.End{Node: slices.Index(names, name+string(rune('a'+i)))})
		}
	}
	return n, len(names) <= 40
}

func childrenOf(name string, d, depth int) int {
	switch {
	case len(name) >= depth:
		return 0
	case name == "":
		return d
	}
	return d - 1
}

func TestCirculantNetworks(t *testing.T) {
	for k := 1; k <= 7; k++ {
		for x := range k {
			wantCirculant(t, k, x)
			for y := range k {
				wantCirculant(t, k, x, y)
				for z := range k {
					wantCirculant(t, k, x, y, z)
				}
			}
		}
	}
	for k := -3; k <= 90; k++ {
		wantCirculant(t, k)
		wantCirculant(t, k, 0)
		for _, x := range []int{1, 2, k / 2, k - 1} {
			if 0 < x && x < k {
				wantCirculant(t, k, x, 0, x)
				wantCirculant(t, k, 1, x, k-x)
				wantCirculant(t, k, 0, x, x, 0)
			}
		}
	}
}

func wantCirculant(t *testing.T, k int, steps ...int) {
	t.Helper()
	want := byRule(max(k, 0), 2*len(steps), func(v, i int) (int, int) {
		if i%2 == 1 {
			return (v + k - steps[i/2]) % k, i - 1
		}
		return (v + steps[i/2]) % k, i + 1
	})
	got, ok := impl.CirculantNetwork(k, steps)
	wantNetwork(t, fmt.Sprint("circulant network ", k, steps), got, ok, want, 1 <= k && k <= 40 && len(steps) <= 3)
}

func TestBouquets(t *testing.T) {
	for stubs := -3; stubs <= 9; stubs++ {
		for loops := -3; loops <= 9; loops++ {
			fits := stubs >= 0 && loops >= 0 && stubs+2*loops <= 6
			want := byRule(1, max(stubs+2*loops, 0), func(_, i int) (int, int) {
				if i < stubs {
					return 0, i
				}
				return 0, stubs + (i-stubs)/2*2 + (i-stubs+1)%2
			})
			got, ok := impl.BouquetNetwork(stubs, loops)
			wantNetwork(t, fmt.Sprint("bouquet ", stubs, " ", loops), got, ok, want, fits)
		}
	}
}
