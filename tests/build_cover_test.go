package tests

import (
	"fmt"
	"testing"

	"loop.example/g01084/impl"
)

type builtNetwork struct {
	name   string
	n      impl.Network
	degree int
}

// symmetricNetworks returns the networks of the chapter in which all nodes are alike, of all sizes.
func symmetricNetworks(t *testing.T) []builtNetwork {
	list := []builtNetwork{}
	add := func(degree int, name ...any) func(impl.Network, bool) {
		return func(n impl.Network, ok bool) {
			if !ok {
				t.Error(fmt.Sprint(name...), " fails")
				return
			}
			list = append(list, builtNetwork{fmt.Sprint(name...), n, degree})
		}
	}
	for k := 1; k <= 40; k++ {
		add(2, "cycle ", k)(impl.CycleNetwork(k))
		add(0, "no steps ", k)(impl.CirculantNetwork(k, nil))
		add(6, "circulant ", k)(impl.CirculantNetwork(k, []int{k / 2, 0, k - 1}))
		for b := 1; b*k <= 40; b++ {
			add(4, "torus ", k, " ", b)(impl.TorusNetwork(k, b))
		}
	}
	for k := 1; k <= 7; k++ {
		add(k-1, "complete ", k)(impl.CompleteNetwork(k))
		add(k-1, "bouquet ", k)(impl.BouquetNetwork((k-1)%2, (k-1)/2))
	}
	for d := range 6 {
		add(d, "hypercube ", d)(impl.HypercubeNetwork(d))
	}
	return list
}

func TestStandardNetworksAreRegularAndSymmetric(t *testing.T) {
	for _, c := range symmetricNetworks(t) {
		if is, ok := impl.IsRegular(c.n, c.degree); !ok || !is {
			t.Errorf("%s: not regular of degree %d: %v", c.name, c.degree, c.n)
		}
		if !looksEqualFromAllNodes(c.n) {
			t.Errorf("%s: nodes differ: %v", c.name, c.n)
		}
		for w := range c.n.Ends {
			images, ok := imagesFrom(c.n, c.n, w)
			if ok && !isCovering(c.n, c.n, images) {
				t.Errorf("%s: node %d is not like node 0: %v", c.name, w, c.n)
			}
		}
	}
}

func TestOtherStandardNetworksAreNotSymmetric(t *testing.T) {
	for k := 3; k <= 40; k++ {
		if n, ok := impl.PathNetwork(k); !ok || looksEqualFromAllNodes(n) {
			t.Errorf("path %d: %v %v", k, n, ok)
		}
	}
	for d := 2; d <= 6; d++ {
		if n, ok := impl.RegularTree(d, 2); !ok || looksEqualFromAllNodes(n) {
			t.Errorf("tree %d: %v %v", d, n, ok)
		}
	}
}

func TestSimpleStandardNetworks(t *testing.T) {
	check := func(want bool, name ...any) func(impl.Network, bool) {
		return func(n impl.Network, ok bool) {
			t.Helper()
			if is, fine := impl.IsSimple(n); !ok || !fine || is != want {
				t.Errorf("%s is simple: %v %v, want %v", fmt.Sprint(name...), is, ok, want)
			}
		}
	}
	for k := 1; k <= 40; k++ {
		check(true, "path ", k)(impl.PathNetwork(k))
		check(k >= 3, "cycle ", k)(impl.CycleNetwork(k))
	}
	for a := 1; a <= 6; a++ {
		check(true, "star ", a)(impl.StarNetwork(a))
		check(true, "complete ", a)(impl.CompleteNetwork(a))
		check(true, "hypercube ", a-1)(impl.HypercubeNetwork(a - 1))
		check(true, "tree ", a)(impl.RegularTree(a, 2))
		for b := 1; b <= 6; b++ {
			check(true, "grid ", a, " ", b)(impl.GridNetwork(a, b))
			check(a >= 3 && b >= 3, "torus ", a, " ", b)(impl.TorusNetwork(a, b))
		}
	}
}

func TestTreesAreRegularAwayFromTheirLeaves(t *testing.T) {
	for _, c := range [][3]int{{2, 19, 39}, {3, 3, 22}, {4, 2, 17}, {5, 2, 26}, {6, 2, 37}, {6, 1, 7}, {1, 9, 2}} {
		d, depth := c[0], c[1]
		n, ok := impl.RegularTree(d, depth)
		edges, fine := impl.EdgesOf(n)
		if !ok || !fine || len(n.Ends) != c[2] || len(edges) != c[2]-1 || !isConnected(n) {
			t.Fatalf("tree %d %d: %v %v", d, depth, n, ok)
		}
		for v, list := range n.Ends {
			steps := 0
			for w := v; w > 0; w = n.Ends[w][0].Node {
				steps++
			}
			if want := map[bool]int{true: d, false: 1}[steps < depth || d == 1]; len(list) != want {
				t.Errorf("tree %d %d: node %d has degree %d, want %d", d, depth, v, len(list), want)
			}
		}
	}
}

func TestDoubleCovers(t *testing.T) {
	networks := sampleNetworks()
	for _, c := range symmetricNetworks(t) {
		networks = append(networks, c.n)
	}
	for _, n := range networks {
		k := len(n.Ends)
		want := impl.Network{Ends: make([][]impl.End, 2*k), Inputs: append(append([]int{}, n.Inputs...), n.Inputs...)}
		images := []int{}
		for v := range 2 * k {
			images = append(images, v%k)
			for _, e := range n.Ends[v%k] {
				want.Ends[v] = append(want.Ends[v], impl.End{Node: e.Node + k*(1-v/k), Port: e.Port})
			}
		}
		got, ok := impl.DoubleCover(n)
		wantNetwork(t, fmt.Sprint("double cover of ", n), got, ok, want, k <= 20)
		if ok && !(impl.IsNetwork(got) && isCovering(got, n, images)) {
			t.Fatalf("double cover of %v: %v is no covering", n, got)
		}
	}
}

func TestDoubleCoversOfCycles(t *testing.T) {
	for k := 1; k <= 20; k++ {
		n, _ := impl.CycleNetwork(k)
		cover, ok := impl.DoubleCover(n)
		double, fine := impl.CycleNetwork(2 * k)
		if !ok || !fine || isConnected(cover) != (k%2 == 1) || areIsomorphic(cover, double) != (k%2 == 1) {
			t.Errorf("double cover of the cycle with %d nodes: %v", k, cover)
		}
	}
}

func TestDoubleCoversOfStubsLoopsAndRepeatedEdges(t *testing.T) {
	n := withIds(joined([]int{4, 3}, [4]int{0, 0, 0, 0}, [4]int{0, 1, 1, 2}, [4]int{0, 2, 1, 0}, [4]int{0, 3, 1, 1}), 9, 8)
	got, ok := impl.DoubleCover(n)
	if want := "2.0 3.2 3.0 3.1|2.2 2.3 2.1|0.0 1.2 1.0 1.1|0.2 0.3 0.1"; !ok || portsOf(got) != want || len(got.Ids) != 0 || !same(got.Inputs, []int{1, 2, 1, 2}) {
		t.Error("with a stub and three edges", got, ok)
	}
	n = zeroInputs(joined([]int{3}, [4]int{0, 0, 0, 2}, [4]int{0, 1, 0, 1}))
	wantPorts(t, "with a loop around a stub", "1.2 1.1 1.0|0.2 0.1 0.0")(impl.DoubleCover(n))
	wantPorts(t, "without ports", "|")(impl.DoubleCover(zeroInputs(bare(1))))
}

func TestSubdividedEdges(t *testing.T) {
	networks := sampleNetworks()
	for _, c := range symmetricNetworks(t) {
		networks = append(networks, c.n)
	}
	fitting := 0
	for _, n := range networks {
		want := subdividedByHand(n)
		got, ok := impl.SubdivideEdges(n)
		wantNetwork(t, fmt.Sprint("edges divided of ", n), got, ok, want, len(want.Ends) <= 40)
		if ok {
			fitting++
			wantNetwork(t, fmt.Sprint("divided and put together again ", n), contracted(got, len(n.Ends)), impl.IsNetwork(got), withIds(n), true)
		}
	}
	if fitting < 100 {
		t.Error("only ", fitting, " of the networks have few enough edges")
	}
}

// subdividedByHand leads the ports of each edge, which is met at its first port, to a new node.
func subdividedByHand(n impl.Network) impl.Network {
	m := modelOf(n)
	m.ids = nil
	old := m.ports
	met := map[int]bool{}
	for _, names := range old {
		for _, x := range names {
			y := m.mate[x]
			if met[x] || x == y {
				continue
			}
			met[y] = true
			p, q := 100000+2*x, 100000+2*x+1
			m.mate[x], m.mate[p], m.mate[y], m.mate[q] = p, x, q, y
			m.ports = append(m.ports, []int{p, q})
			m.inputs = append(m.inputs, 0)
		}
	}
	return m.network()
}

// contracted joins the ends that the nodes from first on lead to, and drops these nodes.
func contracted(n impl.Network, first int) impl.Network {
	m := impl.Network{Inputs: n.Inputs[:first]}
	for _, list := range n.Ends[:first] {
		ends := []impl.End{}
		for _, e := range list {
			if e.Node >= first {
				e = n.Ends[e.Node][1-e.Port]
			}
			ends = append(ends, e)
		}
		m.Ends = append(m.Ends, ends)
	}
	return m
}

func TestSubdividedStubsLoopsAndRepeatedEdges(t *testing.T) {
	n := withIds(joined([]int{5, 2}, [4]int{0, 0, 1, 1}, [4]int{0, 1, 0, 4}, [4]int{0, 2, 0, 2}, [4]int{0, 3, 1, 0}), 9, 8)
	got, ok := impl.SubdivideEdges(n)
	if want := "2.0 3.0 0.2 4.0 3.1|4.1 2.1|0.0 1.1|0.1 0.4|0.3 1.0"; !ok || portsOf(got) != want || len(got.Ids) != 0 || !same(got.Inputs, []int{1, 2, 0, 0, 0}) {
		t.Error("with a stub, a loop and two edges", got, ok)
	}
	wantPorts(t, "a cycle of one node", "1.0 1.1|0.0 0.1")(impl.SubdivideEdges(zeroInputs(joined([]int{2}, [4]int{0, 0, 0, 1}))))
	wantPorts(t, "without ports", "")(impl.SubdivideEdges(zeroInputs(bare(1))))
	wantPorts(t, "a stub", "0.0")(impl.SubdivideEdges(zeroInputs(joined([]int{1}, [4]int{0, 0, 0, 0}))))
}
