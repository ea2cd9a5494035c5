package tests

import (
	"fmt"
	"math/rand"
	"slices"
	"testing"

	"loop.example/g01084/impl"
)

// identifierOf returns 0 for a node without one.
func identifierOf(n impl.Network, v int) int {
	if len(n.Ids) == 0 {
		return 0
	}
	return n.Ids[v]
}

// nodeByHand writes out what an isomorphism keeps of a node, where other nodes have numbers from a list.
func nodeByHand(n impl.Network, v int, numbers []int) string {
	s := fmt.Sprint("input ", n.Inputs[v], " identifier ", identifierOf(n, v))
	for _, e := range n.Ends[v] {
		s += fmt.Sprint(" ", numbers[e.Node], ".", e.Port)
	}
	return s
}

// isIsomorphismByHand writes out the nodes of a under the numbers of their images, and compares with those of b.
func isIsomorphismByHand(a, b impl.Network, f []int) bool {
	own := rising(len(b.Ends))
	sorted := slices.Clone(f)
	slices.Sort(sorted)
	if len(a.Ends) != len(b.Ends) || !slices.Equal(sorted, own) {
		return false
	}
	for v, w := range f {
		if nodeByHand(a, v, f) != nodeByHand(b, w, own) {
			return false
		}
	}
	return true
}

// followPorts fills in the images that equal ports lead to. It fails if they do not fit.
func followPorts(a, b impl.Network, f []int) bool {
	for changed := true; changed; {
		changed = false
		for v, w := range f {
			if w < 0 {
				continue
			}
			if len(a.Ends[v]) != len(b.Ends[w]) || a.Inputs[v] != b.Inputs[w] || identifierOf(a, v) != identifierOf(b, w) {
				return false
			}
			for i, e := range a.Ends[v] {
				p := b.Ends[w][i]
				if f[e.Node] < 0 {
					f[e.Node], changed = p.Node, true
				}
				if f[e.Node] != p.Node || e.Port != p.Port {
					return false
				}
			}
		}
	}
	return true
}

// isomorphismsByHand returns isomorphisms of a and b in lexicographic order, as long as there are not too many: it tries each image for the first node that has none.
func isomorphismsByHand(a, b impl.Network, most int) [][]int {
	found := [][]int{}
	var extend func(f []int)
	extend = func(f []int) {
		v := slices.Index(f, -1)
		if v < 0 && isIsomorphismByHand(a, b, f) {
			found = append(found, f)
		}
		for w := range b.Ends {
			if v >= 0 && len(found) < most && !slices.Contains(f, w) {
				longer := slices.Clone(f)
				longer[v] = w
				if followPorts(a, b, longer) {
					extend(longer)
				}
			}
		}
	}
	extend(slices.Repeat([]int{-1}, len(a.Ends)))
	return found
}

// permutationsOf returns all permutations of k numbers in lexicographic order.
func permutationsOf(k int) [][]int {
	list := [][]int{{}}
	for range k {
		longer := [][]int{}
		for _, l := range list {
			for x := range k {
				if !slices.Contains(l, x) {
					longer = append(longer, append(slices.Clone(l), x))
				}
			}
		}
		list = longer
	}
	return list
}

// waysFrom returns for each node of the component of v the ports of a shortest way from v, of all these ways the lexicographically first one.
func waysFrom(n impl.Network, v int) map[int][]int {
	ways := map[int][]int{v: {}}
	for range n.Ends {
		next := map[int][]int{}
		for u, way := range ways {
			for i, e := range n.Ends[u] {
				longer := append(slices.Clone(way), i)
				if ways[e.Node] == nil && (next[e.Node] == nil || comesBefore(longer, next[e.Node])) {
					next[e.Node] = longer
				}
			}
		}
		for w, way := range next {
			ways[w] = way
		}
	}
	return ways
}

// comesBefore reports whether a way is shorter than another one, or as long and before it in lexicographic order.
func comesBefore(way, other []int) bool {
	if len(way) != len(other) {
		return len(way) < len(other)
	}
	return slices.Compare(way, other) < 0
}

// codeByHand puts nodes in the order of their ways, which is that of the walk, and returns the code and the walk.
func codeByHand(n impl.Network, v int) ([]int, []int) {
	ways := waysFrom(n, v)
	walk := []int{}
	for w := range n.Ends {
		if ways[w] != nil {
			walk = append(walk, w)
		}
	}
	slices.SortFunc(walk, func(x, y int) int {
		if comesBefore(ways[x], ways[y]) {
			return -1
		}
		return 1
	})
	code := []int{}
	for _, w := range walk {
		code = append(code, len(n.Ends[w]), n.Inputs[w], identifierOf(n, w))
		for _, e := range n.Ends[w] {
			code = append(code, slices.Index(walk, e.Node), e.Port)
		}
	}
	return code, walk
}

// componentsByHand returns the nodes of each component, in the order of their least nodes.
func componentsByHand(n impl.Network) [][]int {
	least := rising(len(n.Ends))
	for range n.Ends {
		for v, list := range n.Ends {
			for _, e := range list {
				least[v] = min(least[v], least[e.Node])
			}
		}
	}
	components := [][]int{}
	for v := range n.Ends {
		nodes := []int{}
		for w := range n.Ends {
			if least[w] == v {
				nodes = append(nodes, w)
			}
		}
		if len(nodes) > 0 {
			components = append(components, nodes)
		}
	}
	return components
}

// canonicalByHand returns the nodes in the canonical order: again and again it takes the first component that is left with the least code.
func canonicalByHand(n impl.Network) []int {
	nodes := []int{}
	left := componentsByHand(n)
	for len(left) > 0 {
		var least, walk []int
		taken := 0
		for k, component := range left {
			for _, v := range component {
				code, w := codeByHand(n, v)
				if least == nil || slices.Compare(code, least) < 0 {
					least, walk, taken = code, w, k
				}
			}
		}
		nodes = append(nodes, walk...)
		left = slices.Delete(left, taken, taken+1)
	}
	return nodes
}

// pieces returns connected networks, many of which are nearly the same as others: they differ in an input, a degree, a port number or the end of an edge alone.
func pieces(t *testing.T) []impl.Network {
	stub, stubs := zeroInputs(full(1)), zeroInputs(joined([]int{2}))
	stub.Ends[0] = stub.Ends[0][:1]
	stubs.Ends[0][1].Port = 1
	loop := zeroInputs(joined([]int{2}, [4]int{0, 0, 0, 1}))
	double := zeroInputs(joined([]int{2, 2}, [4]int{0, 0, 1, 0}, [4]int{0, 1, 1, 1}))
	crossed := zeroInputs(joined([]int{2, 2}, [4]int{0, 0, 1, 1}, [4]int{0, 1, 1, 0}))
	list := []impl.Network{zeroInputs(bare(1)), stub, stubs, loop, double, crossed, line(4), line(5, 2), line(6, 0)}
	add := func(n impl.Network, ok bool) { list = append(list, sure(t)(n, ok)) }
	for _, k := range []int{2, 3, 4, 6} {
		add(impl.PathNetwork(k))
		add(impl.CycleNetwork(k))
		add(impl.CompleteNetwork(k))
	}
	add(impl.HypercubeNetwork(3))
	add(impl.TorusNetwork(2, 3))
	add(impl.GridNetwork(2, 3))
	add(impl.RegularTree(3, 2))
	for _, n := range list {
		v := len(n.Ends) / 2
		inputs := make([]int, len(n.Ends))
		inputs[v] = 1
		add(impl.WithInputs(n, inputs))
		add(impl.PermutePorts(n, v, rotation(len(n.Ends[v]))))
		if len(n.Ends[v]) < 6 {
			add(impl.AddStub(n, v))
		}
	}
	return list
}

// scattered returns a network of pieces, some of them several times, whose nodes are renumbered.
func scattered(t *testing.T, r *rand.Rand, list []impl.Network, count int) impl.Network {
	n := list[r.Intn(len(list))]
	kinds := []impl.Network{n, list[r.Intn(len(list))], list[r.Intn(len(list))]}
	for range count - 1 {
		if larger, ok := impl.UnionOf(n, kinds[r.Intn(len(kinds))]); ok {
			n = larger
		}
	}
	return sure(t)(impl.RenumberNodes(n, r.Perm(len(n.Ends))))
}

// isoNetworks returns pieces, networks of up to five of them, other networks with inputs and without, and some of all with identifiers.
func isoNetworks(t *testing.T) []impl.Network {
	r := rand.New(rand.NewSource(61))
	parts := pieces(t)
	list := slices.Clone(parts)
	for k := range 120 {
		list = append(list, scattered(t, r, parts, 1+k%5))
	}
	for k, n := range sampleNetworks() {
		if k%3 == 0 {
			list = append(list, n)
		}
		if k%7 == 0 && len(n.Ends) < 30 {
			list = append(list, zeroInputs(n))
		}
	}
	for k, n := range list {
		if k%5 == 0 {
			ids := r.Perm(50)[:len(n.Ends)]
			list = append(list, withIds(n, shifted(ids, 19000, 1)...))
		}
	}
	return list
}

// fewIsomorphisms returns those of the networks of which all isomorphisms can be listed.
func fewIsomorphisms(t *testing.T) []impl.Network {
	return slices.DeleteFunc(isoNetworks(t), func(n impl.Network) bool {
		return len(isomorphismsByHand(n, n, 801)) > 800
	})
}
