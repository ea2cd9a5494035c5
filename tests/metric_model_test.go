package tests

import (
	"math/rand"
	"slices"
	"testing"

	"loop.example/g01084/impl"
)

// distanceTable returns the distances of all nodes: the ways between two nodes are made shorter by one more node between them, again and again.
func distanceTable(n impl.Network) [][]int {
	far := 1000
	table := [][]int{}
	for v, list := range n.Ends {
		row := slices.Repeat([]int{far}, len(n.Ends))
		for _, e := range list {
			row[e.Node] = 1
		}
		row[v] = 0
		table = append(table, row)
	}
	for u := range table {
		for v := range table {
			for w := range table {
				table[v][w] = min(table[v][w], table[v][u]+table[u][w])
			}
		}
	}
	for _, row := range table {
		for w, d := range row {
			if d >= far {
				row[w] = -1
			}
		}
	}
	return table
}

// nearByHand returns the nodes of a row of the table with a distance of at most r.
func nearByHand(row []int, r int) []int {
	nodes := []int{}
	for w, d := range row {
		if d >= 0 && d <= r {
			nodes = append(nodes, w)
		}
	}
	return nodes
}

// A way is a list of different nodes, and the port by which it came to the last one.
type way struct {
	nodes []int
	port  int
}

// closes reports whether the way and some more nodes, all greater than the first one, make a cycle of length k.
func (w way) closes(n impl.Network, k int) bool {
	last := w.nodes[len(w.nodes)-1]
	for i, e := range n.Ends[last] {
		if i == w.port || e == (impl.End{Node: last, Port: i}) {
			continue
		}
		if len(w.nodes) == k && e.Node == w.nodes[0] {
			return true
		}
		if len(w.nodes) < k && e.Node > w.nodes[0] && !slices.Contains(w.nodes, e.Node) {
			longer := way{append(slices.Clone(w.nodes), e.Node), e.Port}
			if longer.closes(n, k) {
				return true
			}
		}
	}
	return false
}

// girthByHand looks for cycles of each length, from each node that is the least one of the cycle. It returns 0 if there is none.
func girthByHand(n impl.Network) int {
	for k := 1; k <= len(n.Ends); k++ {
		for v := range n.Ends {
			if (way{[]int{v}, -1}).closes(n, k) {
				return k
			}
		}
	}
	return 0
}

// isForestByHand takes away nodes that have at most one edge, again and again, until there is none. Stubs and cycles are left.
func isForestByHand(n impl.Network) bool {
	m := modelOf(n)
	isStub := func(x int) bool { return m.mate[x] == x }
	for range n.Ends {
		for v, names := range m.ports {
			if len(names) == 1 && !isStub(names[0]) {
				other := m.mate[names[0]]
				m.ports[v] = nil
				m = m.without(func(x int) bool { return x == other })
			}
		}
	}
	return slices.IndexFunc(m.ports, func(names []int) bool { return len(names) > 0 }) < 0
}

// isColouring reports whether a list is a two-colouring.
func isColouring(n impl.Network, colours []int) bool {
	if len(colours) != len(n.Ends) {
		return false
	}
	for v, list := range n.Ends {
		for _, e := range list {
			if colours[v] != 0 && colours[v] != 1 || colours[e.Node] == colours[v] {
				return false
			}
		}
	}
	return true
}

// colouringByHand colours the first node that has no colour yet with 0, and then all nodes that an edge leads to from a coloured one.
func colouringByHand(n impl.Network) []int {
	colours := slices.Repeat([]int{-1}, len(n.Ends))
	for v := range colours {
		if colours[v] < 0 {
			colours[v] = 0
		}
		for range n.Ends {
			for _, e := range edgeEnds(n) {
				for _, two := range [][2]int{{e[0].Node, e[1].Node}, {e[1].Node, e[0].Node}} {
					if colours[two[0]] >= 0 && colours[two[1]] < 0 {
						colours[two[1]] = 1 - colours[two[0]]
					}
				}
			}
		}
	}
	return colours
}

// longerWalks returns the first walk to each node that goes on from one of the walks.
func longerWalks(n impl.Network, walks map[int][]int) map[int][]int {
	next := map[int][]int{}
	for v, walk := range walks {
		for _, e := range n.Ends[v] {
			longer := append(slices.Clone(walk), e.Node)
			if best := next[e.Node]; best == nil || slices.Compare(longer, best) < 0 {
				next[e.Node] = longer
			}
		}
	}
	return next
}

// oddWalkByHand keeps for each start the first walk of a length to each node, as the first walk to a node goes on from the first one to the node before. There must be an odd closed walk.
func oddWalkByHand(n impl.Network) []int {
	walks := []map[int][]int{}
	for v := range n.Ends {
		walks = append(walks, map[int][]int{v: {v}})
	}
	for length := 1; ; length++ {
		for v := range walks {
			walks[v] = longerWalks(n, walks[v])
			if closed := walks[v][v]; closed != nil && length%2 == 1 {
				return closed
			}
		}
	}
}

// isWalk reports whether edges join consecutive nodes.
func isWalk(n impl.Network, walk []int) bool {
	for k := 1; k < len(walk); k++ {
		if !slices.ContainsFunc(n.Ends[walk[k-1]], func(e impl.End) bool { return e.Node == walk[k] }) {
			return false
		}
	}
	return len(walk) > 0
}

// powerByHand joins the nodes of the pairs that are near to each other in lexicographic order, which puts ports in the order of the nodes that they lead to.
func powerByHand(n impl.Network, k int) (impl.Network, bool) {
	table, edges := distanceTable(n), [][]int{}
	for v := range table {
		for w := v + 1; w < len(table); w++ {
			if d := table[v][w]; d >= 1 && d <= k {
				edges = append(edges, []int{v, w})
			}
		}
	}
	power := edgeByEdge(len(table), edges)
	power.Ids, power.Inputs = n.Ids, n.Inputs
	return power, !slices.ContainsFunc(power.Ends, func(list []impl.End) bool { return len(list) > 6 })
}

// sparseNetwork returns trees, which are deep if parents are among few nodes before their children, with some more edges. If even is true, these have different depths modulo 2 at their ends; else they may be loops, and a stub is added if there are none.
func sparseNetwork(r *rand.Rand, nodes, reach, more int, even bool) impl.Network {
	number, degrees, depths, edges := r.Perm(nodes), make([]int, nodes), make([]int, nodes), [][]int{}
	add := func(v, w int) bool {
		if degrees[v]+1 > 6 || degrees[w]+1 > 6 || v == w && degrees[v]+2 > 6 {
			return false
		}
		degrees[v]++
		degrees[w]++
		e := []int{number[v], number[w]}
		r.Shuffle(2, func(i, j int) { e[i], e[j] = e[j], e[i] })
		edges = append(edges, e)
		return true
	}
	for v := 1; v < nodes; v++ {
		if w := v - 1 - r.Intn(min(v, reach)); r.Intn(20) > 0 && add(v, w) {
			depths[v] = depths[w] + 1
		}
	}
	for range more {
		v, w := r.Intn(nodes), r.Intn(nodes)
		if !even || (depths[v]+depths[w])%2 == 1 {
			add(v, w)
		}
	}
	if v := r.Intn(nodes); !even && more == 0 && degrees[v] < 6 {
		edges = append(edges, []int{number[v]})
	}
	r.Shuffle(len(edges), func(i, j int) { edges[i], edges[j] = edges[j], edges[i] })
	return edgeByEdge(nodes, edges)
}

// sparseNetworks returns forests, and networks with few cycles, many of which are even.
func sparseNetworks() []impl.Network {
	r := rand.New(rand.NewSource(81))
	list := []impl.Network{}
	for k := range 240 {
		n := sparseNetwork(r, 1+r.Intn(40), []int{1, 2, 5}[k%3], k/2%4, k%2 == 0)
		if k%4 == 0 {
			n.Ids = idsUpTo(len(n.Ends))
		}
		list = append(list, n)
	}
	return list
}

// metricNetworks returns networks of all forms: dense and sparse, connected and not, with stubs, loops and repeated edges and without, with identifiers and without.
func metricNetworks(t *testing.T) []impl.Network {
	list := append(sparseNetworks(), sampleNetworks()...)
	for k, n := range isoNetworks(t) {
		if k%3 == 0 {
			list = append(list, n)
		}
	}
	for k, c := range symmetricNetworks(t) {
		if k%3 == 0 {
			list = append(list, c.n)
		}
	}
	return list
}
