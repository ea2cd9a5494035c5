package tests

import (
	"fmt"
	"math/rand"
	"slices"
	"testing"

	"loop.example/g01084/impl"
)

// isPortMapByHand looks the images of joined ports up in a table of the ports that are joined.
func isPortMapByHand(a, b impl.Network, m []int) bool {
	if len(m) != len(a.Ends) {
		return false
	}
	for v, w := range m {
		if w < 0 || w >= len(b.Ends) || len(a.Ends[v]) != len(b.Ends[w]) || a.Inputs[v] != b.Inputs[w] {
			return false
		}
	}
	areJoined := map[[4]int]bool{}
	for w, list := range b.Ends {
		for j, e := range list {
			areJoined[[4]int{w, j, e.Node, e.Port}] = true
		}
	}
	for v, list := range a.Ends {
		for i, e := range list {
			if !areJoined[[4]int{m[v], i, m[e.Node], e.Port}] {
				return false
			}
		}
	}
	return true
}

// fibresByHand looks for the nodes with each image.
func fibresByHand(nodes int, m []int) [][]int {
	fibres := [][]int{}
	for w := range nodes {
		fibre := []int{}
		for v, image := range m {
			if image == w {
				fibre = append(fibre, v)
			}
		}
		fibres = append(fibres, fibre)
	}
	return fibres
}

// endOfWay returns the node to which ports lead from a node, or -1 if one of them is not there.
func endOfWay(n impl.Network, v int, ports []int) int {
	for _, i := range ports {
		if i >= len(n.Ends[v]) {
			return -1
		}
		v = n.Ends[v][i].Node
	}
	return v
}

// portMapByHand gives each node of a connected network the image to which the ports of a shortest way from node 0 lead from w.
func portMapByHand(a, b impl.Network, w int) ([]int, bool) {
	ways := waysFrom(a, 0)
	m := []int{}
	for v := range a.Ends {
		m = append(m, endOfWay(b, w, ways[v]))
	}
	return m, isPortMapByHand(a, b, m)
}

// quotientByHand fails if a number is left out, or if two nodes of a class do not look the same but for their numbers.
func quotientByHand(n impl.Network, class []int) (impl.Network, bool) {
	if slices.Min(class) < 0 {
		return impl.Network{}, false
	}
	plain, q := withIds(n), impl.Network{}
	for c := 0; c <= min(slices.Max(class), len(class)); c++ {
		first := slices.Index(class, c)
		if first < 0 {
			return impl.Network{}, false
		}
		for v := range class {
			if class[v] == c && nodeByHand(plain, v, class) != nodeByHand(plain, first, class) {
				return impl.Network{}, false
			}
		}
		list := []impl.End{}
		for _, e := range n.Ends[first] {
			list = append(list, impl.End{Node: class[e.Node], Port: e.Port})
		}
		q.Ends, q.Inputs = append(q.Ends, list), append(q.Inputs, n.Inputs[first])
	}
	return q, true
}

// edgeEnds returns the two ports of each edge, in the order of the first port at which each one is met. They are the same for a stub.
func edgeEnds(n impl.Network) [][2]impl.End {
	edges, met := [][2]impl.End{}, map[impl.End]bool{}
	for v, list := range n.Ends {
		for i, e := range list {
			if p := (impl.End{Node: v, Port: i}); !met[p] {
				met[e] = true
				edges = append(edges, [2]impl.End{p, e})
			}
		}
	}
	return edges
}

// liftByHand looks for the edge of each port, and goes back by its permutation from the second end.
func liftByHand(n impl.Network, k int, perms [][]int) impl.Network {
	edges := edgeEnds(n)
	lift := impl.Network{}
	for v := range n.Ends {
		for s := range k {
			list := []impl.End{}
			for i, e := range n.Ends[v] {
				p := impl.End{Node: v, Port: i}
				sheet := 0
				if t := slices.Index(edges, [2]impl.End{p, e}); t >= 0 {
					sheet = perms[t][s]
				} else {
					t = slices.Index(edges, [2]impl.End{e, p})
					sheet = slices.Index(perms[t], s)
				}
				list = append(list, impl.End{Node: e.Node*k + sheet, Port: e.Port})
			}
			lift.Ends, lift.Inputs = append(lift.Ends, list), append(lift.Inputs, n.Inputs[v])
		}
	}
	return lift
}

// involution returns a permutation that goes back.
func involution(r *rand.Rand, k int) []int {
	perm, order := rising(k), r.Perm(k)
	for i := 1; i < k; i += 2 {
		if x, y := order[i-1], order[i]; r.Intn(4) > 0 {
			perm[x], perm[y] = y, x
		}
	}
	return perm
}

// sheetChanges returns a permutation of k sheets for each edge, which goes back for a stub.
func sheetChanges(r *rand.Rand, n impl.Network, k int) [][]int {
	perms := [][]int{}
	for _, e := range edgeEnds(n) {
		perm := r.Perm(k)
		if e[0] == e[1] {
			perm = involution(r, k)
		}
		perms = append(perms, perm)
	}
	return perms
}

// productByHand names nodes by their pairs.
func productByHand(a, b impl.Network, f, g []int) (impl.Network, bool) {
	names := []string{}
	name := func(v, w int) string { return fmt.Sprint(v, "/", w) }
	for v := range f {
		for w := range g {
			if f[v] == g[w] {
				names = append(names, name(v, w))
			}
		}
	}
	if len(names) < 1 || len(names) > 40 {
		return impl.Network{}, false
	}
	product := impl.Network{}
	for v := range f {
		for w := range g {
			if !slices.Contains(names, name(v, w)) {
				continue
			}
			list := []impl.End{}
			for i, e := range a.Ends[v] {
				list = append(list, impl.End{Node: slices.Index(names, name(e.Node, b.Ends[w][i].Node)), Port: b.Ends[w][i].Port})
			}
			product.Ends, product.Inputs = append(product.Ends, list), append(product.Inputs, b.Inputs[w])
		}
	}
	return product, true
}

// A coverMap is a port map from a to b.
type coverMap struct {
	a, b impl.Network
	m    []int
}

// projection returns the map from k sheets to the nodes under them.
func projection(nodes, k int) []int {
	m := []int{}
	for v := range nodes {
		m = append(m, slices.Repeat([]int{v}, k)...)
	}
	return m
}

// mixed gives the nodes of the first network other numbers.
func (c coverMap) mixed(t *testing.T, r *rand.Rand) coverMap {
	perm := r.Perm(len(c.m))
	m := make([]int, len(c.m))
	for v, w := range c.m {
		m[perm[v]] = w
	}
	return coverMap{sure(t)(impl.RenumberNodes(c.a, perm)), c.b, m}
}

// beside returns the map between the unions of the networks of two maps. It fails if they have too many nodes.
func (c coverMap) beside(d coverMap) (coverMap, bool) {
	a, ok := impl.UnionOf(withIds(c.a), withIds(d.a))
	b, fine := impl.UnionOf(withIds(c.b), withIds(d.b))
	return coverMap{a, b, append(slices.Clone(c.m), shifted(d.m, 1, len(c.b.Ends))...)}, ok && fine
}

// coverBases returns networks of all forms: connected and not, with stubs, loops and several edges, symmetric and not.
func coverBases(t *testing.T) []impl.Network {
	list := pieces(t)
	for _, degrees := range [][]int{{0}, {1}, {3}, {0, 0}, {1, 2}, {2, 2}, {1, 1, 1}, {2, 1, 2}} {
		list = append(list, smallNetworks(degrees...)...)
	}
	for k, n := range sampleNetworks() {
		if k%9 == 0 {
			list = append(list, n, zeroInputs(n))
		}
	}
	return append(list, line(7, 3), sure(t)(impl.TorusNetwork(2, 2)), sure(t)(impl.BouquetNetwork(2, 2)), zeroInputs(bare(3)))
}

// coverMaps returns coverings with one sheet and more, coverings of unions with different numbers of sheets, and port maps to networks with more nodes than images.
func coverMaps(t *testing.T) []coverMap {
	r := rand.New(rand.NewSource(75))
	coverings := []coverMap{}
	for j, b := range coverBases(t) {
		k := 1 + j%5
		for k*len(b.Ends) > 40 {
			k--
		}
		a := liftByHand(b, k, sheetChanges(r, b, k))
		c := coverMap{a, b, projection(len(b.Ends), k)}.mixed(t, r)
		if j%3 == 0 {
			c.a = withIds(c.a, idsUpTo(len(c.m))...)
		}
		coverings = append(coverings, c)
	}
	list := slices.Clone(coverings)
	for j, c := range coverings {
		d := coverings[(j*5+1)%len(coverings)]
		if both, ok := c.beside(d); ok && j%2 == 0 {
			list = append(list, both.mixed(t, r))
		}
		if larger, ok := impl.UnionOf(withIds(c.b), withIds(d.b)); ok && j%3 > 0 {
			list = append(list, coverMap{c.a, larger, c.m})
		}
		// Two networks over one.
		if c.a.Ids = nil; 2*len(c.m) <= 40 && j%4 == 0 {
			twice := sure(t)(impl.UnionOf(c.a, c.a))
			list = append(list, coverMap{twice, c.b, append(slices.Clone(c.m), c.m...)}.mixed(t, r))
		}
	}
	return list
}

// allLists calls visit with each list of that length with the values.
func allLists(length int, values []int, visit func(l []int)) {
	l := make([]int, length)
	var fill func(k int)
	fill = func(k int) {
		if k == length {
			visit(slices.Clone(l))
			return
		}
		for _, x := range values {
			l[k] = x
			fill(k + 1)
		}
	}
	fill(0)
}
