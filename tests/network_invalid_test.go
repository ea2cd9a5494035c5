package tests

import (
	"fmt"
	"testing"

	"loop.example/g01084/impl"
)

const minInt, maxInt = -1 << 63, 1<<63 - 1

type namedNetwork struct {
	name string
	n    impl.Network
}

// pair returns a network of two nodes: an edge from port 0 of node 0 to port 1 of node 1, where port 0 is a stub.
func pair() impl.Network {
	return joined([]int{1, 2}, [4]int{0, 0, 1, 1}, [4]int{1, 0, 1, 0})
}

func withInputs(n impl.Network, inputs ...int) impl.Network {
	n.Inputs = inputs
	return n
}

// withEnd returns the network pair in which port 0 of node 0 is said to be joined with another port.
func withEnd(node, port int) impl.Network {
	n := pair()
	n.Ends[0][0] = impl.End{Node: node, Port: port}
	return n
}

// networksAtTheLimits returns networks that meet limits exactly or have empty parts.
func networksAtTheLimits() []namedNetwork {
	nilEnds := impl.Network{Ends: [][]impl.End{nil}, Inputs: []int{0}}
	emptyEnds := impl.Network{Ends: [][]impl.End{{}}, Ids: []int{}, Inputs: []int{0}}
	return []namedNetwork{
		{"one node, nil lists", nilEnds},
		{"one node, empty lists", emptyEnds},
		{"40 nodes", bare(40)},
		{"40 nodes of degree 6", full(40)},
		{"degree 6", full(1)},
		{"greatest and least identifier", withIds(pair(), 999999, 1)},
		{"greatest and least input", withInputs(pair(), 9, 0)},
		{"identifiers of 40 nodes", withIds(bare(40), idsUpTo(40)...)},
	}
}

func brokenNetworks() []namedNetwork {
	seven := full(1)
	seven.Ends[0] = append(seven.Ends[0], impl.End{Node: 0, Port: 6})
	turn := joined([]int{3})
	turn.Ends[0] = []impl.End{{Node: 0, Port: 1}, {Node: 0, Port: 2}, {Node: 0, Port: 0}}
	claimed := joined([]int{1, 1, 1}, [4]int{0, 0, 1, 0})
	claimed.Ends[2][0] = impl.End{Node: 0, Port: 0}
	swapped := joined([]int{2, 2}, [4]int{0, 0, 1, 0}, [4]int{0, 1, 1, 1})
	swapped.Ends[1][0], swapped.Ends[1][1] = swapped.Ends[1][1], swapped.Ends[1][0]
	list := []namedNetwork{
		{"zero value", impl.Network{}},
		{"no nodes", impl.Network{Ends: [][]impl.End{}, Ids: []int{}, Inputs: []int{}}},
		{"no nodes but an input", impl.Network{Inputs: []int{0}}},
		{"41 nodes", bare(41)},
		{"41 nodes of degree 6", full(41)},
		{"many nodes", bare(2000)},
		{"degree 7", seven},
		{"ports in a circle", turn},
		{"a port claimed twice", claimed},
		{"edges crossed on one side", swapped},
		{"joined with a stub", withEnd(1, 0)},
		{"a stub claimed by another node", withEnd(0, 0)},
		{"too few inputs", withInputs(pair(), 1)},
		{"no inputs", withInputs(pair())},
		{"too many inputs", withInputs(pair(), 1, 2, 3)},
		{"too few identifiers", withIds(pair(), 1)},
		{"too many identifiers", withIds(pair(), 1, 2, 3)},
		{"equal identifiers", withIds(pair(), 5, 5)},
		{"equal identifiers far apart", withIds(bare(3), 5, 6, 5)},
	}
	for _, x := range []int{minInt, -1, 10, maxInt} {
		list = append(list, namedNetwork{fmt.Sprint("first input ", x), withInputs(pair(), x, 1)})
		list = append(list, namedNetwork{fmt.Sprint("last input ", x), withInputs(pair(), 1, x)})
	}
	for _, x := range []int{minInt, -1, 0, 1000000, maxInt} {
		list = append(list, namedNetwork{fmt.Sprint("first identifier ", x), withIds(pair(), x, 1)})
		list = append(list, namedNetwork{fmt.Sprint("last identifier ", x), withIds(pair(), 1, x)})
	}
	for _, x := range []int{minInt, -1, 2, 3, maxInt} {
		list = append(list, namedNetwork{fmt.Sprint("joined with node ", x), withEnd(x, 1)})
		list = append(list, namedNetwork{fmt.Sprint("joined with port ", x), withEnd(1, x)})
		list = append(list, namedNetwork{fmt.Sprint("joined with port and node ", x), withEnd(x, x)})
	}
	return list
}

func TestNetworksAtTheLimitsAreNetworks(t *testing.T) {
	for _, c := range networksAtTheLimits() {
		if !impl.IsNetwork(c.n) {
			t.Errorf("%s: not taken for a network", c.name)
		}
		got, ok := impl.KeepNodes(c.n, []int{0})
		if !ok || len(got.Ends) != 1 || got.Inputs[0] != c.n.Inputs[0] {
			t.Errorf("%s: node 0 alone is %v %v", c.name, got, ok)
		}
		got, ok = impl.WithIds(c.n, c.n.Ids)
		wantNetwork(t, c.name, got, ok, c.n, true)
		got, ok = impl.WithInputs(c.n, c.n.Inputs)
		wantNetwork(t, c.name, got, ok, c.n, true)
	}
}

func TestBrokenNetworksAreRefused(t *testing.T) {
	for _, c := range brokenNetworks() {
		if impl.IsNetwork(c.n) {
			t.Errorf("%s: taken for a network", c.name)
		}
		for _, d := range []int{0, 1} {
			is, ok := impl.IsRegular(c.n, d)
			refused(t, c.name, is, ok)
		}
		is, ok := impl.IsSimple(c.n)
		refused(t, c.name, is, ok)
		degrees, ok := impl.DegreesOf(c.n)
		refused(t, c.name, degrees, ok)
		e, ok := impl.OtherEnd(c.n, 0, 0)
		refused(t, c.name, e, ok)
		neighbours, ok := impl.NeighboursOf(c.n, 0)
		refused(t, c.name, neighbours, ok)
		edges, ok := impl.EdgesOf(c.n)
		refused(t, c.name, edges, ok)
		for _, m := range changesOf(c.n) {
			refused(t, c.name+": "+m.name, m.n, m.ok)
		}
	}
}

type outcome struct {
	name string
	n    impl.Network
	ok   bool
}

// changesOf makes each change of n with arguments that fit a network with as many nodes and ports.
func changesOf(n impl.Network) []outcome {
	ports, inputs, ids := 0, []int{}, []int{}
	if len(n.Ends) > 0 {
		ports = len(n.Ends[0])
	}
	for v := range n.Ends {
		inputs, ids = append(inputs, v%10), append(ids, 1000+v)
	}
	list := []outcome{}
	add := func(name string) func(impl.Network, bool) {
		return func(m impl.Network, ok bool) { list = append(list, outcome{name, m, ok}) }
	}
	other := bare(1)
	if len(n.Ids) > 0 {
		other.Ids = []int{777}
	}
	add("first of a union")(impl.UnionOf(n, other))
	add("second of a union")(impl.UnionOf(other, n))
	add("edge")(impl.AddEdge(n, 0, 0))
	add("stub")(impl.AddStub(n, 0))
	add("edge removed")(impl.RemoveEdge(n, 0, 0))
	add("ports permuted")(impl.PermutePorts(n, 0, rotation(ports)))
	add("nodes renumbered")(impl.RenumberNodes(n, rotation(len(n.Ends))))
	add("nodes kept")(impl.KeepNodes(n, []int{0}))
	add("identifiers")(impl.WithIds(n, ids))
	add("identifiers removed")(impl.WithIds(n, nil))
	add("inputs")(impl.WithInputs(n, inputs))
	return list
}

func TestNodesAndPortsOutOfRangeAreRefused(t *testing.T) {
	for _, x := range []int{minInt, minInt + 1, -2, -1, 2, 3, 40, maxInt - 1, maxInt} {
		n := withIds(pair(), 4, 5)
		for _, w := range []int{0, 1, x} {
			m, ok := impl.AddEdge(n, x, w)
			refused(t, fmt.Sprint("edge ", x, w), m, ok)
			m, ok = impl.AddEdge(n, w, x)
			refused(t, fmt.Sprint("edge ", w, x), m, ok)
			m, ok = impl.RemoveEdge(n, x, w)
			refused(t, fmt.Sprint("edge of port ", x, w), m, ok)
			m, ok = impl.RemoveEdge(n, w, x)
			refused(t, fmt.Sprint("edge of port ", w, x), m, ok)
			e, ok := impl.OtherEnd(n, x, w)
			refused(t, fmt.Sprint("port ", x, w), e, ok)
			e, ok = impl.OtherEnd(n, w, x)
			refused(t, fmt.Sprint("port ", w, x), e, ok)
		}
		m, ok := impl.AddStub(n, x)
		refused(t, fmt.Sprint("stub ", x), m, ok)
		l, ok := impl.NeighboursOf(n, x)
		refused(t, fmt.Sprint("neighbours ", x), l, ok)
		for _, perm := range [][]int{nil, {0}, {0, 1}} {
			m, ok = impl.PermutePorts(n, x, perm)
			refused(t, fmt.Sprint("ports of ", x), m, ok)
		}
	}
	m, ok := impl.RemoveEdge(pair(), 0, 1)
	refused(t, "a port that only another node has", m, ok)
	m, ok = impl.RemoveEdge(bare(2), 0, 0)
	refused(t, "a node without ports", m, ok)
}

func TestListsThatDoNotFitAreRefused(t *testing.T) {
	noPermutations := [][]int{nil, {}, {0}, {1}, {0, 0}, {1, 1}, {0, 2}, {2, 1}, {-1, 0}, {1, -1}, {minInt, 0}, {0, maxInt}, {0, 1, 2}, {1, 0, 0}}
	for _, perm := range noPermutations {
		m, ok := impl.PermutePorts(pair(), 1, perm)
		refused(t, fmt.Sprint("ports permuted ", perm), m, ok)
		m, ok = impl.RenumberNodes(pair(), perm)
		refused(t, fmt.Sprint("nodes renumbered ", perm), m, ok)
	}
	n := withIds(bare(3), 3, 2, 1)
	for _, keep := range [][]int{nil, {}, {3}, {-1}, {minInt}, {maxInt}, {0, 0}, {1, 0}, {0, 2, 1}, {0, 1, 1}, {0, 1, 3}, {-1, 0}, {0, 1, 2, 3}, {0, 1, 2, 2}, {0, maxInt}} {
		m, ok := impl.KeepNodes(n, keep)
		refused(t, fmt.Sprint("nodes kept ", keep), m, ok)
	}
	for _, ids := range [][]int{{1}, {1, 2}, {1, 2, 3, 4}, {1, 2, 1}, {2, 2, 1}, {1, 2, 0}, {-1, 2, 3}, {1, 2, 1000000}, {minInt, 2, 3}, {1, maxInt, 3}, make([]int, 100)} {
		m, ok := impl.WithIds(n, ids)
		refused(t, fmt.Sprint("identifiers ", ids), m, ok)
	}
	for _, inputs := range [][]int{nil, {}, {1}, {1, 2}, {1, 2, 3, 4}, {1, 2, -1}, {10, 2, 3}, {1, 10, 2}, {minInt, 2, 3}, {1, maxInt, 3}, make([]int, 100)} {
		m, ok := impl.WithInputs(n, inputs)
		refused(t, fmt.Sprint("inputs ", inputs), m, ok)
	}
}

func TestListsOfNodesWithoutPorts(t *testing.T) {
	n := bare(1)
	got, ok := impl.PermutePorts(n, 0, nil)
	wantNetwork(t, "no ports permuted", got, ok, n, true)
	if l, ok := impl.NeighboursOf(n, 0); !ok || len(l) != 0 {
		t.Error("no neighbours", l, ok)
	}
	if l, ok := impl.EdgesOf(n); !ok || len(l) != 0 {
		t.Error("no edges", l, ok)
	}
	if l, ok := impl.DegreesOf(n); !ok || !same(l, []int{0}) {
		t.Error("degree 0", l, ok)
	}
	if is, ok := impl.IsRegular(n, 0); !ok || !is {
		t.Error("regular of degree 0", is, ok)
	}
}

// TestOneWrongNumber changes one number of a network and compares with the conditions of the chapter, taken one by one.
func TestOneWrongNumber(t *testing.T) {
	values := []int{minInt, -1, 0, 1, 2, 3, 9, 10, 999999, 1000000, maxInt}
	for _, n := range append(smallNetworks(2, 1, 2), smallNetworks(3, 0, 1)...) {
		for _, place := range numbersOf(n) {
			before := *place
			for _, x := range values {
				*place = x
				if got, want := impl.IsNetwork(n), networkByHand(n); got != want {
					t.Fatalf("%v: network %v, want %v", n, got, want)
				}
			}
			*place = before
		}
	}
}

func numbersOf(n impl.Network) []*int {
	places := []*int{}
	for _, list := range n.Ends {
		for i := range list {
			places = append(places, &list[i].Node, &list[i].Port)
		}
	}
	for v := range n.Ids {
		places = append(places, &n.Ids[v])
	}
	for v := range n.Inputs {
		places = append(places, &n.Inputs[v])
	}
	return places
}

// networkByHand judges the numbers of a network of which the lists are long enough.
func networkByHand(n impl.Network) bool {
	joinedWith := map[impl.End]impl.End{}
	for v, list := range n.Ends {
		for i, e := range list {
			joinedWith[impl.End{Node: v, Port: i}] = e
		}
	}
	for p, e := range joinedWith {
		if back, ok := joinedWith[e]; !ok || back != p {
			return false
		}
	}
	met := map[int]bool{}
	for _, id := range n.Ids {
		if id < 1 || id > 999999 || met[id] {
			return false
		}
		met[id] = true
	}
	for _, x := range n.Inputs {
		if x < 0 || x > 9 {
			return false
		}
	}
	return true
}
