package tests

import (
	"fmt"
	"slices"
	"testing"

	"loop.example/g01084/impl"
)

// wantNoMap fails the test unless all functions for a map between two networks fail.
func wantNoMap(t *testing.T, what string, a, b impl.Network, m []int) {
	t.Helper()
	values, lists := make([]int, len(b.Ends)), [][]int{}
	for _, list := range b.Ends {
		lists = append(lists, make([]int, len(list)))
	}
	fibres, ok := impl.FibresOf(a, b, m)
	refused(t, what+": fibres", fibres, ok)
	sheets, ok := impl.SheetsOf(a, b, m)
	refused(t, what+": sheets", sheets, ok)
	pulled, ok := impl.PullNodes(a, b, m, values)
	refused(t, what+": values of nodes", pulled, ok)
	ports, ok := impl.PullPorts(a, b, m, lists)
	refused(t, what+": values of ports", ports, ok)
	pushed, ok := impl.PushNodes(a, b, m, make([]int, len(a.Ends)))
	refused(t, what+": values pushed down", pushed, ok)
	for _, c := range []impl.Network{a, b} {
		h, ok := impl.ComposeMaps(a, b, c, m, rising(len(b.Ends)))
		refused(t, what+": first of two maps", h, ok)
		h, ok = impl.ComposeMaps(c, a, b, rising(len(a.Ends)), m)
		refused(t, what+": second of two maps", h, ok)
		n, ok := impl.FibreProduct(a, c, b, m, m)
		refused(t, what+": first map of a product", n, ok)
		n, ok = impl.FibreProduct(c, a, b, m, m)
		refused(t, what+": second map of a product", n, ok)
	}
}

func TestBrokenNetworksHaveNoCoverings(t *testing.T) {
	good := []impl.Network{zeroInputs(bare(1)), pair(), withIds(pair(), 1, 2)}
	for _, c := range brokenNetworks() {
		for _, n := range append(good, c.n) {
			for _, two := range [][2]impl.Network{{c.n, n}, {n, c.n}} {
				a, b := two[0], two[1]
				for _, m := range [][]int{nil, {0}, {0, 1}, {0, 1, 2}, {-1}, rising(len(a.Ends)), make([]int, len(a.Ends))} {
					what := fmt.Sprint(c.name, m)
					is, ok := impl.IsPortMap(a, b, m)
					refused(t, what, is, ok)
					is, ok = impl.IsCovering(a, b, m)
					refused(t, what, is, ok)
					wantNoMap(t, what, a, b, m)
				}
				m, ok := impl.ExtendMap(a, b, 0)
				refused(t, c.name, m, ok)
				list, ok := impl.PortMapsBetween(a, b)
				refused(t, c.name, list, ok)
			}
		}
		noNetwork(t, "minimal base: ", c.name)(impl.MinimalBase(c.n))
		for _, class := range [][]int{nil, {0}, {0, 1}, rising(len(c.n.Ends)), make([]int, len(c.n.Ends))} {
			noNetwork(t, "quotient: ", c.name)(impl.QuotientOf(c.n, class))
		}
		for _, perms := range [][][]int{nil, {{0}}, {{0}, {0}}, slices.Repeat([][]int{{0}}, 6)} {
			noNetwork(t, "lift: ", c.name)(impl.LiftOf(c.n, 1, perms))
		}
	}
}

// TestBrokenNetworksBelowAndBeside breaks the one network that a map does not reach or does not need.
func TestBrokenNetworksBelowAndBeside(t *testing.T) {
	n, m := zeroInputs(bare(1)), []int{0}
	for _, c := range brokenNetworks() {
		for _, l := range [][]int{nil, {0}, {0, 1}, rising(len(c.n.Ends))} {
			for _, x := range [][3]impl.Network{{c.n, n, n}, {n, c.n, n}, {n, n, c.n}} {
				for _, two := range [][2][]int{{m, l}, {l, m}, {l, l}, {m, m}} {
					h, ok := impl.ComposeMaps(x[0], x[1], x[2], two[0], two[1])
					refused(t, "composed: "+c.name, h, ok)
					noNetwork(t, "product: ", c.name)(impl.FibreProduct(x[0], x[1], x[2], two[0], two[1]))
				}
			}
		}
	}
	got, ok := impl.ComposeMaps(n, n, n, m, m)
	wantList(t, got, ok, m, "composed")
}

// TestListsThatAreNoPortMaps are not refused where a list may be any one.
func TestListsThatAreNoPortMaps(t *testing.T) {
	three, six := sure(t)(impl.CycleNetwork(3)), sure(t)(impl.CycleNetwork(6))
	lists := [][]int{nil, {}, {0}, {0, 1, 2}, {0, 1, 2, 0, 1}, {0, 1, 2, 0, 1, 2, 0}, make([]int, 6), make([]int, 40), make([]int, 1000), rising(6)}
	for v := range 6 {
		for _, x := range outside(0, 2) {
			m := []int{0, 1, 2, 0, 1, 2}
			m[v] = x
			lists = append(lists, m)
		}
	}
	for _, x := range outside(0, 2) {
		lists = append(lists, slices.Repeat([]int{x}, 6), []int{x})
	}
	for _, m := range lists {
		is, ok := impl.IsPortMap(six, three, m)
		wantTruth(t, is, ok, false, m)
		is, ok = impl.IsCovering(six, three, m)
		wantTruth(t, is, ok, false, m)
		wantNoMap(t, fmt.Sprint(m), six, three, m)
		wantMap(t, six, three, m)
	}
	// Nodes of the first network that the second one does not have.
	for _, m := range [][]int{{2}, {1}, {-1}, {0, 0}} {
		is, ok := impl.IsPortMap(zeroInputs(bare(1)), zeroInputs(bare(1)), m)
		wantTruth(t, is, ok, false, m)
		wantNoMap(t, fmt.Sprint(m), zeroInputs(bare(1)), zeroInputs(bare(1)), m)
	}
	is, ok := impl.IsPortMap(zeroInputs(bare(2)), zeroInputs(bare(1)), []int{0, 1})
	wantTruth(t, is, ok, false, "a node of the first network alone")
}

func TestNodesOutOfRangeAreNoImages(t *testing.T) {
	for _, a := range []impl.Network{zeroInputs(bare(1)), pair(), sure(t)(impl.CycleNetwork(3))} {
		for _, b := range []impl.Network{zeroInputs(bare(1)), pair(), sure(t)(impl.CycleNetwork(3)), full(40)} {
			for _, w := range append(outside(0, len(b.Ends)-1), -len(b.Ends), len(b.Ends)+1, 80) {
				m, ok := impl.ExtendMap(a, b, w)
				refused(t, fmt.Sprint("image ", w), m, ok)
			}
		}
	}
	m, ok := impl.ExtendMap(zeroInputs(bare(1)), zeroInputs(bare(2)), 1)
	wantList(t, m, ok, []int{1}, "the last node")
	m, ok = impl.ExtendMap(zeroInputs(bare(1)), zeroInputs(bare(2)), 2)
	refused(t, "one node more", m, ok)
}

func TestCoveringsAtTheLimits(t *testing.T) {
	for _, c := range networksAtTheLimits() {
		k := len(c.n.Ends)
		identity := rising(k)
		if !wantMap(t, c.n, c.n, identity) {
			t.Errorf("%s: the identity is no port map", c.name)
		}
		h, ok := impl.ComposeMaps(c.n, c.n, c.n, identity, identity)
		wantList(t, h, ok, identity, c.name)
		wantMapsBetween(t, c.n, c.n)
		wantProduct(t, c.n, c.n, c.n, identity, identity)
		wantQuotient(t, c.n, identity)
		pulled, ok := impl.PullNodes(c.n, c.n, identity, identity)
		wantList(t, pulled, ok, identity, c.name)
		pushed, ok := impl.PushNodes(c.n, c.n, identity, pulled)
		wantList(t, pushed, ok, identity, c.name)
	}
	// Lists that are nil and lists that are empty are the same.
	nilLists := impl.Network{Ends: [][]impl.End{nil}, Inputs: []int{0}}
	emptyLists := impl.Network{Ends: [][]impl.End{{}}, Ids: []int{}, Inputs: []int{0}}
	for _, two := range [][2]impl.Network{{nilLists, emptyLists}, {emptyLists, nilLists}} {
		wantMap(t, two[0], two[1], []int{0})
		wantMapsBetween(t, two[0], two[1])
		wantProduct(t, two[0], two[1], two[0], []int{0}, []int{0})
		wantLift(t, two[0], 2, nil)
		wantLift(t, two[0], 2, [][]int{})
	}
}
