package tests

import (
	"fmt"
	"testing"

	"loop.example/g01084/impl"
)

// wantNoMetricAt fails the test unless all functions of the chapter with this node fail.
func wantNoMetricAt(t *testing.T, what string, n impl.Network, v int) {
	t.Helper()
	distances, ok := impl.DistancesFrom(n, v)
	refused(t, what+": distances", distances, ok)
	sizes, ok := impl.ShellSizes(n, v)
	refused(t, what+": shells", sizes, ok)
	ports, ok := impl.SpanningTree(n, v)
	refused(t, what+": spanning tree", ports, ok)
	for _, x := range []int{minInt, -1, 0, 1, 40, 41, maxInt} {
		ball, ok := impl.BallOf(n, v, x)
		refused(t, what+": ball", ball, ok)
	}
	for _, w := range []int{minInt, -1, 0, 1, len(n.Ends) - 1, len(n.Ends), v, maxInt} {
		path, ok := impl.PathBetween(n, v, w)
		refused(t, what+": start of a path", path, ok)
		path, ok = impl.PathBetween(n, w, v)
		refused(t, what+": end of a path", path, ok)
	}
}

func TestBrokenNetworksHaveNoMetric(t *testing.T) {
	for _, c := range brokenNetworks() {
		for v := range 3 {
			wantNoMetricAt(t, c.name, c.n, v)
		}
		components, ok := impl.ComponentsOf(c.n)
		refused(t, c.name, components, ok)
		is, ok := impl.IsConnected(c.n)
		refused(t, c.name, is, ok)
		diameter, ok := impl.DiameterOf(c.n)
		refused(t, c.name, diameter, ok)
		centres, ok := impl.CentresOf(c.n)
		refused(t, c.name, centres, ok)
		girth, ok := impl.GirthOf(c.n)
		refused(t, c.name, girth, ok)
		is, ok = impl.IsForest(c.n)
		refused(t, c.name, is, ok)
		is, ok = impl.IsTree(c.n)
		refused(t, c.name, is, ok)
		colours, ok := impl.TwoColouring(c.n)
		refused(t, c.name, colours, ok)
		walk, ok := impl.OddClosedWalk(c.n)
		refused(t, c.name, walk, ok)
		for _, k := range []int{minInt, 0, 1, 2, 40, 41, maxInt} {
			power, ok := impl.PowerOf(c.n, k)
			refused(t, c.name, power, ok)
		}
	}
}

func TestNodesOutOfRangeHaveNoDistances(t *testing.T) {
	for _, n := range []impl.Network{bare(1), pair(), withIds(line(7), idsUpTo(7)...), full(40), bare(40)} {
		for _, x := range append(outside(0, len(n.Ends)-1), -len(n.Ends), len(n.Ends)+1, 80) {
			wantNoMetricAt(t, fmt.Sprint("node ", x), n, x)
		}
	}
}

func TestRadiiAndPowersOutOfRange(t *testing.T) {
	for _, n := range []impl.Network{bare(1), pair(), line(40), withIds(bare(40), idsUpTo(40)...)} {
		for _, r := range outside(0, 40) {
			ball, ok := impl.BallOf(n, 0, r)
			refused(t, fmt.Sprint("radius ", r), ball, ok)
		}
		for _, k := range append(outside(1, 40), 0, -40, 80) {
			power, ok := impl.PowerOf(n, k)
			refused(t, fmt.Sprint("power ", k), power, ok)
		}
		for _, r := range []int{0, 40} {
			ball, ok := impl.BallOf(n, len(n.Ends)-1, r)
			if !ok || len(ball) < 1 || r == 0 && !same(ball, []int{len(n.Ends) - 1}) {
				t.Error("radius", r, ball, ok)
			}
		}
	}
	path := sure(t)(impl.PathNetwork(40))
	ball, ok := impl.BallOf(path, 39, 38)
	wantList(t, ball, ok, rising(40)[1:], "all nodes but one")
	ball, ok = impl.BallOf(path, 39, 39)
	wantList(t, ball, ok, rising(40), "all nodes")
	ball, ok = impl.BallOf(path, 0, 40)
	wantList(t, ball, ok, rising(40), "all nodes")
}

func TestMetricAtTheLimits(t *testing.T) {
	for _, c := range networksAtTheLimits() {
		table := distanceTable(c.n)
		for v, row := range table {
			distances, ok := impl.DistancesFrom(c.n, v)
			wantList(t, distances, ok, row, c.name)
			wantPath(t, c.n, v, v, nil)
		}
		power, ok := impl.PowerOf(c.n, 40)
		want, fits := powerByHand(c.n, 40)
		wantNetwork(t, c.name, power, ok, want, fits)
		if list, connected := farthest(table); !connected {
			diameter, ok := impl.DiameterOf(c.n)
			refused(t, c.name, diameter, ok)
		} else {
			diameter, ok := impl.DiameterOf(c.n)
			wantNumber(t, diameter, ok, list[0], c.name)
			centres, ok := impl.CentresOf(c.n)
			wantList(t, centres, ok, rising(len(list)), c.name)
		}
	}
	// Lists that are nil and lists that are empty are the same.
	for _, n := range []impl.Network{{Ends: [][]impl.End{nil}, Inputs: []int{0}}, {Ends: [][]impl.End{{}}, Ids: []int{}, Inputs: []int{0}}} {
		for _, check := range []func(impl.Network) (bool, bool){impl.IsConnected, impl.IsForest, impl.IsTree} {
			is, ok := check(n)
			wantTruth(t, is, ok, true, "one node alone")
		}
		colours, ok := impl.TwoColouring(n)
		wantList(t, colours, ok, []int{0}, "one node alone")
		walk, ok := impl.OddClosedWalk(n)
		refused(t, "one node alone", walk, ok)
	}
}
