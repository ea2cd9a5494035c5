package tests

import (
	"fmt"
	"testing"

	"loop.example/g01084/impl"
)

// wantNoViews fails the test unless all functions of the chapter with this network, node and depth fail.
func wantNoViews(t *testing.T, what string, n impl.Network, v, depth int) {
	t.Helper()
	size, ok := impl.ViewSize(n, v, depth)
	refused(t, what+": size", size, ok)
	text, ok := impl.ViewText(n, v, depth)
	refused(t, what+": text", text, ok)
	u, ok := impl.UnfoldNetwork(n, v, depth)
	refused(t, what+": unfolded", u, ok)
	for _, m := range []impl.Network{n, pair()} {
		is, ok := impl.SameView(n, v, m, 0, depth)
		refused(t, what+": first of two views", is, ok)
		is, ok = impl.SameView(m, 0, n, v, depth)
		refused(t, what+": second of two views", is, ok)
		is, ok = impl.SameView(n, v, n, v, depth)
		refused(t, what+": both views", is, ok)
	}
}

// wantNoTwins fails the test unless all functions that compare this node with others for every depth fail.
func wantNoTwins(t *testing.T, what string, n impl.Network, v int) {
	t.Helper()
	for _, m := range []impl.Network{n, pair()} {
		is, ok := impl.AreTwins(n, v, m, 0)
		refused(t, what+": first of two nodes", is, ok)
		is, ok = impl.AreTwins(m, 0, n, v)
		refused(t, what+": second of two nodes", is, ok)
		depth, ok := impl.SeparatingDepth(n, v, m, 0)
		refused(t, what+": first of two separated nodes", depth, ok)
		depth, ok = impl.SeparatingDepth(m, 0, n, v)
		refused(t, what+": second of two separated nodes", depth, ok)
	}
}

func TestBrokenNetworksHaveNoViews(t *testing.T) {
	for _, c := range brokenNetworks() {
		for _, depth := range []int{0, 1, 80} {
			class, ok := impl.ViewClasses(c.n, depth)
			refused(t, c.name, class, ok)
			for _, v := range []int{0, 1} {
				wantNoViews(t, c.name, c.n, v, depth)
				wantNoTwins(t, c.name, c.n, v)
			}
		}
		depth, ok := impl.StableDepth(c.n)
		refused(t, c.name, depth, ok)
		class, ok := impl.TwinClasses(c.n)
		refused(t, c.name, class, ok)
		is, ok := impl.IsSymmetric(c.n)
		refused(t, c.name, is, ok)
	}
}

func TestNodesOutOfRangeHaveNoViews(t *testing.T) {
	for _, n := range []impl.Network{bare(1), pair(), withIds(line(7), idsUpTo(7)...), full(40)} {
		for _, x := range append(outside(0, len(n.Ends)-1), -len(n.Ends), len(n.Ends)+2, 80) {
			for _, depth := range []int{0, 1, 80} {
				wantNoViews(t, fmt.Sprint("node ", x), n, x, depth)
			}
			wantNoTwins(t, fmt.Sprint("node ", x), n, x)
		}
	}
}

func TestDepthsOutOfRangeAreRefused(t *testing.T) {
	for _, n := range []impl.Network{bare(1), pair(), line(7), full(40)} {
		for _, x := range outside(0, 80) {
			what := fmt.Sprint("depth ", x)
			class, ok := impl.ViewClasses(n, x)
			refused(t, what, class, ok)
			wantNoViews(t, what, n, 0, x)
			wantNoViews(t, what, n, len(n.Ends)-1, x)
		}
	}
}

func TestViewsOfTheGreatestDepth(t *testing.T) {
	class, ok := impl.ViewClasses(pair(), 80)
	wantList(t, class, ok, []int{0, 1}, "classes")
	is, ok := impl.SameView(full(40), 0, full(1), 0, 80)
	wantTruth(t, is, ok, true, "views")
	is, ok = impl.SameView(pair(), 0, bare(1), 0, 80)
	wantTruth(t, is, ok, false, "views")
	size, ok := impl.ViewSize(bare(1), 0, 80)
	wantNumber(t, size, ok, 1, "size")
	if s, ok := impl.CutView("0.0", 80); s != "0.0" || !ok {
		t.Errorf("cut %q %v", s, ok)
	}
}

// TestTwinsAreNotSeparated asks for a depth that is not there.
func TestTwinsAreNotSeparated(t *testing.T) {
	for _, n := range []impl.Network{bare(1), pair(), full(40), line(7), line(40, 0)} {
		depth, ok := impl.SeparatingDepth(n, 0, n, 0)
		refused(t, "a node and itself", depth, ok)
		is, ok := impl.AreTwins(n, 0, n, 0)
		wantTruth(t, is, ok, true, "a node and itself")
	}
	depth, ok := impl.SeparatingDepth(line(7), 0, line(40), 39)
	refused(t, "nodes of two networks", depth, ok)
}

func TestNodesWithoutPorts(t *testing.T) {
	a, b := withInputs(bare(3), 2, 5, 2), withInputs(bare(1), 5)
	for depth := range 81 {
		class, ok := impl.ViewClasses(a, depth)
		wantList(t, class, ok, []int{0, 1, 0}, "depth", depth)
		is, ok := impl.SameView(a, 1, b, 0, depth)
		wantTruth(t, is, ok, true, "equal inputs", depth)
		is, ok = impl.SameView(a, 0, b, 0, depth)
		wantTruth(t, is, ok, false, "other inputs", depth)
		u, ok := impl.UnfoldNetwork(a, 1, depth)
		wantNetwork(t, "unfolded", u, ok, b, true)
	}
	depth, ok := impl.SeparatingDepth(a, 0, b, 0)
	wantNumber(t, depth, ok, 0, "other inputs")
	depth, ok = impl.SeparatingDepth(a, 1, withInputs(full(1), 5), 0)
	wantNumber(t, depth, ok, 0, "another degree")
}
