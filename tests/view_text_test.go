package tests

import (
	"fmt"
	"strings"
	"testing"

	"loop.example/g01084/impl"
)

// countWalks counts the walks from v with at most t steps, which are as many as the views in the view of depth t. It stops when there are more than a million.
func countWalks(n impl.Network, v, t int) int {
	ending := make([]int, len(n.Ends))
	ending[v] = 1
	sum := 1
	for range t {
		next := make([]int, len(n.Ends))
		for w, count := range ending {
			for _, e := range n.Ends[w] {
				next[e.Node] += count
				sum += count
			}
		}
		ending = next
		if sum > million {
			return sum
		}
	}
	return sum
}

func TestSizesOfViews(t *testing.T) {
	for k, n := range viewNetworks(t) {
		depths := []int{0, 1, 2, 3, 4, 5, 6, 7, 8, 9, 10, 12, 15, 20, 40, 80}
		if k < 60 {
			depths = rising(81)
		}
		for _, v := range []int{0, len(n.Ends) - 1} {
			for _, depth := range depths {
				size, ok := impl.ViewSize(n, v, depth)
				if want := countWalks(n, v, depth); want <= million {
					wantNumber(t, size, ok, want, "size", v, depth, n)
				} else {
					refused(t, fmt.Sprint("size ", v, depth, n), size, ok)
				}
			}
		}
	}
}

func TestSizesOfKnownViews(t *testing.T) {
	cycle, stub, none := sure(t)(impl.CycleNetwork(3)), sure(t)(impl.BouquetNetwork(1, 0)), bare(1)
	for depth := range 81 {
		size, ok := impl.ViewSize(stub, 0, depth)
		wantNumber(t, size, ok, depth+1, "a stub", depth)
		size, ok = impl.ViewSize(none, 0, depth)
		wantNumber(t, size, ok, 1, "no port", depth)
		size, ok = impl.ViewSize(cycle, depth%3, depth)
		if depth <= 18 {
			wantNumber(t, size, ok, 2<<depth-1, "the cycle", depth)
		} else {
			refused(t, fmt.Sprint("the cycle ", depth), size, ok)
		}
		size, ok = impl.ViewSize(full(40), 7, depth)
		if want := countWalks(full(40), 7, depth); want <= million {
			wantNumber(t, size, ok, want, "six stubs", depth)
		} else {
			refused(t, fmt.Sprint("six stubs ", depth), size, ok)
		}
	}
}

// TestSizesAtTheLimit has a view of the greatest size, and with one more step the view of a node that sees it through its only port.
func TestSizesAtTheLimit(t *testing.T) {
	n := edgeByEdge(7, [][]int{{0, 2}, {3, 2}, {2, 0}, {0, 1}, {5, 1}, {0, 2}, {4, 6}, {2, 5}, {5, 4}})
	size, ok := impl.ViewSize(n, 4, 12)
	wantNumber(t, size, ok, million, "greatest size")
	size, ok = impl.ViewSize(n, 6, 13)
	refused(t, "one more than the greatest size", size, ok)
	if count := countWalks(n, 6, 13); count != million+1 {
		t.Error("walks", count)
	}
	// Views that are too great may be anywhere else in the network.
	m := sure(t)(impl.UnionOf(full(1), bare(1)))
	size, ok = impl.ViewSize(m, 1, 80)
	wantNumber(t, size, ok, 1, "a node beside a great view")
	size, ok = impl.ViewSize(m, 0, 80)
	refused(t, "a great view", size, ok)
}

// wantText checks the text of a view, and what is read from it again.
func wantText(t *testing.T, n impl.Network, v, depth int) {
	t.Helper()
	want := ""
	if countWalks(n, v, depth) <= 4000 {
		want = treeOfNode(n, v, depth).text()
	}
	text, ok := impl.ViewText(n, v, depth)
	if want == "" || len(want) > 4000 {
		refused(t, fmt.Sprint("text ", v, depth, n), text, ok)
		return
	}
	if text != want || !ok {
		t.Fatalf("text of %d, depth %d of %v: %q %v, want %q", v, depth, n, text, ok, want)
	}
	if size, ok := impl.ViewSize(n, v, depth); size != strings.Count(text, ".") || !ok {
		t.Fatalf("size of %q: %d %v", text, size, ok)
	}
	read, ok := impl.DepthOfView(text)
	wantNumber(t, read, ok, depth*min(1, len(n.Ends[v])), "depth of", text)
	for shorter := range depth + 1 {
		short, ok := impl.ViewText(n, v, shorter)
		if cut, fine := impl.CutView(text, shorter); cut != short || !ok || !fine {
			t.Fatalf("%q cut to %d: %q %v, want %q", text, shorter, cut, fine, short)
		}
	}
	for i, e := range n.Ends[v] {
		child, port, ok := impl.ChildView(text, i)
		if depth == 0 {
			refused(t, "a part of a view of depth 0", child, port, ok)
			continue
		}
		behind, fine := impl.ViewText(n, e.Node, depth-1)
		if child != behind || port != e.Port || !ok || !fine {
			t.Fatalf("part %d of %q: %q %d %v, want %q %d", i, text, child, port, ok, behind, e.Port)
		}
	}
	child, port, ok := impl.ChildView(text, len(n.Ends[v]))
	refused(t, "a part too many", child, port, ok)
}

func TestTextsOfViews(t *testing.T) {
	for k, n := range viewNetworks(t) {
		if k%8 == 0 {
			for v := range n.Ends {
				for _, depth := range []int{0, 1, 2, 3, 4} {
					wantText(t, n, v, depth)
				}
			}
		}
		for _, depth := range []int{5, 7 + k%5, 40, 80} {
			wantText(t, n, len(n.Ends)-1, depth)
		}
	}
}

func TestTextsOfKnownViews(t *testing.T) {
	cases := []struct {
		n        impl.Network
		v, depth int
		want     string
	}{
		{withInputs(bare(1), 4), 0, 0, "0.4"},
		{withInputs(bare(1), 4), 0, 1, "0.4"},
		{withInputs(bare(1), 4), 0, 80, "0.4"},
		{full(1), 0, 0, "6.1"},
		{full(1), 0, 1, "6.1(0:6.1,1:6.1,2:6.1,3:6.1,4:6.1,5:6.1)"},
		{pair(), 0, 0, "1.1"},
		{pair(), 0, 1, "1.1(1:2.2)"},
		{pair(), 1, 1, "2.2(0:2.2,0:1.1)"},
		{pair(), 0, 2, "1.1(1:2.2(0:2.2,0:1.1))"},
		{pair(), 1, 2, "2.2(0:2.2(0:2.2,0:1.1),0:1.1(1:2.2))"},
		{joined([]int{2}, [4]int{0, 0, 0, 1}), 0, 1, "2.1(1:2.1,0:2.1)"},
		{joined([]int{2, 2}, [4]int{0, 0, 1, 1}, [4]int{0, 1, 1, 0}), 1, 1, "2.2(1:2.1,0:2.1)"},
		{joined([]int{3, 1}, [4]int{0, 0, 0, 2}, [4]int{0, 1, 1, 0}), 0, 1, "3.1(2:3.1,0:1.2,0:3.1)"},
		{withIds(withInputs(pair(), 9, 0), 8, 7), 0, 1, "1.9(1:2.0)"},
	}
	for _, c := range cases {
		if text, ok := impl.ViewText(c.n, c.v, c.depth); text != c.want || !ok {
			t.Errorf("node %d, depth %d of %v: %q %v, want %q", c.v, c.depth, c.n, text, ok, c.want)
		}
		wantText(t, c.n, c.v, c.depth)
	}
	edge, stub := sure(t)(impl.PathNetwork(2)), sure(t)(impl.BouquetNetwork(1, 0))
	for depth := range 81 {
		if text, ok := impl.ViewText(stub, 0, depth); text != chain(depth) || !ok {
			t.Errorf("depth %d of a stub: %q %v", depth, text, ok)
		}
		wantText(t, edge, 1, depth)
	}
}

func TestTextsAtTheLimit(t *testing.T) {
	cases := []struct {
		nodes int
		edges [][]int
		v     int
		depth int
		bytes int
	}{
		{6, [][]int{{0, 1}, {3, 1}, {3, 2}, {3, 3}, {0, 3}, {5, 1}, {0, 5}, {5, 0}, {5}, {5, 3}}, 3, 4, 3999},
		{6, [][]int{{0, 4}, {5, 0}, {1, 0}, {0, 3}, {3, 5}, {1, 3}, {0}, {2}, {5, 2}}, 2, 6, 4000},
		{5, [][]int{{3, 2}, {3, 4}, {0, 4}, {4, 0}, {1}, {1, 0}, {2, 4}, {2, 3}}, 1, 6, 4001},
	}
	for _, c := range cases {
		n := edgeByEdge(c.nodes, c.edges)
		want := treeOfNode(n, c.v, c.depth).text()
		if len(want) != c.bytes {
			t.Errorf("%d bytes, want %d", len(want), c.bytes)
		}
		text, ok := impl.ViewText(n, c.v, c.depth)
		if c.bytes > 4000 {
			refused(t, "a text that is too long", text, ok)
		} else if text != want || !ok {
			t.Errorf("%d bytes: %q %v", c.bytes, text, ok)
		}
		if is := impl.IsView(want); is != (c.bytes <= 4000) {
			t.Errorf("a text of %d bytes: %v", c.bytes, is)
		}
	}
}

// TestNodesHaveEqualViewsExactlyIfTheirTextsAreEqual compares all nodes of two networks at a time.
func TestNodesHaveEqualViewsExactlyIfTheirTextsAreEqual(t *testing.T) {
	networks := append(deepNetworks(t), smallNetworks(1, 2, 1)...)
	for k := range networks {
		a, b := networks[k], networks[(k*7+3)%len(networks)]
		if k%4 == 0 {
			b = a
		}
		for _, depth := range []int{0, 1, 2, 3} {
			for v := range a.Ends {
				left, ok := impl.ViewText(a, v, depth)
				if !ok {
					t.Fatal("no text of", v, depth, a)
				}
				for w := v % 3; w < len(b.Ends); w += 3 {
					right, ok := impl.ViewText(b, w, depth)
					is, fine := impl.SameView(a, v, b, w, depth)
					wantTruth(t, is, fine && ok, left == right, "nodes", v, w, "depth", depth, left, right)
				}
			}
		}
	}
}
