package tests

import (
	"fmt"
	"testing"

	"loop.example/g01084/impl"
)

// wantNoRoot fails the test unless all functions of the chapter with this network and node fail.
func wantNoRoot(t *testing.T, what string, n impl.Network, v int) {
	t.Helper()
	code, walk, ok := impl.CodeFrom(n, v)
	refused(t, what+": code", code, walk, ok)
	for _, m := range []impl.Network{n, pair(), withIds(pair(), 1, 2)} {
		is, ok := impl.SameRoots(n, v, m, 0)
		refused(t, what+": first of two roots", is, ok)
		is, ok = impl.SameRoots(m, 0, n, v)
		refused(t, what+": second of two roots", is, ok)
		is, ok = impl.SameRoots(n, v, n, v)
		refused(t, what+": both roots", is, ok)
		images, ok := impl.ImagesOf(n, v, m)
		refused(t, what+": images", images, ok)
	}
}

func TestBrokenNetworksHaveNoIsomorphisms(t *testing.T) {
	for _, c := range brokenNetworks() {
		for _, m := range []impl.Network{c.n, pair(), bare(3)} {
			for _, two := range [][2]impl.Network{{c.n, m}, {m, c.n}} {
				for _, f := range [][]int{nil, {0}, {0, 1}, {0, 1, 2}, rising(len(c.n.Ends))} {
					is, ok := impl.IsIsomorphism(two[0], two[1], f)
					refused(t, fmt.Sprint(c.name, f), is, ok)
				}
				f, ok := impl.IsomorphismOf(two[0], two[1])
				refused(t, c.name, f, ok)
				is, ok := impl.SameNetworks(two[0], two[1])
				refused(t, c.name, is, ok)
				images, ok := impl.ImagesOf(two[0], 0, two[1])
				refused(t, c.name, images, ok)
			}
		}
		for _, v := range []int{0, 1} {
			wantNoRoot(t, c.name, c.n, v)
		}
	}
}

func TestBrokenNetworksHaveNoCanonicalForms(t *testing.T) {
	for _, c := range brokenNetworks() {
		order, ok := impl.CanonicalOrder(c.n)
		refused(t, c.name, order, ok)
		n, ok := impl.CanonicalNetwork(c.n)
		refused(t, c.name, n, ok)
		parts, ok := impl.CanonicalComponents(c.n)
		refused(t, c.name, parts, ok)
		orbits, ok := impl.OrbitsOf(c.n)
		refused(t, c.name, orbits, ok)
		fixed, ok := impl.FixedNodes(c.n)
		refused(t, c.name, fixed, ok)
		count, ok := impl.AutomorphismCount(c.n)
		refused(t, c.name, count, ok)
	}
}

func TestNodesOutOfRangeAreNoRoots(t *testing.T) {
	for _, n := range []impl.Network{bare(1), pair(), withIds(line(7), idsUpTo(7)...), full(40)} {
		for _, x := range append(outside(0, len(n.Ends)-1), -len(n.Ends), len(n.Ends)+1, 80) {
			wantNoRoot(t, fmt.Sprint("node ", x), n, x)
		}
	}
	// A node of the second network alone has no images.
	images, ok := impl.ImagesOf(bare(2), 2, bare(3))
	refused(t, "images of a node of the other network", images, ok)
}

// TestListsThatAreNoIsomorphisms are not refused, because a list may be any one.
func TestListsThatAreNoIsomorphisms(t *testing.T) {
	networks := []impl.Network{zeroInputs(bare(1)), zeroInputs(bare(2)), zeroInputs(bare(3)), zeroInputs(pair()), withIds(zeroInputs(bare(2)), 1, 2), zeroInputs(full(40))}
	lists := [][]int{nil, {}, {-1}, {1}, {2}, {minInt}, {maxInt}, {0, 0}, {1, 1}, {0, 2}, {-1, 0}, {1, -1}, {0, minInt}, {maxInt, 1}, {0, 0, 0}, {0, 1, 1}, {2, 2, 1}, {1, 2, 3}, {0, 1, maxInt}, {minInt, 1, 2}, {0, 1, 2, 3}, {0, 1, 2, 2}, rising(39), rising(41), make([]int, 40), make([]int, 41), append(rising(39), 40), append(rising(39), -1)}
	for _, a := range networks {
		for _, b := range networks {
			for _, f := range lists {
				is, ok := impl.IsIsomorphism(a, b, f)
				wantTruth(t, is, ok, false, f, a, b)
			}
		}
	}
	// Lists that fit one of two networks of different sizes alone.
	for _, f := range [][]int{{0}, {0, 1}, {1, 0}, {0, 1, 2}} {
		for k := 1; k <= 3; k++ {
			is, ok := impl.IsIsomorphism(zeroInputs(bare(k)), zeroInputs(bare(4-k)), f)
			wantTruth(t, is, ok, k == 2 && len(f) == 2, f, k)
		}
	}
}

func TestLeastAndGreatestNetworks(t *testing.T) {
	for _, c := range networksAtTheLimits() {
		f, ok := impl.IsomorphismOf(c.n, c.n)
		wantList(t, f, ok, rising(len(c.n.Ends)), c.name)
		is, ok := impl.IsIsomorphism(c.n, c.n, f)
		wantTruth(t, is, ok, true, c.name)
		wantCanonical(t, c.n, canonicalByHand(c.n))
		for v := range c.n.Ends {
			want, wantWalk := codeByHand(c.n, v)
			code, walk, ok := impl.CodeFrom(c.n, v)
			wantList(t, code, ok, want, c.name)
			wantList(t, walk, ok, wantWalk, c.name)
		}
	}
	// Lists that are nil and lists that are empty are the same.
	nilLists := impl.Network{Ends: [][]impl.End{nil}, Inputs: []int{0}}
	emptyLists := impl.Network{Ends: [][]impl.End{{}}, Ids: []int{}, Inputs: []int{0}}
	is, ok := impl.SameNetworks(nilLists, emptyLists)
	wantTruth(t, is, ok, true, "nil and empty lists")
	is, ok = impl.IsIsomorphism(emptyLists, nilLists, []int{0})
	wantTruth(t, is, ok, true, "nil and empty lists")
}
