package tests

import (
	"math/rand"
	"slices"
	"testing"

	"loop.example/g01084/impl"
)

func TestExampleOfChapter6(t *testing.T) {
	cycle := sure(t)(impl.CycleNetwork(3))
	for v := range 3 {
		code, walk, ok := impl.CodeFrom(cycle, v)
		wantList(t, code, ok, []int{2, 0, 0, 1, 1, 2, 0, 2, 0, 0, 2, 1, 0, 0, 2, 0, 0, 0, 1, 1, 0}, "code of", v)
		wantList(t, walk, ok, []int{v, (v + 1) % 3, (v + 2) % 3}, "walk from", v)
	}
	orbits, ok := impl.OrbitsOf(cycle)
	wantList(t, orbits, ok, []int{0, 0, 0}, "orbits")
	count, ok := impl.AutomorphismCount(cycle)
	wantNumber(t, count, ok, 3, "isomorphisms of it and itself")
}

func TestCodesOfKnownNetworks(t *testing.T) {
	check := func(n impl.Network, v int, code, walk []int) {
		t.Helper()
		got, list, ok := impl.CodeFrom(n, v)
		wantList(t, got, ok, code, "code of", v, "in", n)
		wantList(t, list, ok, walk, "walk from", v, "in", n)
	}
	check(impl.Network{Ends: [][]impl.End{{}}, Inputs: []int{0}}, 0, []int{0, 0, 0}, []int{0})
	check(withIds(bare(3), 7, 999999, 1), 1, []int{0, 2, 999999}, []int{1})
	check(withInputs(bare(2), 9, 0), 0, []int{0, 9, 0}, []int{0})
	check(pair(), 0, []int{1, 1, 0, 1, 1, 2, 2, 0, 1, 0, 0, 0}, []int{0, 1})
	check(pair(), 1, []int{2, 2, 0, 0, 0, 1, 0, 1, 1, 0, 0, 1}, []int{1, 0})
	check(withIds(pair(), 30, 4), 1, []int{2, 2, 4, 0, 0, 1, 0, 1, 1, 30, 0, 1}, []int{1, 0})
	loop := joined([]int{2}, [4]int{0, 0, 0, 1})
	check(loop, 0, []int{2, 1, 0, 0, 1, 0, 0}, []int{0})
	// Nodes 2 and 3 are in the component of neither 0 nor 1, which have two edges.
	twice := joined([]int{2, 3, 0, 1}, [4]int{0, 0, 1, 2}, [4]int{0, 1, 1, 0}, [4]int{1, 1, 1, 1}, [4]int{3, 0, 3, 0})
	check(twice, 0, []int{2, 1, 0, 1, 2, 1, 0, 3, 2, 0, 0, 1, 1, 1, 0, 0}, []int{0, 1})
	check(twice, 1, []int{3, 2, 0, 1, 1, 0, 1, 1, 0, 2, 1, 0, 0, 2, 0, 0}, []int{1, 0})
	check(twice, 3, []int{1, 4, 0, 0, 0}, []int{3})
	// Both neighbours of node 0 come before the one of node 3, and these in the order of the ports.
	star := joined([]int{2, 1, 1, 2}, [4]int{0, 0, 3, 1}, [4]int{0, 1, 1, 0}, [4]int{3, 0, 2, 0})
	check(star, 0, []int{2, 1, 0, 1, 1, 2, 0, 2, 4, 0, 3, 0, 0, 0, 1, 2, 0, 0, 1, 1, 3, 0, 1, 0}, []int{0, 3, 1, 2})
}

func TestCodesFollowTheWalk(t *testing.T) {
	for _, n := range isoNetworks(t) {
		components := componentsByHand(n)
		for v := range n.Ends {
			want, wantWalk := codeByHand(n, v)
			code, walk, ok := impl.CodeFrom(n, v)
			wantList(t, code, ok, want, "code of", v, "in", n)
			wantList(t, walk, ok, wantWalk, "walk from", v, "in", n)
			slices.Sort(walk)
			if !slices.ContainsFunc(components, func(l []int) bool { return slices.Equal(l, walk) }) {
				t.Fatalf("walk from %d in %v: %v is no component", v, n, walk)
			}
		}
	}
}

// TestNoCodeIsTheBeginningOfAnother holds because a code names all nodes that its ports lead to, and so has an end of its own.
func TestNoCodeIsTheBeginningOfAnother(t *testing.T) {
	codes := [][]int{}
	for _, n := range append(smallNetworks(2, 1, 2), pieces(t)...) {
		for v := range n.Ends {
			code, _, ok := impl.CodeFrom(zeroInputs(n), v)
			if !ok {
				t.Fatal("no code", n, v)
			}
			codes = append(codes, code)
		}
	}
	slices.SortFunc(codes, slices.Compare)
	for k, code := range codes[1:] {
		if before := codes[k]; len(before) < len(code) && slices.Equal(before, code[:len(before)]) {
			t.Errorf("%v begins with %v", code, before)
		}
	}
}

func TestRootsAreCompared(t *testing.T) {
	r := rand.New(rand.NewSource(62))
	networks, codes := isoNetworks(t), [][][]int{}
	for _, n := range networks {
		list := [][]int{}
		for v := range n.Ends {
			code, _ := codeByHand(n, v)
			list = append(list, code)
		}
		codes = append(codes, list)
	}
	for k, a := range networks {
		perm := r.Perm(len(a.Ends))
		b := sure(t)(impl.RenumberNodes(a, perm))
		other := (k*7 + 1) % len(networks)
		for v, code := range codes[k] {
			for w, second := range codes[k] {
				is, ok := impl.SameRoots(a, v, b, perm[w])
				wantTruth(t, is, ok, slices.Equal(code, second), "node", v, "of", a, "and the image of", w)
			}
			for w, second := range codes[other] {
				is, ok := impl.SameRoots(a, v, networks[other], w)
				wantTruth(t, is, ok, slices.Equal(code, second), "node", v, "of", a, "and", w, "of", networks[other])
			}
		}
	}
}

func TestRootsOfKnownNetworks(t *testing.T) {
	six, three := sure(t)(impl.CycleNetwork(6)), sure(t)(impl.CycleNetwork(3))
	check := func(want bool, a impl.Network, v int, b impl.Network, w int) {
		t.Helper()
		is, ok := impl.SameRoots(a, v, b, w)
		wantTruth(t, is, ok, want, a, v, b, w)
		is, ok = impl.SameRoots(b, w, a, v)
		wantTruth(t, is, ok, want, b, w, a, v)
	}
	check(true, six, 1, six, 5)
	check(false, six, 0, three, 0)
	// Other components do not matter.
	check(true, three, 0, sure(t)(impl.UnionOf(six, three)), 8)
	check(false, three, 0, sure(t)(impl.UnionOf(six, three)), 5)
	check(true, withInputs(bare(2), 0, 4), 1, withInputs(bare(1), 4), 0)
	check(false, withInputs(bare(2), 0, 4), 0, withInputs(bare(1), 4), 0)
	check(false, three, 0, withIds(three, 1, 2, 3), 0)
	check(true, withIds(bare(2), 5, 6), 0, withIds(withInputs(bare(2), 0, 1), 6, 5), 1)
	check(false, withIds(bare(2), 5, 6), 0, withIds(bare(2), 6, 5), 0)
}
