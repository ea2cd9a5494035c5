package tests

import (
	"fmt"
	"math/rand"
	"slices"
	"testing"

	"loop.example/g01084/impl"
)

// wantCanonical compares all canonical forms of a network with the order of its nodes.
func wantCanonical(t *testing.T, n impl.Network, nodes []int) {
	t.Helper()
	order, ok := impl.CanonicalOrder(n)
	wantList(t, order, ok, inverse(nodes), "canonical order of", n)
	m, ok := impl.CanonicalNetwork(n)
	wantNetwork(t, fmt.Sprint("canonical network of ", n), m, ok, renumberedByHand(n, nodes), true)
	parts, ok := impl.CanonicalComponents(n)
	if want := partsByHand(m); !ok || !same(parts, want) {
		t.Fatalf("canonical components of %v: got %v %v, want %v", n, parts, ok, want)
	}
}

// renumberedByHand returns the network with the nodes of a list in its order.
func renumberedByHand(n impl.Network, nodes []int) impl.Network {
	m := impl.Network{}
	for _, v := range nodes {
		list := []impl.End{}
		for _, e := range n.Ends[v] {
			list = append(list, impl.End{Node: slices.Index(nodes, e.Node), Port: e.Port})
		}
		m.Ends, m.Inputs = append(m.Ends, list), append(m.Inputs, n.Inputs[v])
		if len(n.Ids) > 0 {
			m.Ids = append(m.Ids, n.Ids[v])
		}
	}
	return m
}

// partsByHand cuts a network whose components follow each other.
func partsByHand(n impl.Network) []impl.Network {
	parts := []impl.Network{}
	for _, nodes := range componentsByHand(n) {
		parts = append(parts, renumberedByHand(n, nodes))
	}
	return parts
}

func TestCanonicalForms(t *testing.T) {
	for _, n := range isoNetworks(t) {
		wantCanonical(t, n, canonicalByHand(n))
	}
}

func TestIsomorphicNetworksHaveOneCanonicalNetwork(t *testing.T) {
	r := rand.New(rand.NewSource(71))
	for _, a := range isoNetworks(t) {
		want := sure(t)(impl.CanonicalNetwork(a))
		parts, ok := impl.CanonicalComponents(a)
		for range 4 {
			b := sure(t)(impl.RenumberNodes(a, r.Perm(len(a.Ends))))
			got, fine := impl.CanonicalNetwork(b)
			wantNetwork(t, "canonical network", got, fine, want, true)
			others, fine := impl.CanonicalComponents(b)
			if !ok || !fine || !same(parts, others) {
				t.Fatalf("canonical components of %v and %v: %v and %v", a, b, parts, others)
			}
		}
		order, ok := impl.CanonicalOrder(a)
		is, fine := impl.IsIsomorphism(a, want, order)
		wantTruth(t, is, ok && fine, true, order, "of", a, want)
		order, ok = impl.CanonicalOrder(want)
		wantList(t, order, ok, rising(len(a.Ends)), "canonical order of a canonical network", want)
	}
}

// TestCanonicalNetworksTellNetworksApart compares all networks with some degrees, and networks that are nearly the same.
func TestCanonicalNetworksTellNetworksApart(t *testing.T) {
	r := rand.New(rand.NewSource(72))
	networks := pieces(t)
	for _, degrees := range [][]int{{2, 1, 2}, {1, 2, 2}, {2, 2, 1}, {0, 1, 1}} {
		for _, n := range smallNetworks(degrees...) {
			networks = append(networks, n, zeroInputs(n))
		}
	}
	canonical := func(n impl.Network) string {
		return fmt.Sprint(sure(t)(impl.CanonicalNetwork(n)))
	}
	texts := []string{}
	for _, n := range networks {
		texts = append(texts, canonical(n))
	}
	for k, a := range networks {
		for j, b := range networks {
			is, ok := impl.SameNetworks(a, b)
			wantTruth(t, is, ok, texts[k] == texts[j], a, b)
		}
	}
	for _, a := range isoNetworks(t) {
		text := canonical(a)
		for _, b := range nearlySame(t, r, a) {
			is, ok := impl.SameNetworks(a, b)
			wantTruth(t, is, ok, text == canonical(b), a, b)
		}
	}
}

func TestCanonicalOrdersOfKnownNetworks(t *testing.T) {
	three, six := sure(t)(impl.CycleNetwork(3)), sure(t)(impl.CycleNetwork(6))
	wantCanonical(t, bare(1), []int{0})
	// Inputs come before identifiers, and degrees before both.
	wantCanonical(t, withIds(withInputs(bare(3), 2, 1, 1), 5, 7, 6), []int{2, 1, 0})
	wantCanonical(t, withIds(pair(), 9, 8), []int{0, 1})
	wantCanonical(t, withInputs(pair(), 9, 0), []int{0, 1})
	wantCanonical(t, withInputs(three, 1, 1, 0), []int{2, 0, 1})
	// All nodes of a cycle have the same code, so that the walk is that from the least one. It goes around on both sides.
	wantCanonical(t, sure(t)(impl.UnionOf(six, three)), []int{6, 7, 8, 0, 1, 5, 2, 4, 3})
	// The shorter code is the greater one.
	loop := zeroInputs(joined([]int{2}, [4]int{0, 0, 0, 1}))
	wantCanonical(t, sure(t)(impl.UnionOf(loop, sure(t)(impl.PathNetwork(2)))), []int{1, 2, 0})
	wantCanonical(t, zeroInputs(bare(40)), rising(40))
	wantCanonical(t, zeroInputs(full(40)), rising(40))
}

// TestEqualComponentsAreInTheOrderOfTheirLeastNodes gives a component its least code at a late node.
func TestEqualComponentsAreInTheOrderOfTheirLeastNodes(t *testing.T) {
	// Each edge leads from a node with the input 1 to one with the input 0, from which the walk begins.
	edges := joined([]int{1, 1, 1, 1, 1, 1}, [4]int{0, 0, 5, 0}, [4]int{1, 0, 2, 0}, [4]int{3, 0, 4, 0})
	wantCanonical(t, withInputs(edges, 1, 1, 0, 0, 1, 0), []int{5, 0, 2, 1, 3, 4})
	wantCanonical(t, withInputs(edges, 0, 0, 1, 1, 0, 1), []int{0, 5, 1, 2, 4, 3})
	// Between them is one with a lesser code.
	wantCanonical(t, withInputs(edges, 1, 0, 0, 0, 1, 0), []int{1, 2, 5, 0, 3, 4})
	// Of several nodes with the least code the least one is taken.
	stubs := joined([]int{2, 1, 2, 1}, [4]int{0, 0, 2, 0}, [4]int{0, 1, 1, 0}, [4]int{2, 1, 3, 0})
	wantCanonical(t, zeroInputs(stubs), []int{1, 0, 2, 3})
}

func TestCanonicalComponentsOfKnownNetworks(t *testing.T) {
	three := sure(t)(impl.CycleNetwork(3))
	n := withIds(sure(t)(impl.UnionOf(three, zeroInputs(pair()))), 8, 7, 9, 2, 5)
	parts, ok := impl.CanonicalComponents(n)
	want := []impl.Network{withIds(zeroInputs(pair()), 2, 5), withIds(three, 7, 9, 8)}
	if !ok || !same(parts, want) {
		t.Errorf("components %v %v, want %v", parts, ok, want)
	}
	parts, ok = impl.CanonicalComponents(zeroInputs(bare(40)))
	if !ok || len(parts) != 40 || !same(parts[39], zeroInputs(bare(1))) {
		t.Errorf("40 nodes without ports: %v %v", parts, ok)
	}
	parts, ok = impl.CanonicalComponents(three)
	if !ok || !same(parts, []impl.Network{three}) {
		t.Errorf("one component: %v %v", parts, ok)
	}
}
