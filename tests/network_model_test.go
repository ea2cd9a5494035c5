package tests

import (
	"fmt"
	"math/rand"
	"reflect"
	"slices"
	"testing"

	"loop.example/g01084/impl"
)

// A model is a network with a name for each port, so that changes are plain changes of lists and no port is ever renumbered.
type model struct {
	ports  [][]int
	mate   map[int]int
	ids    []int
	inputs []int
}

func modelOf(n impl.Network) model {
	m := model{mate: map[int]int{}, ids: slices.Clone(n.Ids), inputs: slices.Clone(n.Inputs)}
	name := func(v, i int) int { return v*100 + i }
	for v, list := range n.Ends {
		names := []int{}
		for i, e := range list {
			names = append(names, name(v, i))
			m.mate[name(v, i)] = name(e.Node, e.Port)
		}
		m.ports = append(m.ports, names)
	}
	return m
}

func (m model) network() impl.Network {
	place := map[int]impl.End{}
	for v, names := range m.ports {
		for i, x := range names {
			place[x] = impl.End{Node: v, Port: i}
		}
	}
	n := impl.Network{Ids: slices.Clone(m.ids), Inputs: slices.Clone(m.inputs)}
	for _, names := range m.ports {
		list := []impl.End{}
		for _, x := range names {
			list = append(list, place[m.mate[x]])
		}
		n.Ends = append(n.Ends, list)
	}
	return n
}

// without drops the ports for which gone is true.
func (m model) without(gone func(name int) bool) model {
	for v, names := range m.ports {
		m.ports[v] = slices.DeleteFunc(slices.Clone(names), gone)
	}
	return m
}

// same compares networks by value, for which nil and empty lists are equal.
func same(a, b any) bool {
	return fmt.Sprint(a) == fmt.Sprint(b)
}

// wantNetwork fails the test unless the call succeeded with the network want, or failed with none.
func wantNetwork(t *testing.T, what string, got impl.Network, ok bool, want impl.Network, wantOk bool) {
	t.Helper()
	if !wantOk {
		want = impl.Network{}
	}
	if ok != wantOk || !same(got, want) {
		t.Fatalf("%s: got %v %v, want %v %v", what, got, ok, want, wantOk)
	}
}

// refused fails the test unless the last result is false and the others are zero values, where an empty slice is one.
func refused(t *testing.T, what string, results ...any) {
	t.Helper()
	for _, r := range results {
		if !same(r, reflect.Zero(reflect.TypeOf(r)).Interface()) {
			t.Errorf("%s: got %v, want a call that fails", what, results)
			return
		}
	}
}

// joined returns the network of the pairs of ports, each given by v, i, w and j, with inputs that differ from node to node.
func joined(degrees []int, pairs ...[4]int) impl.Network {
	n := impl.Network{}
	for v, d := range degrees {
		n.Ends = append(n.Ends, make([]impl.End, d))
		n.Inputs = append(n.Inputs, (v+1)%10)
	}
	for _, p := range pairs {
		n.Ends[p[0]][p[1]] = impl.End{Node: p[2], Port: p[3]}
		n.Ends[p[2]][p[3]] = impl.End{Node: p[0], Port: p[1]}
	}
	return n
}

func withIds(n impl.Network, ids ...int) impl.Network {
	n.Ids = ids
	return n
}

// bare returns a network of nodes without ports.
func bare(nodes int) impl.Network {
	return joined(make([]int, nodes))
}

// full returns a network in which all nodes have six stubs.
func full(nodes int) impl.Network {
	n := bare(nodes)
	for v := range n.Ends {
		for i := range 6 {
			n.Ends[v] = append(n.Ends[v], impl.End{Node: v, Port: i})
		}
	}
	return n
}

func idsUpTo(nodes int) []int {
	ids := []int{}
	for v := range nodes {
		ids = append(ids, nodes-v)
	}
	return ids
}

// pairings calls visit with each way to join the names in pairs or with themselves.
func pairings(names []int, mate map[int]int, visit func()) {
	if len(names) == 0 {
		visit()
		return
	}
	first, rest := names[0], names[1:]
	mate[first] = first
	pairings(rest, mate, visit)
	for k, other := range rest {
		mate[first], mate[other] = other, first
		left := append(slices.Clone(rest[:k]), rest[k+1:]...)
		pairings(left, mate, visit)
	}
}

// smallNetworks returns all networks with the degrees, with identifiers and without.
func smallNetworks(degrees ...int) []impl.Network {
	m := model{mate: map[int]int{}}
	all := []int{}
	for v, d := range degrees {
		m.ports = append(m.ports, nil)
		for range d {
			m.ports[v] = append(m.ports[v], len(all))
			all = append(all, len(all))
		}
		m.inputs = append(m.inputs, (3*v+1)%10)
	}
	list := []impl.Network{}
	pairings(all, m.mate, func() {
		plain := m.network()
		list = append(list, plain)
		list = append(list, withIds(m.network(), idsUpTo(len(degrees))...))
	})
	return list
}

// randomNetwork returns a network with stubs, loops and repeated edges.
func randomNetwork(r *rand.Rand, nodes int) impl.Network {
	m := model{mate: map[int]int{}}
	open := []int{}
	for v := range nodes {
		names := []int{}
		for i := range r.Intn(7) {
			names = append(names, v*100+i)
		}
		open = append(open, names...)
		m.ports = append(m.ports, names)
		m.inputs = append(m.inputs, r.Intn(10))
	}
	r.Shuffle(len(open), func(i, j int) { open[i], open[j] = open[j], open[i] })
	for len(open) > 0 {
		a, b := open[0], open[len(open)-1]
		if r.Intn(5) == 0 {
			b = a
			open = open[1:]
		} else {
			open = open[min(1, len(open)-1) : len(open)-1]
		}
		m.mate[a], m.mate[b] = b, a
	}
	if r.Intn(2) == 0 {
		first := 1 + r.Intn(900000)
		for v := range nodes {
			m.ids = append(m.ids, first+7*((v*3)%41))
		}
	}
	return m.network()
}

// sampleNetworks returns small networks of all forms and larger ones made by chance, the same ones in each run.
func sampleNetworks() []impl.Network {
	list := []impl.Network{bare(40), full(40), withIds(bare(40), idsUpTo(40)...), withIds(full(39), idsUpTo(39)...)}
	for _, degrees := range [][]int{{0}, {1}, {3}, {4}, {0, 0}, {1, 2}, {2, 2}, {3, 1}, {0, 3, 0}, {1, 1, 1}, {2, 1, 2}, {1, 2, 0, 2}, {5, 0}, {6}} {
		list = append(list, smallNetworks(degrees...)...)
	}
	r := rand.New(rand.NewSource(11))
	for k := range 60 {
		list = append(list, randomNetwork(r, 2+k%39))
	}
	return list
}
