package tests

import (
	"fmt"
	"math/rand"
	"slices"
	"testing"

	"loop.example/g01084/impl"
)

func TestAddedEdgesAndStubs(t *testing.T) {
	for _, n := range sampleNetworks() {
		for v := range n.Ends {
			d := len(n.Ends[v])
			m := modelOf(n)
			m.ports[v] = append(m.ports[v], 90000)
			m.mate[90000] = 90000
			got, ok := impl.AddStub(n, v)
			wantNetwork(t, fmt.Sprint("stub at ", v, n), got, ok, m.network(), d < 6)
			if ok {
				wantRemoved(t, got, v, d, n)
			}
			for _, w := range []int{0, v, len(n.Ends) / 2, len(n.Ends) - 1} {
				wantAddedEdge(t, n, v, w)
			}
		}
	}
}

func wantAddedEdge(t *testing.T, n impl.Network, v, w int) {
	t.Helper()
	m := modelOf(n)
	m.ports[v] = append(m.ports[v], 90000)
	m.ports[w] = append(m.ports[w], 90001)
	m.mate[90000], m.mate[90001] = 90001, 90000
	got, ok := impl.AddEdge(n, v, w)
	wantNetwork(t, fmt.Sprint("edge from ", v, w, n), got, ok, m.network(), len(m.ports[v]) <= 6 && len(m.ports[w]) <= 6)
	if ok {
		wantRemoved(t, got, v, len(n.Ends[v]), n)
		wantRemoved(t, got, w, len(got.Ends[w])-1, n)
	}
}

// wantRemoved checks that the removal of an edge undoes a change.
func wantRemoved(t *testing.T, n impl.Network, v, i int, want impl.Network) {
	t.Helper()
	got, ok := impl.RemoveEdge(n, v, i)
	wantNetwork(t, "added and removed again", got, ok, want, true)
}

func TestAddedEdgesAtTheDegreeLimit(t *testing.T) {
	four, five, six := full(2), full(2), full(2)
	four.Ends[0], five.Ends[0] = four.Ends[0][:4], five.Ends[0][:5]
	four.Ends[1], five.Ends[1] = nil, nil
	if m, ok := impl.AddEdge(four, 0, 0); !ok || m.Ends[0][4] != (impl.End{Node: 0, Port: 5}) || m.Ends[0][5] != (impl.End{Node: 0, Port: 4}) {
		t.Error("a loop that meets the limit", m, ok)
	}
	m, ok := impl.AddEdge(five, 0, 0)
	refused(t, "a loop that exceeds the limit by one", m, ok)
	if m, ok := impl.AddEdge(five, 0, 1); !ok || m.Ends[0][5] != (impl.End{Node: 1, Port: 0}) || m.Ends[1][0] != (impl.End{Node: 0, Port: 5}) {
		t.Error("an edge that meets the limit", m, ok)
	}
	if m, ok := impl.AddStub(five, 0); !ok || m.Ends[0][5] != (impl.End{Node: 0, Port: 5}) {
		t.Error("a stub that meets the limit", m, ok)
	}
	six.Ends[1] = nil
	m, ok = impl.AddEdge(six, 0, 1)
	refused(t, "an edge from a full node", m, ok)
	m, ok = impl.AddEdge(six, 1, 0)
	refused(t, "an edge to a full node", m, ok)
	m, ok = impl.AddStub(six, 0)
	refused(t, "a stub at a full node", m, ok)
}

func TestRemovedEdges(t *testing.T) {
	for _, n := range sampleNetworks() {
		for v, list := range n.Ends {
			for i, e := range list {
				m := modelOf(n)
				x := m.ports[v][i]
				y := m.mate[x]
				want := m.without(func(name int) bool { return name == x || name == y }).network()
				got, ok := impl.RemoveEdge(n, v, i)
				wantNetwork(t, fmt.Sprint("without the edge of ", v, i, n), got, ok, want, true)
				wantRestored(t, got, v, i, e, n)
			}
		}
	}
}

// wantRestored adds an edge that was removed and moves its ports back to their places.
func wantRestored(t *testing.T, n impl.Network, v, i int, e impl.End, want impl.Network) {
	t.Helper()
	stub := e == impl.End{Node: v, Port: i}
	if v == e.Node && i > e.Port {
		i, e.Port = e.Port, i
	}
	var ok bool
	if stub {
		n, ok = impl.AddStub(n, v)
	} else {
		n, ok = impl.AddEdge(n, v, e.Node)
	}
	if !ok {
		t.Fatal("the edge is not added again")
	}
	if v == e.Node && !stub {
		n, ok = impl.PermutePorts(n, v, lastTwoTo(len(n.Ends[v]), i, e.Port))
	} else {
		n, ok = impl.PermutePorts(n, v, lastTo(len(n.Ends[v]), i))
		if ok && !stub {
			n, ok = impl.PermutePorts(n, e.Node, lastTo(len(n.Ends[e.Node]), e.Port))
		}
	}
	wantNetwork(t, "removed and added again", n, ok, want, true)
}

// lastTo returns the permutation that moves the last number to i.
func lastTo(count, i int) []int {
	perm := []int{}
	for k := range count - 1 {
		if k >= i {
			k++
		}
		perm = append(perm, k)
	}
	return append(perm, i)
}

// lastTwoTo returns the permutation that moves the last two numbers to i and j, where i is less than j.
func lastTwoTo(count, i, j int) []int {
	perm := []int{}
	for k := range count {
		if k != i && k != j {
			perm = append(perm, k)
		}
	}
	return append(perm, i, j)
}

func inverse(perm []int) []int {
	back := make([]int, len(perm))
	for i, x := range perm {
		back[x] = i
	}
	return back
}

// rotation returns the permutation that moves each number up by one.
func rotation(count int) []int {
	perm := []int{}
	for i := range count {
		perm = append(perm, (i+1)%count)
	}
	return perm
}

func TestPermutedPorts(t *testing.T) {
	r := rand.New(rand.NewSource(3))
	for _, n := range sampleNetworks() {
		for v, list := range n.Ends {
			for _, perm := range [][]int{r.Perm(len(list)), r.Perm(len(list)), rotation(len(list))} {
				m := modelOf(n)
				moved := make([]int, len(list))
				for i, x := range m.ports[v] {
					moved[perm[i]] = x
				}
				m.ports[v] = moved
				got, ok := impl.PermutePorts(n, v, perm)
				wantNetwork(t, fmt.Sprint("ports permuted ", v, perm, n), got, ok, m.network(), true)
				got, ok = impl.PermutePorts(got, v, inverse(perm))
				wantNetwork(t, "ports permuted back", got, ok, n, true)
			}
		}
	}
}

func TestRenumberedNodes(t *testing.T) {
	r := rand.New(rand.NewSource(4))
	for _, n := range sampleNetworks() {
		for _, perm := range [][]int{r.Perm(len(n.Ends)), r.Perm(len(n.Ends)), rotation(len(n.Ends))} {
			m := modelOf(n)
			moved := modelOf(n)
			for v, to := range perm {
				moved.ports[to] = m.ports[v]
				moved.inputs[to] = m.inputs[v]
				if len(m.ids) > 0 {
					moved.ids[to] = m.ids[v]
				}
			}
			got, ok := impl.RenumberNodes(n, perm)
			wantNetwork(t, fmt.Sprint("nodes renumbered ", perm, n), got, ok, moved.network(), true)
			got, ok = impl.RenumberNodes(got, inverse(perm))
			wantNetwork(t, "nodes renumbered back", got, ok, n, true)
		}
	}
}

func TestKeptNodes(t *testing.T) {
	r := rand.New(rand.NewSource(6))
	for _, n := range sampleNetworks() {
		for range 6 {
			keep := []int{}
			for v := range n.Ends {
				if r.Intn(3) > 0 {
					keep = append(keep, v)
				}
			}
			got, ok := impl.KeepNodes(n, keep)
			wantNetwork(t, fmt.Sprint("nodes kept ", keep, n), got, ok, keptByHand(n, keep), len(keep) > 0)
		}
	}
}

func keptByHand(n impl.Network, keep []int) impl.Network {
	m := modelOf(n)
	m = m.without(func(name int) bool {
		return !slices.Contains(keep, name/100) || !slices.Contains(keep, m.mate[name]/100)
	})
	kept := model{mate: m.mate}
	for _, v := range keep {
		kept.ports = append(kept.ports, m.ports[v])
		kept.inputs = append(kept.inputs, m.inputs[v])
		if len(m.ids) > 0 {
			kept.ids = append(kept.ids, m.ids[v])
		}
	}
	return kept.network()
}

func TestEdgesThatLeaveTheKeptNodesAreLost(t *testing.T) {
	n := withIds(joined([]int{3, 2, 2}, [4]int{0, 0, 1, 0}, [4]int{0, 1, 2, 1}, [4]int{0, 2, 2, 0}, [4]int{1, 1, 1, 1}), 7, 8, 9)
	got, ok := impl.KeepNodes(n, []int{0, 2})
	want := withIds(joined([]int{2, 2}, [4]int{0, 0, 1, 1}, [4]int{0, 1, 1, 0}), 7, 9)
	want.Inputs = []int{1, 3}
	wantNetwork(t, "without node 1", got, ok, want, true)
	got, ok = impl.KeepNodes(n, []int{1})
	want = withIds(joined([]int{1}, [4]int{0, 0, 0, 0}), 8)
	want.Inputs = []int{2}
	wantNetwork(t, "node 1 alone", got, ok, want, true)
}

func TestIdentifiersAndInputsAreReplaced(t *testing.T) {
	for _, n := range sampleNetworks() {
		ids, inputs := []int{}, []int{}
		for v := range n.Ends {
			ids = append(ids, 999999-v)
			inputs = append(inputs, 9-v%10)
		}
		want := n
		want.Ids = ids
		got, ok := impl.WithIds(n, ids)
		wantNetwork(t, "other identifiers", got, ok, want, true)
		got, ok = impl.WithIds(got, n.Ids)
		wantNetwork(t, "identifiers as before", got, ok, n, true)
		want.Ids = nil
		got, ok = impl.WithIds(n, []int{})
		wantNetwork(t, "no identifiers", got, ok, want, true)
		want = n
		want.Inputs = inputs
		got, ok = impl.WithInputs(n, inputs)
		wantNetwork(t, "other inputs", got, ok, want, true)
		got, ok = impl.WithInputs(got, n.Inputs)
		wantNetwork(t, "inputs as before", got, ok, n, true)
	}
}
