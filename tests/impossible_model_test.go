package tests

import (
	"fmt"
	"math/rand"
	"slices"
	"testing"

	"loop.example/g01084/impl"
)

var allTasks = []int{impl.TkLeader, impl.TkColouring, impl.TkNames}

// meetsByHand reads the outputs in their order, and those at both ends of each edge.
func meetsByHand(n impl.Network, task int, outputs []int) bool {
	sorted := slices.Sorted(slices.Values(outputs))
	switch task {
	case impl.TkLeader:
		want := make([]int, len(outputs))
		want[len(want)-1] = 1
		return slices.Equal(sorted, want)
	case impl.TkColouring:
		return !slices.ContainsFunc(edgeEnds(n), func(e [2]impl.End) bool {
			return outputs[e[0].Node] == outputs[e[1].Node]
		})
	}
	return len(slices.Compact(sorted)) == len(outputs)
}

// canMeetByHand asks whether equal numbers leave a way to meet a task.
func canMeetByHand(n impl.Network, task int, numbers []int) bool {
	byNumber := map[int][]int{}
	for v, x := range numbers {
		byNumber[x] = append(byNumber[x], v)
	}
	for _, nodes := range byNumber {
		switch {
		case task == impl.TkLeader && len(nodes) == 1:
			return true
		case task == impl.TkNames && len(nodes) > 1:
			return false
		case task != impl.TkColouring:
			continue
		}
		for _, v := range nodes {
			if slices.ContainsFunc(n.Ends[v], func(e impl.End) bool { return slices.Contains(nodes, e.Node) }) {
				return false
			}
		}
	}
	return task != impl.TkLeader
}

// leastDepthByHand returns the least depth at which a task can be met, given the numbers of views of the depths from 0 on. It fails if there is none.
func leastDepthByHand(n impl.Network, task int, numbers [][]int) (int, bool) {
	for depth, list := range numbers {
		if canMeetByHand(n, task, list) {
			return depth, true
		}
	}
	return 0, false
}

// outputsByHand returns the outputs that the chapter chooses, for the numbers of twin classes. It fails if they do not meet the task.
func outputsByHand(n impl.Network, task int, class []int) ([]int, bool) {
	outputs := slices.Clone(class)
	if task == impl.TkLeader {
		counts, least := map[int]int{}, len(class)
		for _, x := range class {
			counts[x]++
		}
		for x, count := range counts {
			if count == 1 {
				least = min(least, x)
			}
		}
		outputs = make([]int, len(class))
		if least < len(class) {
			outputs[slices.Index(class, least)] = 1
		}
	}
	return outputs, meetsByHand(n, task, outputs)
}

// isConsistentByHand compares any two nodes with the same number by what they tell about themselves and the numbers behind their ports.
func isConsistentByHand(n impl.Network, class []int) bool {
	if len(class) != len(n.Ends) {
		return false
	}
	plain := withIds(n)
	for v, x := range class {
		for w, y := range class {
			if x < 0 || x == y && nodeByHand(plain, v, class) != nodeByHand(plain, w, class) {
				return false
			}
		}
	}
	return true
}

// areJoinedByHand looks for an edge with one end at each of two nodes.
func areJoinedByHand(n impl.Network, u, v int) bool {
	return slices.ContainsFunc(edgeEnds(n), func(e [2]impl.End) bool {
		a, b := e[0].Node, e[1].Node
		return a == u && b == v || a == v && b == u
	})
}

// refuseByHand reports whether nodes of a network, with consistent classes, are as in a right refusal.
func refuseByHand(n impl.Network, task int, class []int, u, v int) bool {
	switch task {
	case impl.TkLeader:
		return u == 0 && v == 0 && !canMeetByHand(n, task, class)
	case impl.TkColouring:
		return u <= v && class[u] == class[v] && areJoinedByHand(n, u, v)
	case impl.TkNames:
		return u < v && class[u] == class[v]
	}
	return false
}

func isRightByHand(n impl.Network, r impl.Refusal) bool {
	nodes := rising(len(n.Ends))
	if !isConsistentByHand(n, r.Class) || !slices.Contains(nodes, r.U) || !slices.Contains(nodes, r.V) {
		return false
	}
	return refuseByHand(n, r.Task, r.Class, r.U, r.V)
}

// refusalByHand lists all pairs of nodes that refuse a task with these consistent classes, and takes the first one.
func refusalByHand(n impl.Network, task int, class []int) (impl.Refusal, bool) {
	pairs := [][]int{}
	for v := range n.Ends {
		for u := range n.Ends {
			if refuseByHand(n, task, class, u, v) {
				pairs = append(pairs, []int{u, v})
			}
		}
	}
	if len(pairs) == 0 {
		return impl.Refusal{}, false
	}
	first := slices.MinFunc(pairs, slices.Compare)
	return impl.Refusal{Task: task, Class: class, U: first[0], V: first[1]}, true
}

// connectedTwinByHand follows the edges until one is not in the tree.
func connectedTwinByHand(n impl.Network) (impl.Network, []int, bool) {
	row := distanceTable(n)[0]
	if slices.Contains(row, -1) || isForestByHand(n) || len(n.Ends) > 20 {
		return impl.Network{}, nil, false
	}
	perms, crossed := [][]int{}, false
	tree := treeByHand(n, row)
	for _, e := range edgeEnds(n) {
		perm := []int{0, 1}
		inTree := tree[e[0].Node] == e[0].Port || tree[e[1].Node] == e[1].Port
		if !inTree && !crossed {
			perm, crossed = []int{1, 0}, true
		}
		perms = append(perms, perm)
	}
	return liftByHand(n, 2, perms), projection(len(n.Ends), 2), true
}

// wantRefusal fails the test unless the call succeeded with the refusal want, or failed with none.
func wantRefusal(t *testing.T, got impl.Refusal, ok bool, want impl.Refusal, wantOk bool, what ...any) {
	t.Helper()
	if !wantOk {
		want = impl.Refusal{}
	}
	if ok != wantOk || !same(got, want) {
		t.Fatalf("%v: got %v %v, want %v %v", what, got, ok, want, wantOk)
	}
}

// wantOutputs fails the test unless the call succeeded with the list want, or failed with none.
func wantOutputs(t *testing.T, got []int, ok bool, want []int, wantOk bool, what ...any) {
	t.Helper()
	if !wantOk {
		refused(t, fmt.Sprint(what...), got, ok)
		return
	}
	wantList(t, got, ok, want, what...)
}

// oneOff returns a network of nodes with four ports in a row that only the mark at its last node tells apart, with two stubs more at each node if thick is true. Its node 0 is the last one to be known.
func oneOff(t *testing.T, nodes int, thick bool) impl.Network {
	n := line(nodes, nodes-1)
	for v := range nodes {
		for i := 0; thick && i < 2; i++ {
			n = sure(t)(impl.AddStub(n, v))
		}
	}
	return n
}

// unevenPaths returns a path of some nodes beside one that is longer by one node. Nothing tells their nodes apart but the ends that they see.
func unevenPaths(t *testing.T, nodes int) impl.Network {
	return sure(t)(impl.UnionOf(sure(t)(impl.PathNetwork(nodes)), sure(t)(impl.PathNetwork(nodes+1))))
}

// taskNetworks returns networks of all forms: with twins and without, connected and not, with stubs, loops and repeated edges and without, with identifiers and without, and networks in which only a few nodes have twins.
func taskNetworks(t *testing.T) []impl.Network {
	r := rand.New(rand.NewSource(121))
	list := append(tableNetworks(t), zeroInputs(bare(1)), zeroInputs(bare(2)), zeroInputs(bare(40)), full(40))
	for k := range 5 {
		list = append(list, oneOff(t, 3+k, false), oneOff(t, 3+k, true))
	}
	for k := 1; k <= 14; k++ {
		list = append(list, sure(t)(impl.PathNetwork(k)), sure(t)(impl.CycleNetwork(k)), marked(sure(t)(impl.CycleNetwork(k)), 0), unevenPaths(t, k))
	}
	for k, c := range coverMaps(t) {
		if k%2 == 0 {
			list = append(list, c.a)
		}
	}
	for _, n := range sparseNetworks()[:60] {
		if len(n.Ends) > 19 {
			continue
		}
		twice := sure(t)(impl.UnionOf(withIds(n), withIds(n)))
		more := sure(t)(impl.UnionOf(sure(t)(impl.PathNetwork(1+r.Intn(2))), twice))
		list = append(list, twice, sure(t)(impl.RenumberNodes(more, r.Perm(len(more.Ends)))))
	}
	return list
}
