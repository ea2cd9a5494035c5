package tests

import (
	"fmt"
	"slices"
	"strings"
	"testing"

	"loop.example/g01084/impl"
)

// zeroInputs returns the network with only inputs 0.
func zeroInputs(n impl.Network) impl.Network {
	n.Inputs = make([]int, len(n.Ends))
	return n
}

// edgeByEdge makes a network from nodes without ports: each edge gives a new last port to both of its nodes, or to the only one of a stub.
func edgeByEdge(nodes int, edges [][]int) impl.Network {
	m := model{ports: make([][]int, nodes), mate: map[int]int{}, inputs: make([]int, nodes)}
	for k, e := range edges {
		x, y := 2*k, 2*k+len(e)-1
		m.mate[x], m.mate[y] = y, x
		for i, v := range e {
			m.ports[v] = append(m.ports[v], 2*k+i)
		}
	}
	return m.network()
}

// byRule makes a network in which port i of node v is joined with port j of node w if the rule takes v, i to w, j.
func byRule(nodes, degree int, rule func(v, i int) (int, int)) impl.Network {
	n := zeroInputs(bare(nodes))
	for v := range nodes {
		for i := range degree {
			w, j := rule(v, i)
			n.Ends[v] = append(n.Ends[v], impl.End{Node: w, Port: j})
		}
	}
	return n
}

// portsOf writes out where the ports lead: nodes are separated by bars, and the node and the port of an end by a dot.
func portsOf(n impl.Network) string {
	nodes := []string{}
	for _, list := range n.Ends {
		ends := []string{}
		for _, e := range list {
			ends = append(ends, fmt.Sprint(e.Node, ".", e.Port))
		}
		nodes = append(nodes, strings.Join(ends, " "))
	}
	return strings.Join(nodes, "|")
}

// wantPorts fails the test unless the call succeeded with a network without identifiers, with inputs 0 and with these ports.
func wantPorts(t *testing.T, what, ports string) func(impl.Network, bool) {
	return func(n impl.Network, ok bool) {
		t.Helper()
		if !ok || !impl.IsNetwork(n) || portsOf(n) != ports {
			t.Errorf("%s: got %s %v, want %s", what, portsOf(n), ok, ports)
		}
		if len(n.Ids) != 0 || !same(n.Inputs, make([]int, len(n.Ends))) {
			t.Errorf("%s: identifiers %v and inputs %v", what, n.Ids, n.Inputs)
		}
	}
}

// noNetwork fails the test unless the call failed with the zero value.
func noNetwork(t *testing.T, what ...any) func(impl.Network, bool) {
	return func(n impl.Network, ok bool) {
		t.Helper()
		refused(t, fmt.Sprint(what...), n, ok)
	}
}

// isCovering reports whether the map takes each node of a to one of b with the same degree, the same input and the same other ends, and meets each node of b.
func isCovering(a, b impl.Network, images []int) bool {
	met := map[int]bool{}
	for v, image := range images {
		met[image] = true
		if len(a.Ends[v]) != len(b.Ends[image]) || a.Inputs[v] != b.Inputs[image] {
			return false
		}
		for i, e := range a.Ends[v] {
			if b.Ends[image][i] != (impl.End{Node: images[e.Node], Port: e.Port}) {
				return false
			}
		}
	}
	return len(images) == len(a.Ends) && len(met) == len(b.Ends)
}

// imagesFrom follows equal ports from node 0 of a and from node w of b. It fails if ports differ, or if a node is not reached.
func imagesFrom(a, b impl.Network, w int) ([]int, bool) {
	images := slices.Repeat([]int{-1}, len(a.Ends))
	images[0] = w
	reached := []int{0}
	for k := 0; k < len(reached); k++ {
		v := reached[k]
		if len(a.Ends[v]) != len(b.Ends[images[v]]) {
			return nil, false
		}
		for i, e := range a.Ends[v] {
			if images[e.Node] < 0 {
				images[e.Node] = b.Ends[images[v]][i].Node
				reached = append(reached, e.Node)
			}
		}
	}
	return images, len(reached) == len(a.Ends)
}

// areIsomorphic reports whether connected networks are the same but for the numbers of their nodes.
func areIsomorphic(a, b impl.Network) bool {
	if len(a.Ends) != len(b.Ends) {
		return false
	}
	for w := range b.Ends {
		if images, ok := imagesFrom(a, b, w); ok && isCovering(a, b, images) {
			return true
		}
	}
	return false
}

// isConnected reports whether all nodes are reached from node 0.
func isConnected(n impl.Network) bool {
	_, ok := imagesFrom(n, n, 0)
	return ok
}

// looksEqualFromAllNodes tells nodes apart by what they see of their neighbours' classes, again and again, and reports whether they all stay in one class.
func looksEqualFromAllNodes(n impl.Network) bool {
	class := make([]string, len(n.Ends))
	for range n.Ends {
		number := map[string]int{}
		for v, c := range class {
			number[c] = v
		}
		next := make([]string, len(n.Ends))
		for v, list := range n.Ends {
			next[v] = fmt.Sprint(n.Inputs[v], ":")
			for _, e := range list {
				next[v] += fmt.Sprint(e.Port, "-", number[class[e.Node]], ",")
			}
		}
		class = next
	}
	return len(slices.Compact(class)) == 1
}
