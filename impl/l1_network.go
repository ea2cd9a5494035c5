package impl

import "slices"

const MaxNodes = 40
const MaxDegree = 6
const MaxInput = 9
const MaxId = 999999

type End struct {
	Node int
	Port int
}

type Network struct {
	Ends   [][]End
	Ids    []int
	Inputs []int
}

// IsNetwork reports whether n is a network.
func IsNetwork(n Network) bool {
	if len(n.Ends) < 1 || len(n.Ends) > MaxNodes {
		return false
	}
	return areMutualEnds(n.Ends) && areIds(n.Ids, len(n.Ends)) && areInputs(n.Inputs, len(n.Ends))
}

// IsSimple reports whether there are no stubs and loops, and no two edges between the same two nodes.
func IsSimple(n Network) (bool, bool) {
	if !IsNetwork(n) {
		return false, false
	}
	for v, list := range n.Ends {
		for i, e := range list {
			if e.Node == v || leadsTo(list[:i], e.Node) {
				return false, true
			}
		}
	}
	return true, true
}

// IsRegular reports whether all nodes have the degree d. d may be any integer.
func IsRegular(n Network, d int) (bool, bool) {
	if !IsNetwork(n) {
		return false, false
	}
	for _, list := range n.Ends {
		if len(list) != d {
			return false, true
		}
	}
	return true, true
}

// DegreesOf returns the degrees of the nodes.
func DegreesOf(n Network) ([]int, bool) {
	if !IsNetwork(n) {
		return nil, false
	}
	degrees := make([]int, len(n.Ends))
	for v, list := range n.Ends {
		degrees[v] = len(list)
	}
	return degrees, true
}

// OtherEnd returns the port with which port i of node v is joined.
func OtherEnd(n Network, v int, i int) (End, bool) {
	if !IsNetwork(n) || !hasPort(n.Ends, End{v, i}) {
		return End{}, false
	}
	return n.Ends[v][i], true
}

// NeighboursOf returns the nodes with ports of which the ports of node v are joined, in the order of the ports of v.
func NeighboursOf(n Network, v int) ([]int, bool) {
	if !IsNetwork(n) || !hasNode(n, v) {
		return nil, false
	}
	neighbours := make([]int, len(n.Ends[v]))
	for i, e := range n.Ends[v] {
		neighbours[i] = e.Node
	}
	return neighbours, true
}

// EdgesOf returns for each edge the list of v, i, w and j for its ports, port i of node v and port j of node w, where v, i is not greater than w, j in the order of lists; both are the same for a stub. The edges are in the order of these lists.
func EdgesOf(n Network) ([][]int, bool) {
	if !IsNetwork(n) {
		return nil, false
	}
	edges := [][]int{}
	for v, list := range n.Ends {
		for i, e := range list {
			if v < e.Node || v == e.Node && i <= e.Port {
				edges = append(edges, []int{v, i, e.Node, e.Port})
			}
		}
	}
	return edges, true
}

// UnionOf returns the network with the nodes of a followed by those of b, which are renumbered. Either both networks have identifiers, or none of them, and so does the result.
func UnionOf(a Network, b Network) (Network, bool) {
	if !IsNetwork(a) || !IsNetwork(b) || (len(a.Ids) == 0) != (len(b.Ids) == 0) {
		return Network{}, false
	}
	return networkOrNone(sideBySide(a, b))
}

// AddEdge returns the network with a new port behind the others of v, and another one of w, which are joined; if v and w are equal, the two new ports of this node are joined.
func AddEdge(n Network, v int, w int) (Network, bool) {
	if !IsNetwork(n) || !hasNode(n, v) || !hasNode(n, w) {
		return Network{}, false
	}
	p, q := End{v, len(n.Ends[v])}, End{w, len(n.Ends[w])}
	if v == w {
		q.Port++
	}
	m := copyNetwork(n)
	m.Ends[v] = append(m.Ends[v], q)
	m.Ends[w] = append(m.Ends[w], p)
	return networkOrNone(m)
}

// AddStub returns the network with a new port behind the others of v that is joined with itself.
func AddStub(n Network, v int) (Network, bool) {
	if !IsNetwork(n) || !hasNode(n, v) {
		return Network{}, false
	}
	m := copyNetwork(n)
	m.Ends[v] = append(m.Ends[v], End{v, len(m.Ends[v])})
	return networkOrNone(m)
}

// RemoveEdge returns the network without the edge of port i of node v. The later ports of its nodes get smaller numbers.
func RemoveEdge(n Network, v int, i int) (Network, bool) {
	if !IsNetwork(n) || !hasPort(n.Ends, End{v, i}) {
		return Network{}, false
	}
	return portChange{kind: edgeRemoved, before: n, at: End{v, i}}.after(), true
}

// PermutePorts returns the network in which the port i of node v has become its port perm[i]; perm is a permutation of its ports.
func PermutePorts(n Network, v int, perm []int) (Network, bool) {
	if !IsNetwork(n) || !hasNode(n, v) || !isPermutation(perm, len(n.Ends[v])) {
		return Network{}, false
	}
	return portChange{kind: portsPermuted, before: n, at: End{Node: v}, list: perm}.after(), true
}

// RenumberNodes returns the network in which node v, with its ports, its identifier and its input, has become node perm[v]; perm is a permutation of the nodes.
func RenumberNodes(n Network, perm []int) (Network, bool) {
	if !IsNetwork(n) || !isPermutation(perm, len(n.Ends)) {
		return Network{}, false
	}
	return portChange{kind: nodesRenumbered, before: n, list: perm}.after(), true
}

// KeepNodes returns the network of the nodes in keep, an increasing list of at least one node, in this order, with the edges that have all their ports at these nodes; the ports that are left of a node keep their order.
func KeepNodes(n Network, keep []int) (Network, bool) {
	if !IsNetwork(n) || len(keep) == 0 || !isIncreasing(keep, 0, len(n.Ends)-1) {
		return Network{}, false
	}
	return portChange{kind: nodesKept, before: n, list: keep}.after(), true
}

// WithIds returns the network with other Ids; an empty list removes them.
func WithIds(n Network, ids []int) (Network, bool) {
	if !IsNetwork(n) || !areIds(ids, len(n.Ends)) {
		return Network{}, false
	}
	m := copyNetwork(n)
	m.Ids = append([]int(nil), ids...)
	return m, true
}

// WithInputs returns the network with other Inputs.
func WithInputs(n Network, inputs []int) (Network, bool) {
	if !IsNetwork(n) || !areInputs(inputs, len(n.Ends)) {
		return Network{}, false
	}
	m := copyNetwork(n)
	m.Inputs = append([]int(nil), inputs...)
	return m, true
}

func hasNode(n Network, v int) bool {
	return v >= 0 && v < len(n.Ends)
}

func hasPort(ends [][]End, e End) bool {
	return e.Node >= 0 && e.Node < len(ends) && e.Port >= 0 && e.Port < len(ends[e.Node])
}

// areMutualEnds reports whether no node has too many ports and each port is joined with one that is joined with it.
func areMutualEnds(ends [][]End) bool {
	for v, list := range ends {
		if len(list) > MaxDegree {
			return false
		}
		for i := range list {
			if !isMutual(ends, End{v, i}) {
				return false
			}
		}
	}
	return true
}

// isMutual reports whether the port p is joined with one that is joined with it.
func isMutual(ends [][]End, p End) bool {
	e := ends[p.Node][p.Port]
	return hasPort(ends, e) && ends[e.Node][e.Port] == p
}

// areIds reports whether ids may be the Ids of a network with that number of nodes.
func areIds(ids []int, nodes int) bool {
	if len(ids) == 0 {
		return true
	}
	if len(ids) != nodes {
		return false
	}
	for v, id := range ids {
		if id < 1 || id > MaxId || slices.Contains(ids[:v], id) {
			return false
		}
	}
	return true
}

// areInputs reports whether inputs may be the Inputs of a network with that number of nodes.
func areInputs(inputs []int, nodes int) bool {
	return len(inputs) == nodes && areBetween(inputs, 0, MaxInput)
}

// leadsTo reports whether a port of node v is in the list.
func leadsTo(list []End, v int) bool {
	for _, e := range list {
		if e.Node == v {
			return true
		}
	}
	return false
}

// isStub reports whether an edge in the form of EdgesOf is a stub.
func isStub(edge []int) bool {
	return edge[0] == edge[2] && edge[1] == edge[3]
}

// isPermutation reports whether perm is a permutation of count numbers.
func isPermutation(perm []int, count int) bool {
	if len(perm) != count {
		return false
	}
	seen := make([]bool, count)
	for _, x := range perm {
		if x < 0 || x >= count || seen[x] {
			return false
		}
		seen[x] = true
	}
	return true
}

func copyNetwork(n Network) Network {
	m := Network{Ends: make([][]End, len(n.Ends))}
	for v, list := range n.Ends {
		m.Ends[v] = append([]End(nil), list...)
	}
	m.Ids = append([]int(nil), n.Ids...)
	m.Inputs = append([]int(nil), n.Inputs...)
	return m
}

// sideBySide returns the nodes of a followed by those of b, which are renumbered. They may be too many for a network.
func sideBySide(a Network, b Network) Network {
	u := copyNetwork(a)
	for _, list := range b.Ends {
		renumbered := make([]End, len(list))
		for i, e := range list {
			renumbered[i] = End{len(a.Ends) + e.Node, e.Port}
		}
		u.Ends = append(u.Ends, renumbered)
	}
	u.Ids = append(u.Ids, b.Ids...)
	u.Inputs = append(u.Inputs, b.Inputs...)
	return u
}

// networkOrNone fails where a result has outgrown the limits or repeats an identifier.
func networkOrNone(n Network) (Network, bool) {
	if !IsNetwork(n) {
		return Network{}, false
	}
	return n, true
}

// The kinds of changes that remove ports or nodes, or give them other numbers.
const (
	edgeRemoved = iota
	portsPermuted
	nodesRenumbered
	nodesKept
)

// A portChange is a change of the network before. The edge that is removed, or the node with ports that are permuted, is given by at; list is the permutation, or the nodes that are kept.
type portChange struct {
	kind   int
	before Network
	at     End
	list   []int
}

// after returns the changed network. All kinds of changes share it, so that the ports of an edge always move together.
func (c portChange) after() Network {
	nodes := len(c.before.Ends)
	if c.kind == nodesKept {
		nodes = len(c.list)
	}
	m := Network{Ends: make([][]End, nodes), Inputs: make([]int, nodes)}
	if len(c.before.Ids) > 0 {
		m.Ids = make([]int, nodes)
	}
	for v := range c.before.Ends {
		to := c.nodeAfter(v)
		if to < 0 {
			continue
		}
		m.Ends[to] = c.portsAfter(v)
		m.Inputs[to] = c.before.Inputs[v]
		if len(m.Ids) > 0 {
			m.Ids[to] = c.before.Ids[v]
		}
	}
	return m
}

// nodeAfter returns the new number of node v, and -1 if it is removed.
func (c portChange) nodeAfter(v int) int {
	switch c.kind {
	case nodesRenumbered:
		return c.list[v]
	case nodesKept:
		return slices.Index(c.list, v)
	}
	return v
}

// portsAfter returns the list of Ends that node v has after the change.
func (c portChange) portsAfter(v int) []End {
	ports := make([]End, c.stayingBefore(v, len(c.before.Ends[v])))
	for i, e := range c.before.Ends[v] {
		if p := (End{v, i}); c.stays(p) {
			ports[c.portAfter(p)] = End{c.nodeAfter(e.Node), c.portAfter(e)}
		}
	}
	return ports
}

// portAfter returns the new number of a port that stays.
func (c portChange) portAfter(p End) int {
	if c.kind == portsPermuted && p.Node == c.at.Node {
		return c.list[p.Port]
	}
	return c.stayingBefore(p.Node, p.Port)
}

// stayingBefore counts the ports of node v before its port i that stay.
func (c portChange) stayingBefore(v, i int) int {
	count := 0
	for j := range i {
		if c.stays(End{v, j}) {
			count++
		}
	}
	return count
}

// stays reports whether the port p is not removed.
func (c portChange) stays(p End) bool {
	other := c.before.Ends[p.Node][p.Port]
	switch c.kind {
	case edgeRemoved:
		return p != c.at && other != c.at
	case nodesKept:
		return slices.Contains(c.list, p.Node) && slices.Contains(c.list, other.Node)
	}
	return true
}
