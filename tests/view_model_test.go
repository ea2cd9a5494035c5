package tests

import (
	"fmt"
	"math/rand"
	"regexp"
	"slices"
	"strings"
	"testing"

	"loop.example/g01084/impl"
)

// A viewBook has one number for all equal views of any networks: that of a text in which views behind ports are written as their numbers.
type viewBook map[string]int

// numbersOf returns the numbers of the views of all nodes, for each depth up to t.
func (b viewBook) numbersOf(n impl.Network, t int) [][]int {
	byDepth := [][]int{}
	for depth := range t + 1 {
		numbers := []int{}
		for v, list := range n.Ends {
			key := fmt.Sprint(len(list), ".", n.Inputs[v])
			for _, e := range list {
				if depth > 0 {
					key += fmt.Sprint(" ", e.Port, ":", byDepth[depth-1][e.Node])
				}
			}
			if _, met := b[key]; !met {
				b[key] = len(b)
			}
			numbers = append(numbers, b[key])
		}
		byDepth = append(byDepth, numbers)
	}
	return byDepth
}

// classesOfNumbers numbers the different numbers in the order in which they come first.
func classesOfNumbers(numbers []int) []int {
	met, class := []int{}, []int{}
	for _, x := range numbers {
		if !slices.Contains(met, x) {
			met = append(met, x)
		}
		class = append(class, slices.Index(met, x))
	}
	return class
}

// A viewTree is a view that is written out. It has no parts for depth 0.
type viewTree struct {
	degree, input int
	ports         []int
	parts         []viewTree
}

func treeOfNode(n impl.Network, v, t int) viewTree {
	w := viewTree{degree: len(n.Ends[v]), input: n.Inputs[v]}
	for _, e := range n.Ends[v] {
		if t > 0 {
			w.ports = append(w.ports, e.Port)
			w.parts = append(w.parts, treeOfNode(n, e.Node, t-1))
		}
	}
	return w
}

func (w viewTree) text() string {
	parts := []string{}
	for i, part := range w.parts {
		parts = append(parts, fmt.Sprintf("%d:%s", w.ports[i], part.text()))
	}
	if len(parts) == 0 {
		return fmt.Sprintf("%d.%d", w.degree, w.input)
	}
	return fmt.Sprintf("%d.%d(%s)", w.degree, w.input, strings.Join(parts, ","))
}

func (w viewTree) cut(t int) viewTree {
	short := viewTree{degree: w.degree, input: w.input}
	for i, part := range w.parts {
		if t > 0 {
			short.ports = append(short.ports, w.ports[i])
			short.parts = append(short.parts, part.cut(t-1))
		}
	}
	return short
}

// depths returns the least and the greatest number of steps to a view without parts.
func (w viewTree) depths() (int, int) {
	if len(w.parts) == 0 {
		return 0, 0
	}
	least, greatest := 10000, 0
	for _, part := range w.parts {
		a, b := part.depths()
		least, greatest = min(least, a+1), max(greatest, b+1)
	}
	return least, greatest
}

// fits reports whether degrees, numbers of parts and ports go together.
func (w viewTree) fits() bool {
	if w.degree > 6 || len(w.parts) > 0 && len(w.parts) != w.degree {
		return false
	}
	for i, part := range w.parts {
		if w.ports[i] >= part.degree || !part.fits() {
			return false
		}
	}
	return true
}

var (
	headOfView = regexp.MustCompile(`^([0-9])\.([0-9])`)
	headOfPart = regexp.MustCompile(`^([0-9]):`)
)

// takeTree takes a tree off the front of a text, whatever its numbers are.
func takeTree(s string) (viewTree, string, bool) {
	head := headOfView.FindStringSubmatch(s)
	if head == nil {
		return viewTree{}, s, false
	}
	w := viewTree{degree: int(head[1][0] - '0'), input: int(head[2][0] - '0')}
	s = s[len(head[0]):]
	if !strings.HasPrefix(s, "(") {
		return w, s, true
	}
	for mark := "("; strings.HasPrefix(s, mark); mark = "," {
		port := headOfPart.FindStringSubmatch(s[1:])
		if port == nil {
			return w, s, false
		}
		part, rest, ok := takeTree(s[1+len(port[0]):])
		if !ok {
			return w, s, false
		}
		w.ports, w.parts, s = append(w.ports, int(port[1][0]-'0')), append(w.parts, part), rest
	}
	rest, ok := strings.CutPrefix(s, ")")
	return w, rest, ok
}

// treeOfText returns the tree of a view text, and fails if it is none.
func treeOfText(s string) (viewTree, bool) {
	w, rest, ok := takeTree(s)
	if !ok || rest != "" || len(s) > 4000 || !w.fits() {
		return viewTree{}, false
	}
	least, greatest := w.depths()
	return w, least == greatest && greatest <= 80
}

// randomTree returns a view of a depth in which a view of degree 0 is alone.
func randomTree(r *rand.Rand, depth, most int) viewTree {
	w := viewTree{degree: 1 + r.Intn(most), input: r.Intn(10)}
	for range w.degree {
		if depth > 0 {
			part := randomTree(r, depth-1, most)
			w.ports, w.parts = append(w.ports, r.Intn(part.degree)), append(w.parts, part)
		}
	}
	return w
}

// chain returns the text of a view of a depth in which all nodes have one port.
func chain(depth int) string {
	return strings.Repeat("1.0(0:", depth) + "1.0" + strings.Repeat(")", depth)
}

// line returns a row of nodes with four ports, in which ports with equal numbers are joined. Nothing tells nodes apart but the ports 2 and 3 of the marked nodes, which are joined with each other and with themselves at all other nodes.
func line(nodes int, marked ...int) impl.Network {
	return byRule(nodes, 4, func(v, i int) (int, int) {
		next := v + 1
		if (v+i)%2 > 0 {
			next = v - 1
		}
		switch {
		case i >= 2 && slices.Contains(marked, v):
			return v, 5 - i
		case i >= 2 || next < 0 || next == nodes:
			return v, i
		}
		return next, i
	})
}

// sure returns the network of a call that must not fail.
func sure(t *testing.T) func(impl.Network, bool) impl.Network {
	return func(n impl.Network, ok bool) impl.Network {
		t.Helper()
		if !ok {
			t.Fatal("a network is refused")
		}
		return n
	}
}

// deepNetworks returns networks with twins, and with nodes that only views of a great depth tell apart.
func deepNetworks(t *testing.T) []impl.Network {
	list := []impl.Network{line(1), line(1, 0), line(2, 1), line(7), line(7, 3), line(20, 4, 5), line(39, 38), line(40), line(40, 0), line(40, 11)}
	for _, k := range []int{1, 2, 3, 9, 40} {
		list = append(list, sure(t)(impl.PathNetwork(k)), sure(t)(impl.CycleNetwork(k)))
		marked := sure(t)(impl.CycleNetwork(k))
		marked.Inputs[k/2] = 7
		list = append(list, marked)
	}
	list = append(list, sure(t)(impl.GridNetwork(5, 8)), sure(t)(impl.RegularTree(3, 3)), sure(t)(impl.StarNetwork(5)))
	list = append(list, sure(t)(impl.UnionOf(line(19, 0), line(20, 19))), sure(t)(impl.UnionOf(line(12, 0), line(12, 0))), sure(t)(impl.UnionOf(zeroInputs(bare(4)), line(30, 7))))
	r := rand.New(rand.NewSource(5))
	for _, n := range list {
		list = append(list, sure(t)(impl.RenumberNodes(n, r.Perm(len(n.Ends)))))
	}
	return list
}

// viewNetworks returns deep networks, and all the others with inputs and without.
func viewNetworks(t *testing.T) []impl.Network {
	list := deepNetworks(t)
	for k, n := range sampleNetworks() {
		list = append(list, n, zeroInputs(n))
		if k%3 == 0 && len(n.Ends) <= 20 {
			list = append(list, sure(t)(impl.DoubleCover(n)))
		}
	}
	for k, c := range symmetricNetworks(t) {
		if k%4 == 0 {
			list = append(list, c.n)
		}
	}
	return list
}

// followed returns where a walk from v through ports ends: the node and the port that it came by, which is -1 without steps.
func followed(n impl.Network, v int, ports []int) impl.End {
	at := impl.End{Node: v, Port: -1}
	for _, i := range ports {
		at = n.Ends[at.Node][i]
	}
	return at
}

// walksFrom returns the ports of all walks of at most t steps that never go back at once, by their length and then in lexicographic order, or as many of them as are enough to see that there are more than 40.
func walksFrom(n impl.Network, v, t int) [][]int {
	walks, longest := [][]int{{}}, [][]int{{}}
	for range t {
		longer := [][]int{}
		for _, ports := range longest {
			at := followed(n, v, ports)
			for i := len(n.Ends[at.Node]) - 1; i >= 0; i-- {
				if i != at.Port {
					longer = append(longer, append(slices.Clone(ports), i))
				}
			}
		}
		slices.SortFunc(longer, slices.Compare)
		walks, longest = append(walks, longer...), longer
		if len(walks) > 40 {
			return walks
		}
	}
	return walks
}

// unfoldedByHand names walks by their ports.
func unfoldedByHand(n impl.Network, v, t int) (impl.Network, bool) {
	walks := walksFrom(n, v, t)
	if len(walks) > 40 {
		return impl.Network{}, false
	}
	number := map[string]int{}
	for k, ports := range walks {
		number[fmt.Sprint(ports)] = k
	}
	u := impl.Network{}
	for _, ports := range walks {
		at := followed(n, v, ports)
		list := []impl.End{}
		for i := range n.Ends[at.Node] {
			switch {
			case i == at.Port:
				last := len(ports) - 1
				list = append(list, impl.End{Node: number[fmt.Sprint(ports[:last])], Port: ports[last]})
			case len(ports) < t:
				next := append(slices.Clone(ports), i)
				e := impl.End{Node: number[fmt.Sprint(next)], Port: followed(n, v, next).Port}
				if len(next) == t {
					e.Port = 0
				}
				list = append(list, e)
			}
		}
		u.Ends = append(u.Ends, list)
		u.Inputs = append(u.Inputs, n.Inputs[at.Node])
	}
	return u, true
}
