package tests

import (
	"fmt"
	"math/rand"
	"regexp"
	"slices"
	"strconv"
	"strings"
	"testing"

	"loop.example/g01084/impl"
)

func TestListsOfEdges(t *testing.T) {
	cases := []struct {
		n    impl.Network
		text string
	}{
		{bare(1), "1\n"},
		{bare(40), "40\n"},
		{pair(), "2\n0 1\n1\n"},
		{withIds(pair(), 8, 9), "2\n0 1\n1\n"},
		{full(1), "1\n0\n0\n0\n0\n0\n0\n"},
		{joined([]int{2}, [4]int{0, 0, 0, 1}), "1\n0 0\n"},
		{joined([]int{4}, [4]int{0, 0, 0, 3}, [4]int{0, 1, 0, 2}), "1\n0 0\n0 0\n"},
		{joined([]int{3}, [4]int{0, 0, 0, 2}, [4]int{0, 1, 0, 1}), "1\n0 0\n0\n"},
		{joined([]int{2, 2}, [4]int{0, 0, 1, 1}, [4]int{0, 1, 1, 0}), "2\n0 1\n0 1\n"},
		{joined([]int{2, 1, 1}, [4]int{0, 0, 2, 0}, [4]int{0, 1, 1, 0}), "3\n0 2\n0 1\n"},
		{joined([]int{0, 1, 2}, [4]int{2, 0, 2, 0}, [4]int{2, 1, 1, 0}), "3\n1 2\n2\n"},
	}
	for _, c := range cases {
		if s, ok := impl.EdgeListText(c.n); s != c.text || !ok {
			t.Errorf("edges of %v: %q %v, want %q", c.n, s, ok, c.text)
		}
	}
}

func TestNetworksOfListsOfEdges(t *testing.T) {
	read := func(text, ports string) {
		t.Helper()
		wantPorts(t, fmt.Sprintf("%q", text), ports)(impl.ParseEdgeList(text))
	}
	read("1\n", "")
	read("3\n", "||")
	read("1\n0\n", "0.0")
	read("1\n0 0\n", "0.1 0.0")
	read("2\n0 1\n", "1.0|0.0")
	read("2\n1 0\n", "1.0|0.0")
	read("2\n0 1\n1\n", "1.0|0.0 1.1")
	read("2\n1\n0 1\n", "1.1|1.0 0.0")
	read("2\n1 0\n0 1\n", "1.0 1.1|0.0 0.1")
	read("1\n0\n0 0\n0\n", "0.0 0.2 0.1 0.3")
	read("3\n2 1\n0\n1 0\n1 1\n", "0.0 1.1|2.0 0.1 1.3 1.2|1.0")
	read("3\n1 2\n0 2\n0 1\n", "2.1 1.1|2.0 0.1|1.0 0.0")
	read("11\n10 9\n", "|||||||||10.0|9.0")
	read("40\n39 0\n39\n", "39.0"+strings.Repeat("|", 39)+"0.0 39.1")
}

// edgesByHand writes the edges of a network as lists of nodes, in the order of the first port at which each one is met.
func edgesByHand(n impl.Network) [][]int {
	edges, met := [][]int{}, map[impl.End]bool{}
	for v, list := range n.Ends {
		for i, e := range list {
			p := impl.End{Node: v, Port: i}
			if met[p] {
				continue
			}
			met[e] = true
			if e == p {
				edges = append(edges, []int{v})
			} else {
				edges = append(edges, []int{v, e.Node})
			}
		}
	}
	return edges
}

func listByHand(nodes int, edges [][]int) string {
	text := fmt.Sprintln(nodes)
	for _, e := range edges {
		text += strings.Trim(fmt.Sprint(e), "[]") + "\n"
	}
	return text
}

func TestListsOfEdgesAreReadBack(t *testing.T) {
	r := rand.New(rand.NewSource(48))
	for _, n := range sampleNetworks() {
		edges := edgesByHand(n)
		text, ok := impl.EdgeListText(n)
		if text != listByHand(len(n.Ends), edges) || !ok {
			t.Fatalf("edges of %v: %q %v", n, text, ok)
		}
		got, ok := impl.ParseEdgeList(text)
		wantNetwork(t, text, got, ok, edgeByEdge(len(n.Ends), edges), true)
		if again, ok := impl.EdgeListText(got); again != text || !ok {
			t.Fatalf("edges are read back as %q %v, not as %q", again, ok, text)
		}
		for range 3 {
			r.Shuffle(len(edges), func(i, j int) { edges[i], edges[j] = edges[j], edges[i] })
			for _, e := range edges {
				if r.Intn(2) == 0 {
					slices.Reverse(e)
				}
			}
			text = listByHand(len(n.Ends), edges)
			got, ok = impl.ParseEdgeList(text)
			wantNetwork(t, text, got, ok, edgeByEdge(len(n.Ends), edges), true)
		}
	}
}

func TestListsOfEdgesAtTheLimits(t *testing.T) {
	stubs := "40\n"
	for v := range 40 {
		stubs += strings.Repeat(fmt.Sprintln(v), 6)
	}
	got, ok := impl.ParseEdgeList(stubs)
	wantNetwork(t, "40 nodes with six stubs", got, ok, zeroInputs(full(40)), true)
	got, ok = impl.ParseEdgeList("1\n0 0\n0 0\n0 0\n")
	wantPorts(t, "three loops", "0.1 0.0 0.3 0.2 0.5 0.4")(got, ok)
	got, ok = impl.ParseEdgeList("2\n" + strings.Repeat("1 0\n", 6))
	wantPorts(t, "six edges", "1.0 1.1 1.2 1.3 1.4 1.5|0.0 0.1 0.2 0.3 0.4 0.5")(got, ok)
	noNetwork(t, "a seventh stub")(impl.ParseEdgeList(stubs + "17\n"))
	noNetwork(t, "a seventh port of a loop")(impl.ParseEdgeList("1\n0\n0 0\n0 0\n0 0\n"))
	noNetwork(t, "a fourth loop")(impl.ParseEdgeList("1\n0 0\n0 0\n0 0\n0 0\n"))
	noNetwork(t, "a seventh edge")(impl.ParseEdgeList("2\n" + strings.Repeat("1 0\n", 7)))
	noNetwork(t, "41 nodes")(impl.ParseEdgeList("41\n"))
	noNetwork(t, "no nodes")(impl.ParseEdgeList("0\n"))
	noNetwork(t, "no nodes but an edge")(impl.ParseEdgeList("0\n0 0\n"))
	for _, s := range []string{"0\n", "\n", "0 0\n", " ", "x", "1"} {
		noNetwork(t, "many bytes")(impl.ParseEdgeList("1\n" + strings.Repeat(s, 5998/len(s))))
		noNetwork(t, "too many bytes")(impl.ParseEdgeList("1\n" + strings.Repeat(s, 5999/len(s)+1)))
		noNetwork(t, "very many bytes")(impl.ParseEdgeList(strings.Repeat(s, 1000000)))
	}
}

func TestTextsThatAreNoListsOfEdges(t *testing.T) {
	texts := []string{"", "\n", " ", " \n", "-\n", "x\n", "#1\n", "/1\n", "1.0\n", "1,0\n", "0\n", "41\n", "42\n", "-1\n", "+1\n", "01\n", "00\n", "1e0\n", "1_0\n", "999999\n", "1000000\n", "9223372036854775807\n", "9223372036854775808\n"}
	texts = append(texts, "1", "2\n0 1", "2\n0", "2\n0 1\n1", "1 \n", " 1\n", "1\r\n", "1\t\n", "1\x00\n", "2 0\n", "2 2\n", "2 0 1\n", "1\n\n", "\n1\n", "1\n\n0\n", "2\n0 1\n\n", "\xff\n", "\uff11\n")
	for _, line := range []string{" ", "2", "3", "40", "0 2", "2 0", "2 2", "-1", "0 -1", "-1 0", "-0", "+0", "00", "01", "0 00", "00 0", "0 01", "01 0", "0  1", " 0 1", "0 1 ", " 0", "0 ", "0 1 0", "0 1 1 0", "0 0 0", "0\t1", "0,1", "0.1", "0-1", "0 x", "x 0", "x", "#0", "0 1\r", "0 1\x00", "1000000", "0 1000000", "999999 0", "9223372036854775808", "0 18446744073709551616", "\xff", "0 \xff"} {
		texts = append(texts, "2\n"+line+"\n", "2\n0 1\n"+line+"\n", "2\n"+line+"\n0 1\n")
	}
	for _, s := range texts {
		noNetwork(t, fmt.Sprintf("%q", s))(impl.ParseEdgeList(s))
	}
}

// TestShortListsOfEdges compares with a pattern, in which numbers of three digits are left out because they are too great.
func TestShortListsOfEdges(t *testing.T) {
	form := regexp.MustCompile(`^(0|[12][012]?)\n((0|[12][012]?)( (0|[12][012]?))?\n)*$`)
	count := 0
	textsOver("012 \n", 7, func(s string) {
		got, ok := impl.ParseEdgeList(s)
		if !form.MatchString(s) {
			noNetwork(t, fmt.Sprintf("%q", s))(got, ok)
			return
		}
		lines := strings.Split(s, "\n")
		nodes, _ := strconv.Atoi(lines[0])
		wantOk, edges := nodes > 0, [][]int{}
		for _, line := range lines[1:] {
			e := []int{}
			for _, word := range strings.Fields(line) {
				v, _ := strconv.Atoi(word)
				e = append(e, v)
				wantOk = wantOk && v < nodes
			}
			if len(e) > 0 {
				edges = append(edges, e)
			}
		}
		if !wantOk {
			noNetwork(t, fmt.Sprintf("%q", s))(got, ok)
			return
		}
		count++
		wantNetwork(t, s, got, ok, edgeByEdge(nodes, edges), true)
	})
	if count < 10 {
		t.Error("few lists of edges", count)
	}
}

func TestBrokenNetworksHaveNoTexts(t *testing.T) {
	for _, c := range brokenNetworks() {
		text, ok := impl.NetworkText(c.n)
		refused(t, "text: "+c.name, text, ok)
		text, ok = impl.EdgeListText(c.n)
		refused(t, "edges: "+c.name, text, ok)
	}
	for _, c := range networksAtTheLimits() {
		if text, ok := impl.NetworkText(c.n); text != textByHand(c.n) || !ok {
			t.Errorf("%s: text %q %v", c.name, text, ok)
		}
		if text, ok := impl.EdgeListText(c.n); text != listByHand(len(c.n.Ends), edgesByHand(c.n)) || !ok {
			t.Errorf("%s: edges %q %v", c.name, text, ok)
		}
	}
}
