package tests

import (
	"math/rand"
	"reflect"
	"strings"
	"testing"

	"loop.example/g01084/impl"
)

// argumentsOfChapter4 returns texts of all kinds, with faults and without, numbers, ends and labelings, with the networks of chapter 1.
func argumentsOfChapter4() map[reflect.Type][]any {
	texts := []any{}
	for _, s := range []string{"", "-", "\n", " ", "x", "|", "||", "0", "1", "0.0", "0.0\n", "5.3", "999999.999999", "1000000.0", "#1", "#1 1.0\n#2 0.0", "#1\n\n", "#1\n#1\n", "/9\n/0\n", "1.0\n0.1\n", "0.1 0.0", "1,2|", "1,2|3,4,5,6|99", "100", "1\n", "1\n0\n", "1\n0 0\n", "2\n0 1\n1\n", "2\n1 0", "41\n", "\xff\xfe", "\x00", "1\r\n", strings.Repeat("|", 39), strings.Repeat("|", 40), strings.Repeat("\n", 40), strings.Repeat("\n", 41), strings.Repeat(" ", 6000), strings.Repeat(" ", 6001), "40\n" + strings.Repeat("3\n", 6), textByHand(full(40))} {
		texts = append(texts, s)
	}
	numbers, ends := []any{}, []any{}
	for _, x := range []int{minInt, minInt + 1, -2, -1, 0, 1, 2, 3, 4, 5, 6, 7, 40, 41, 6000, 6001, 999999, million, maxInt - 1, maxInt} {
		numbers = append(numbers, x)
		ends = append(ends, impl.End{Node: x, Port: 3}, impl.End{Node: 0, Port: x}, impl.End{Node: x, Port: x})
	}
	labelings := []any{}
	for _, l := range [][][]int{nil, {}, {nil}, {{}}, {{1, 2}, nil}, {nil, {3}}, {{0, 99}}, {{100}}, {{-1}}, {{minInt}, {maxInt}}, {make([]int, 6)}, {make([]int, 7)}, make([][]int, 40), make([][]int, 41), {{1}, {2}, {3}}} {
		labelings = append(labelings, l)
	}
	return map[reflect.Type][]any{
		reflect.TypeFor[impl.Network](): argumentsOfChapter1()[reflect.TypeFor[impl.Network]()],
		reflect.TypeFor[string]():       texts,
		reflect.TypeFor[int]():          numbers,
		reflect.TypeFor[impl.End]():     ends,
		reflect.TypeFor[[][]int]():      labelings,
	}
}

func TestCallsOfChapter4KeepToTheirMemory(t *testing.T) {
	choices := argumentsOfChapter4()
	everyCall(t, "PortText", impl.PortText, choices)
	everyCall(t, "ParsePort", impl.ParsePort, choices)
	everyCall(t, "NetworkText", impl.NetworkText, choices)
	everyCall(t, "ParseNetwork", impl.ParseNetwork, choices)
	everyCall(t, "FaultName", impl.FaultName, choices)
	everyCall(t, "PlaceOf", impl.PlaceOf, choices)
	everyCall(t, "TidyText", impl.TidyText, choices)
	everyCall(t, "EdgeListText", impl.EdgeListText, choices)
	everyCall(t, "ParseEdgeList", impl.ParseEdgeList, choices)
	everyCall(t, "LabelingText", impl.LabelingText, choices)
	everyCall(t, "ParseLabeling", impl.ParseLabeling, choices)
}

func TestTextsOfSampleNetworksKeepToTheirMemory(t *testing.T) {
	r := rand.New(rand.NewSource(50))
	for k, n := range sampleNetworks() {
		if k%5 > 0 {
			continue
		}
		wantCleanCall(t, "NetworkText", impl.NetworkText, []any{n})
		wantCleanCall(t, "EdgeListText", impl.EdgeListText, []any{n})
		wantCleanCall(t, "ParseNetwork", impl.ParseNetwork, []any{looseText(r, n)})
		wantCleanCall(t, "TidyText", impl.TidyText, []any{looseText(r, n)})
		wantCleanCall(t, "ParseEdgeList", impl.ParseEdgeList, []any{listByHand(len(n.Ends), edgesByHand(n))})
		labels := [][]int{}
		for _, list := range n.Ends {
			labels = append(labels, rising(len(list)))
		}
		wantCleanCall(t, "LabelingText", impl.LabelingText, []any{labels})
		text, ok := impl.LabelingText(labels)
		if !ok {
			t.Fatal("labels", labels)
		}
		wantCleanCall(t, "ParseLabeling", impl.ParseLabeling, []any{text})
	}
}
