package tests

import (
	"reflect"
	"testing"

	"loop.example/g01084/impl"
)

// argumentsOfChapter1 returns networks, broken ones too, numbers and lists that suit some of them.
func argumentsOfChapter1() map[reflect.Type][]any {
	networks := []any{pair(), withIds(pair(), 8, 9), withIds(bare(3), 1, 2, 3), full(1), full(3)}
	networks = append(networks, withIds(joined([]int{3, 3}, [4]int{0, 0, 1, 0}, [4]int{0, 1, 1, 2}, [4]int{0, 2, 0, 2}, [4]int{1, 1, 1, 1}), 21, 20))
	networks = append(networks, joined([]int{4}, [4]int{0, 0, 0, 3}, [4]int{0, 1, 0, 2}))
	networks = append(networks, joined([]int{2, 2, 2}, [4]int{0, 0, 1, 1}, [4]int{1, 0, 2, 1}, [4]int{2, 0, 0, 1}))
	for _, c := range append(networksAtTheLimits(), brokenNetworks()...) {
		if len(c.n.Ends) <= 41 {
			networks = append(networks, c.n)
		}
	}
	numbers := []any{}
	for _, x := range []int{minInt, -1, 0, 1, 2, 3, 6, 39, 40, maxInt} {
		numbers = append(numbers, x)
	}
	lists := []any{}
	for _, l := range [][]int{nil, {}, {0}, {1}, {9}, {-1}, {0, 1}, {1, 0}, {0, 0}, {minInt, maxInt}, {999999, 1}, {0, 1, 2}, {2, 0, 1}, {0, 2, 1}, {7, 8, 9}, {3, 1, 0, 2}, rotation(6), rotation(40), idsUpTo(40), make([]int, 40), make([]int, 41), make([]int, 500)} {
		lists = append(lists, l)
	}
	return map[reflect.Type][]any{
		reflect.TypeFor[impl.Network](): networks,
		reflect.TypeFor[int]():          numbers,
		reflect.TypeFor[[]int]():        lists,
	}
}

func TestCallsOfChapter1KeepToTheirMemory(t *testing.T) {
	choices := argumentsOfChapter1()
	everyCall(t, "IsNetwork", impl.IsNetwork, choices)
	everyCall(t, "IsSimple", impl.IsSimple, choices)
	everyCall(t, "IsRegular", impl.IsRegular, choices)
	everyCall(t, "DegreesOf", impl.DegreesOf, choices)
	everyCall(t, "OtherEnd", impl.OtherEnd, choices)
	everyCall(t, "NeighboursOf", impl.NeighboursOf, choices)
	everyCall(t, "EdgesOf", impl.EdgesOf, choices)
	everyCall(t, "UnionOf", impl.UnionOf, choices)
	everyCall(t, "AddEdge", impl.AddEdge, choices)
	everyCall(t, "AddStub", impl.AddStub, choices)
	everyCall(t, "RemoveEdge", impl.RemoveEdge, choices)
	everyCall(t, "PermutePorts", impl.PermutePorts, choices)
	everyCall(t, "RenumberNodes", impl.RenumberNodes, choices)
	everyCall(t, "KeepNodes", impl.KeepNodes, choices)
	everyCall(t, "WithIds", impl.WithIds, choices)
	everyCall(t, "WithInputs", impl.WithInputs, choices)
}

// TestSampleNetworksKeepToTheirMemory makes the changes that leave a network as it is, which are the ones that tempt to return the argument itself.
func TestSampleNetworksKeepToTheirMemory(t *testing.T) {
	for k, n := range sampleNetworks() {
		if k%9 > 0 {
			continue
		}
		all := []int{}
		for v := range n.Ends {
			all = append(all, v)
		}
		ports := []int{}
		for i := range n.Ends[0] {
			ports = append(ports, i)
		}
		wantCleanCall(t, "EdgesOf", impl.EdgesOf, []any{n})
		wantCleanCall(t, "KeepNodes", impl.KeepNodes, []any{n, all})
		wantCleanCall(t, "RenumberNodes", impl.RenumberNodes, []any{n, all})
		wantCleanCall(t, "PermutePorts", impl.PermutePorts, []any{n, 0, ports})
		wantCleanCall(t, "WithIds", impl.WithIds, []any{n, n.Ids})
		wantCleanCall(t, "WithInputs", impl.WithInputs, []any{n, n.Inputs})
		wantCleanCall(t, "UnionOf", impl.UnionOf, []any{n, bare(1)})
		wantCleanCall(t, "UnionOf", impl.UnionOf, []any{bare(1), n})
		wantCleanCall(t, "AddEdge", impl.AddEdge, []any{n, 0, len(n.Ends) - 1})
		wantCleanCall(t, "RemoveEdge", impl.RemoveEdge, []any{n, 0, 0})
	}
}
