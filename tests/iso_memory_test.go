package tests

import (
	"reflect"
	"testing"

	"loop.example/g01084/impl"
)

func TestCallsOfChapter6KeepToTheirMemory(t *testing.T) {
	choices := argumentsOfChapter1()
	everyCall(t, "CodeFrom", impl.CodeFrom, choices)
	everyCall(t, "IsomorphismOf", impl.IsomorphismOf, choices)
	everyCall(t, "SameNetworks", impl.SameNetworks, choices)
	everyCall(t, "CanonicalOrder", impl.CanonicalOrder, choices)
	everyCall(t, "CanonicalNetwork", impl.CanonicalNetwork, choices)
	everyCall(t, "CanonicalComponents", impl.CanonicalComponents, choices)
	everyCall(t, "OrbitsOf", impl.OrbitsOf, choices)
	everyCall(t, "FixedNodes", impl.FixedNodes, choices)
	everyCall(t, "AutomorphismCount", impl.AutomorphismCount, choices)
}

func TestComparisonsOfNetworksKeepToTheirMemory(t *testing.T) {
	networks := []any{}
	for _, n := range []impl.Network{{}, bare(1), zeroInputs(bare(3)), pair(), withIds(pair(), 8, 9), withEnd(1, 0), line(5, 2)} {
		networks = append(networks, n)
	}
	choices := argumentsOfChapter1()
	choices[reflect.TypeFor[impl.Network]()] = networks
	everyCall(t, "IsIsomorphism", impl.IsIsomorphism, choices)
	everyCall(t, "ImagesOf", impl.ImagesOf, choices)
	choices[reflect.TypeFor[int]()] = []any{minInt, -1, 0, 1, 2, 40, maxInt}
	everyCall(t, "SameRoots", impl.SameRoots, choices)
}

func TestIsomorphismsOfSampleNetworksKeepToTheirMemory(t *testing.T) {
	for k, n := range isoNetworks(t) {
		if k%4 > 0 {
			continue
		}
		last := len(n.Ends) - 1
		wantCleanCall(t, "CodeFrom", impl.CodeFrom, []any{n, last})
		wantCleanCall(t, "SameRoots", impl.SameRoots, []any{n, 0, n, last})
		wantCleanCall(t, "IsIsomorphism", impl.IsIsomorphism, []any{n, n, rising(last + 1)})
		wantCleanCall(t, "IsomorphismOf", impl.IsomorphismOf, []any{n, n})
		wantCleanCall(t, "SameNetworks", impl.SameNetworks, []any{n, n})
		wantCleanCall(t, "ImagesOf", impl.ImagesOf, []any{n, last, n})
		wantCleanCall(t, "CanonicalOrder", impl.CanonicalOrder, []any{n})
		wantCleanCall(t, "CanonicalNetwork", impl.CanonicalNetwork, []any{n})
		wantCleanCall(t, "CanonicalComponents", impl.CanonicalComponents, []any{n})
		wantCleanCall(t, "OrbitsOf", impl.OrbitsOf, []any{n})
		wantCleanCall(t, "FixedNodes", impl.FixedNodes, []any{n})
		wantCleanCall(t, "AutomorphismCount", impl.AutomorphismCount, []any{n})
	}
}
