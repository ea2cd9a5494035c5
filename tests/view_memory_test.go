package tests

import (
	"reflect"
	"strings"
	"testing"
	"unsafe"

	"loop.example/g01084/impl"
)

// argumentsOfChapter5 returns texts that are views, or almost, and depths around the limits, with the networks of chapter 1.
func argumentsOfChapter5() map[reflect.Type][]any {
	texts := []any{}
	for _, s := range []string{"", "0.0", "0.9", "6.0", "7.0", "0.0()", "1.0(0:1.0)", "1.0(0:1.0", "1.0(1:1.0)", "1.0(0:0.0)", "2.0(1:2.0,0:2.0)", "2.0(1:2.0)", "2.2(0:2.2(0:2.2,0:1.1),0:1.1(1:2.2))", "2.0(0:1.0,0:1.0(0:1.0))", chain(79), chain(80), chain(81), strings.Repeat("1.0(0:", 700), strings.Repeat("(", 5000), "\xff\xfe", "\x00", "x", "1.0(0:1.0)\n"} {
		texts = append(texts, s)
	}
	numbers := []any{}
	for _, x := range []int{minInt, minInt + 1, -1, 0, 1, 2, 3, 5, 6, 19, 20, 39, 40, 79, 80, 81, 4000, maxInt - 1, maxInt} {
		numbers = append(numbers, x)
	}
	return map[reflect.Type][]any{
		reflect.TypeFor[impl.Network](): argumentsOfChapter1()[reflect.TypeFor[impl.Network]()],
		reflect.TypeFor[string]():       texts,
		reflect.TypeFor[int]():          numbers,
	}
}

func TestCallsOfChapter5KeepToTheirMemory(t *testing.T) {
	choices := argumentsOfChapter5()
	everyCall(t, "ViewClasses", impl.ViewClasses, choices)
	everyCall(t, "StableDepth", impl.StableDepth, choices)
	everyCall(t, "TwinClasses", impl.TwinClasses, choices)
	everyCall(t, "IsSymmetric", impl.IsSymmetric, choices)
	everyCall(t, "IsView", impl.IsView, choices)
	everyCall(t, "DepthOfView", impl.DepthOfView, choices)
	everyCall(t, "CutView", impl.CutView, choices)
	everyCall(t, "ChildView", impl.ChildView, choices)
	choices[reflect.TypeFor[int]()] = []any{minInt, -1, 0, 1, 2, 39, 40, 80, 81, maxInt}
	everyCall(t, "ViewSize", impl.ViewSize, choices)
	everyCall(t, "ViewText", impl.ViewText, choices)
	everyCall(t, "UnfoldNetwork", impl.UnfoldNetwork, choices)
}

func TestComparisonsOfViewsKeepToTheirMemory(t *testing.T) {
	networks := []any{}
	for _, n := range []impl.Network{{}, bare(1), withIds(pair(), 8, 9), withEnd(1, 0), line(5, 2)} {
		networks = append(networks, n)
	}
	choices := map[reflect.Type][]any{
		reflect.TypeFor[impl.Network](): networks,
		reflect.TypeFor[int]():          {minInt, -1, 0, 1, 80, maxInt},
	}
	everyCall(t, "SameView", impl.SameView, choices)
	everyCall(t, "AreTwins", impl.AreTwins, choices)
	everyCall(t, "SeparatingDepth", impl.SeparatingDepth, choices)
}

func TestViewsOfSampleNetworksKeepToTheirMemory(t *testing.T) {
	for k, n := range viewNetworks(t) {
		if k%9 > 0 {
			continue
		}
		last := len(n.Ends) - 1
		wantCleanCall(t, "ViewClasses", impl.ViewClasses, []any{n, 1})
		wantCleanCall(t, "TwinClasses", impl.TwinClasses, []any{n})
		wantCleanCall(t, "SameView", impl.SameView, []any{n, 0, n, last, 2})
		wantCleanCall(t, "AreTwins", impl.AreTwins, []any{n, last, n, 0})
		wantCleanCall(t, "SeparatingDepth", impl.SeparatingDepth, []any{n, last, n, 0})
		for _, depth := range []int{0, 1, 2, 3} {
			wantCleanCall(t, "ViewSize", impl.ViewSize, []any{n, last, depth})
			wantCleanCall(t, "ViewText", impl.ViewText, []any{n, last, depth})
			wantCleanCall(t, "UnfoldNetwork", impl.UnfoldNetwork, []any{n, last, depth})
		}
	}
}

// placeOf returns the memory of the bytes of a string.
func placeOf(s string) stretch {
	first := uintptr(unsafe.Pointer(unsafe.StringData(s)))
	return stretch{first, first + uintptr(len(s))}
}

// TestPartsOfAViewAreNewMemory looks at the bytes of strings, which no other test can tell apart.
func TestPartsOfAViewAreNewMemory(t *testing.T) {
	for _, s := range []string{"1.0(0:1.0)", "2.2(0:2.2(0:2.2,0:1.1),0:1.1(1:2.2))", chain(80)} {
		for depth := range 3 {
			if cut, ok := impl.CutView(s, depth); !ok || meet(placeOf(cut), placeOf(s)) {
				t.Errorf("%q cut to %d shares memory with it: %v", s, depth, ok)
			}
		}
		if cut, ok := impl.CutView(s, 80); !ok || meet(placeOf(cut), placeOf(s)) {
			t.Errorf("%q that is not cut shares memory with itself: %v", s, ok)
		}
		if child, _, ok := impl.ChildView(s, 0); !ok || meet(placeOf(child), placeOf(s)) {
			t.Errorf("a part of %q shares memory with it: %v", s, ok)
		}
	}
}
