package tests

import (
	"runtime"
	"slices"
	"sync"
	"testing"
	"time"

	"loop.example/g01084/impl"
)

func TestCallsOfChapter8KeepToTheirMemory(t *testing.T) {
	choices := argumentsOfChapter1()
	everyCall(t, "DistancesFrom", impl.DistancesFrom, choices)
	everyCall(t, "BallOf", impl.BallOf, choices)
	everyCall(t, "ShellSizes", impl.ShellSizes, choices)
	everyCall(t, "ComponentsOf", impl.ComponentsOf, choices)
	everyCall(t, "IsConnected", impl.IsConnected, choices)
	everyCall(t, "DiameterOf", impl.DiameterOf, choices)
	everyCall(t, "CentresOf", impl.CentresOf, choices)
	everyCall(t, "GirthOf", impl.GirthOf, choices)
	everyCall(t, "IsForest", impl.IsForest, choices)
	everyCall(t, "IsTree", impl.IsTree, choices)
	everyCall(t, "TwoColouring", impl.TwoColouring, choices)
	everyCall(t, "OddClosedWalk", impl.OddClosedWalk, choices)
	everyCall(t, "SpanningTree", impl.SpanningTree, choices)
	everyCall(t, "PathBetween", impl.PathBetween, choices)
	everyCall(t, "PowerOf", impl.PowerOf, choices)
}

func TestMetricOfSampleNetworksKeepsToItsMemory(t *testing.T) {
	for k, n := range metricNetworks(t) {
		if k%4 > 0 {
			continue
		}
		last := len(n.Ends) - 1
		wantCleanCall(t, "DistancesFrom", impl.DistancesFrom, []any{n, last})
		wantCleanCall(t, "BallOf", impl.BallOf, []any{n, last, 2})
		wantCleanCall(t, "ShellSizes", impl.ShellSizes, []any{n, last})
		wantCleanCall(t, "ComponentsOf", impl.ComponentsOf, []any{n})
		wantCleanCall(t, "IsConnected", impl.IsConnected, []any{n})
		wantCleanCall(t, "DiameterOf", impl.DiameterOf, []any{n})
		wantCleanCall(t, "CentresOf", impl.CentresOf, []any{n})
		wantCleanCall(t, "GirthOf", impl.GirthOf, []any{n})
		wantCleanCall(t, "IsForest", impl.IsForest, []any{n})
		wantCleanCall(t, "IsTree", impl.IsTree, []any{n})
		wantCleanCall(t, "TwoColouring", impl.TwoColouring, []any{n})
		wantCleanCall(t, "OddClosedWalk", impl.OddClosedWalk, []any{n})
		wantCleanCall(t, "SpanningTree", impl.SpanningTree, []any{n, last})
		wantCleanCall(t, "PathBetween", impl.PathBetween, []any{n, 0, last})
		wantCleanCall(t, "PathBetween", impl.PathBetween, []any{n, last, last})
		for _, k := range []int{1, 2, 40} {
			wantCleanCall(t, "PowerOf", impl.PowerOf, []any{n, k})
		}
	}
}

// TestWalksLeaveNothingBehind calls the functions whose nodes come from a channel: also where they fail, the sender has to end.
func TestWalksLeaveNothingBehind(t *testing.T) {
	networks := metricNetworks(t)
	before := runtime.NumGoroutine()
	for _, n := range networks {
		impl.OddClosedWalk(n)
		for v := range n.Ends {
			impl.PathBetween(n, 0, v)
			impl.PathBetween(n, v, len(n.Ends))
		}
	}
	// A sender that has closed its channel may still take a moment to end.
	for range 1000 {
		if runtime.NumGoroutine() <= before {
			return
		}
		time.Sleep(time.Millisecond)
	}
	t.Error("senders are left:", runtime.NumGoroutine()-before)
}

// TestWalksAtTheSameTime asks several times at once about one network.
func TestWalksAtTheSameTime(t *testing.T) {
	for k, n := range metricNetworks(t) {
		if k%20 > 0 {
			continue
		}
		last := len(n.Ends) - 1
		wantWalk, wantOdd := impl.OddClosedWalk(n)
		wantPath, wantJoined := impl.PathBetween(n, last, 0)
		var group sync.WaitGroup
		for range 8 {
			group.Go(func() {
				walk, odd := impl.OddClosedWalk(n)
				path, joined := impl.PathBetween(n, last, 0)
				if odd != wantOdd || joined != wantJoined || !slices.Equal(walk, wantWalk) || !slices.Equal(path, wantPath) {
					t.Errorf("walks %v and %v, paths %v and %v in %v", walk, wantWalk, path, wantPath, n)
				}
			})
		}
		group.Wait()
	}
}
