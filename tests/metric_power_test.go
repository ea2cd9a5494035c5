package tests

import (
	"fmt"
	"testing"

	"loop.example/g01084/impl"
)

func TestPowers(t *testing.T) {
	made, failed := 0, 0
	for _, n := range metricNetworks(t) {
		for k := 1; k <= 40; k++ {
			if len(n.Ends) > 7 && k > 7 && k < 38 {
				continue
			}
			want, fits := powerByHand(n, k)
			power, ok := impl.PowerOf(n, k)
			wantNetwork(t, fmt.Sprint("power ", k, " of ", n), power, ok, want, fits)
			if ok {
				made++
			} else {
				failed++
			}
		}
	}
	if made < 1000 || failed < 300 {
		t.Error("powers:", made, failed)
	}
}

// TestPowersAgreeWithDistances divides distances by k and rounds them up.
func TestPowersAgreeWithDistances(t *testing.T) {
	for _, n := range metricNetworks(t) {
		for _, k := range []int{1, 2, 3, 5, 40} {
			power, ok := impl.PowerOf(n, k)
			if !ok {
				continue
			}
			is, ok := impl.IsSimple(power)
			wantTruth(t, is, ok, true, "simple", power)
			again, ok := impl.PowerOf(power, 1)
			wantNetwork(t, "power of a simple network", again, ok, power, true)
			for v := range n.Ends {
				near, _ := impl.DistancesFrom(n, v)
				got, ok := impl.DistancesFrom(power, v)
				for w, d := range near {
					if d > 0 {
						d = (d + k - 1) / k
					}
					wantNumber(t, got[w], ok, d, "distance of", v, w, "in power", k, "of", n)
				}
			}
		}
	}
}

func TestPowersOfStandardNetworks(t *testing.T) {
	for k := 1; k <= 40; k++ {
		for nodes := 1; nodes <= 40; nodes++ {
			path, pathFits := impl.PowerOf(sure(t)(impl.PathNetwork(nodes)), k)
			cycle, cycleFits := impl.PowerOf(sure(t)(impl.CycleNetwork(nodes)), k)
			if want := k <= 3 || nodes <= 7; pathFits != want || cycleFits != want {
				t.Fatalf("power %d of a path and a cycle with %d nodes: %v, %v", k, nodes, path, cycle)
			}
			if is, _ := impl.IsRegular(cycle, min(2*k, nodes-1)); cycleFits && !is {
				t.Fatalf("power %d of a cycle with %d nodes: %v", k, nodes, cycle)
			}
		}
	}
	star, ok := impl.PowerOf(sure(t)(impl.StarNetwork(6)), 2)
	wantPorts(t, "square of a star", "1.0 2.0 3.0 4.0 5.0 6.0|0.0 2.1 3.1 4.1 5.1 6.1|0.1 1.1 3.2 4.2 5.2 6.2|0.2 1.2 2.2 4.3 5.3 6.3|0.3 1.3 2.3 3.3 5.4 6.4|0.4 1.4 2.4 3.4 4.4 6.5|0.5 1.5 2.5 3.5 4.5 5.5")(star, ok)
	cycle, ok := impl.PowerOf(sure(t)(impl.CycleNetwork(6)), 2)
	wantPorts(t, "square of a cycle", "1.0 2.0 4.0 5.0|0.0 2.1 3.0 5.1|0.1 1.1 3.1 4.1|1.2 2.2 4.2 5.2|0.2 2.3 3.2 5.3|0.3 1.3 3.3 4.3")(cycle, ok)
	tree, ok := impl.PowerOf(sure(t)(impl.RegularTree(3, 2)), 2)
	refused(t, "square of a tree", tree, ok)
}

// TestPowersLoseWhatIsNotSimple keeps identifiers and inputs, and nothing else but the nodes that are near.
func TestPowersLoseWhatIsNotSimple(t *testing.T) {
	n := withIds(joined([]int{4, 3, 1, 1}, [4]int{0, 0, 0, 1}, [4]int{0, 2, 1, 2}, [4]int{0, 3, 1, 0}, [4]int{1, 1, 2, 0}, [4]int{3, 0, 3, 0}), 7, 5, 6, 999999)
	n = withInputs(n, 9, 0, 3, 3)
	for k, ports := range map[int]string{1: "1.0|0.0 2.0|1.1|", 2: "1.0 2.0|0.0 2.1|0.1 1.1|", 40: "1.0 2.0|0.0 2.1|0.1 1.1|"} {
		power, ok := impl.PowerOf(n, k)
		if !ok || portsOf(power) != ports || !same(power.Ids, n.Ids) || !same(power.Inputs, n.Inputs) {
			t.Errorf("power %d: %v %v", k, power, ok)
		}
		power, ok = impl.PowerOf(withIds(n), k)
		if !ok || portsOf(power) != ports || len(power.Ids) > 0 {
			t.Errorf("power %d without identifiers: %v %v", k, power, ok)
		}
	}
	power, ok := impl.PowerOf(full(40), 40)
	wantNetwork(t, "stubs alone", power, ok, bare(40), true)
	// Six ports are not too many, and seven are.
	six := sure(t)(impl.PowerOf(sure(t)(impl.PathNetwork(40)), 3))
	wantNumber(t, len(six.Ends[20]), true, 6, "ports")
	power, ok = impl.PowerOf(sure(t)(impl.PathNetwork(40)), 4)
	refused(t, "eight ports", power, ok)
	path := sure(t)(impl.PathNetwork(8))
	power, ok = impl.PowerOf(path, 7)
	refused(t, "seven ports of all nodes", power, ok)
	power, ok = impl.PowerOf(path, 4)
	refused(t, "seven ports of some nodes", power, ok)
}
