package tests

import (
	"fmt"
	"math/rand"
	"slices"
	"strings"
	"testing"

	"loop.example/g01084/impl"
)

func TestExampleOfChapter4(t *testing.T) {
	path := withIds(withInputs(joined([]int{1, 1}, [4]int{0, 0, 1, 0}), 0, 1), 7, 9)
	if s, ok := impl.NetworkText(path); s != "#7 1.0\n#9 /1 0.0\n" || !ok {
		t.Errorf("text %q %v", s, ok)
	}
	n, at, code := impl.ParseNetwork("#7 1.0\n#9 /1 0.0\n")
	if !same(n, path) || at != 0 || code != impl.TxOk {
		t.Error("network", n, at, code)
	}
	n, at, code = impl.ParseNetwork("1.0\n0.1\n")
	if at != 0 || code != impl.TxEnd {
		t.Error("fault", at, code)
	}
	refused(t, "a text with a fault", n)
}

func TestLimitsOfChapter4AreThoseOfTheDocument(t *testing.T) {
	codes := []int{impl.TxOk, impl.TxLong, impl.TxWord, impl.TxMany, impl.TxEnd, impl.TxId, impl.MaxText}
	if !slices.Equal(codes, []int{0, 1, 2, 3, 4, 5, 6000}) {
		t.Error(codes)
	}
}

func TestNamesOfFaults(t *testing.T) {
	for code, want := range []string{"ok", "long", "word", "many", "end", "id"} {
		if name, ok := impl.FaultName(code); name != want || !ok {
			t.Errorf("code %d: %q %v, want %q", code, name, ok, want)
		}
	}
	for _, code := range outside(0, 5) {
		name, ok := impl.FaultName(code)
		refused(t, fmt.Sprint("code ", code), name, ok)
	}
}

func TestTextsOfPorts(t *testing.T) {
	numbers := []int{0, 1, 5, 9, 10, 39, 40, 99, 100, 12345, 99999, 100000, 999998, 999999}
	for _, v := range numbers {
		for _, i := range numbers {
			e, want := impl.End{Node: v, Port: i}, fmt.Sprintf("%d.%d", v, i)
			if s, ok := impl.PortText(e); s != want || !ok {
				t.Fatalf("text of %v: %q %v", e, s, ok)
			}
			if got, ok := impl.ParsePort(want); got != e || !ok {
				t.Fatalf("end of %q: %v %v", want, got, ok)
			}
		}
		for _, x := range outside(0, 999999) {
			for _, e := range []impl.End{{Node: v, Port: x}, {Node: x, Port: v}, {Node: x, Port: x}} {
				s, ok := impl.PortText(e)
				refused(t, fmt.Sprint("text of ", e), s, ok)
			}
		}
	}
}

func TestShortTextsOfPorts(t *testing.T) {
	count := 0
	textsOver("019.-# ", 5, func(s string) {
		e, ok := impl.ParsePort(s)
		if ok != portForm.MatchString(s) {
			t.Fatalf("end of %q: %v %v", s, e, ok)
		}
		if !ok {
			refused(t, s, e, ok)
			return
		}
		count++
		if again, ok := impl.PortText(e); again != s || !ok {
			t.Fatalf("%q is written as %q %v", s, again, ok)
		}
	})
	// One digit of three, or two of which the first is not 0, or three.
	if want := 3*3 + 2*3*6 + 2*3*18 + 6*6; count != want {
		t.Errorf("%d texts of ports, want %d", count, want)
	}
}

func TestTextsAreReadBack(t *testing.T) {
	r := rand.New(rand.NewSource(4))
	samples := sampleNetworks()
	for k, n := range samples {
		plain := withIds(zeroInputs(n), n.Ids...)
		for _, m := range []impl.Network{n, plain, withIds(plain)} {
			text := textByHand(m)
			if got, ok := impl.NetworkText(m); got != text || !ok {
				t.Fatalf("text of %v: %q %v, want %q", m, got, ok, text)
			}
			for _, s := range []string{text, looseText(r, m), looseText(r, m)} {
				if found := wantFinding(t, s); !same(found.n, m) {
					t.Fatalf("network %d, %v, is read back from %q as %v", k, m, s, found)
				}
			}
		}
	}
}

// TestTextsWithoutFaults reads texts that are not written as NetworkText would write them.
func TestTextsWithoutFaults(t *testing.T) {
	cases := []struct{ text, tidy string }{
		{"\n", "\n"},
		{" ", "\n"},
		{"     ", "\n"},
		{" \n", "\n"},
		{"\n\n", "\n\n"},
		{"\n ", "\n\n"},
		{" \n \n ", "\n\n\n"},
		{"\n\n\n", "\n\n\n"},
		{"/0", "\n"},
		{"/0\n", "\n"},
		{"/9", "/9\n"},
		{" /1 ", "/1\n"},
		{"#1", "#1\n"},
		{"#999999\n", "#999999\n"},
		{"#100000", "#100000\n"},
		{"#5 /0", "#5\n"},
		{"#5   /3\n", "#5 /3\n"},
		{"0.0", "0.0\n"},
		{"   0.0   \n", "0.0\n"},
		{"0.1 0.0", "0.1 0.0\n"},
		{"/4 0.0", "/4 0.0\n"},
		{"#2 0.0", "#2 0.0\n"},
		{"#2 /0 0.0", "#2 0.0\n"},
		{"#2 /4 0.0", "#2 /4 0.0\n"},
		{"1.0\n0.0", "1.0\n0.0\n"},
		{"\n1.0\n\n", "\n1.0\n\n"},
		{"  #7   1.0  \n #9 /1    0.0", "#7 1.0\n#9 /1 0.0\n"},
		{"#2\n#1\n#3", "#2\n#1\n#3\n"},
		{"1.1 1.0\n0.1 0.0", "1.1 1.0\n0.1 0.0\n"},
		{"0.0\n1.0\n2.0\n", "0.0\n1.0\n2.0\n"},
	}
	for _, c := range cases {
		if s, ok := impl.TidyText(c.text); s != c.tidy || !ok {
			t.Errorf("%q tidied: %q %v, want %q", c.text, s, ok, c.tidy)
		}
		if s, ok := impl.TidyText(c.tidy); s != c.tidy || !ok {
			t.Errorf("%q tidied again: %q %v", c.tidy, s, ok)
		}
		if found := wantFinding(t, c.text); found.code != impl.TxOk {
			t.Errorf("%q: %v", c.text, found)
		}
	}
}

func TestTextsAtTheLimits(t *testing.T) {
	full40 := withIds(withInputs(full(40), slices.Repeat([]int{9}, 40)...))
	for v := range full40.Ends {
		full40.Ids = append(full40.Ids, 999999-v)
	}
	if s, ok := impl.NetworkText(full40); s != textByHand(full40) || !ok {
		t.Errorf("the longest text: %q %v", s, ok)
	}
	six := "#999999 /9 0.5 0.4 0.3 0.2 0.1 0.0"
	for _, text := range []string{
		textByHand(full40),
		strings.Repeat("\n", 40),
		strings.Repeat("\n", 39) + " ",
		strings.Repeat(" \n", 40),
		six,
		six + strings.Repeat(" ", 6000-len(six)),
		strings.Repeat(" ", 6000-len(six)) + six,
		strings.Repeat(" ", 6000),
		strings.Repeat(" ", 5999) + "\n",
	} {
		if found := wantFinding(t, text); found.code != impl.TxOk {
			t.Errorf("%q: %v", text, found)
		}
	}
}
