package tests

import (
	"fmt"
	"math/rand"
	"strings"
	"testing"

	"loop.example/g01084/impl"
)

// wantForm reads a text in both ways, with all cuts and parts, and reports whether it is a view text.
func wantForm(t *testing.T, s string) bool {
	t.Helper()
	w, is := treeOfText(s)
	if got := impl.IsView(s); got != is {
		t.Fatalf("%.80q: view %v, want %v", s, got, is)
	}
	if !is {
		wantNoView(t, s)
		return false
	}
	least, _ := w.depths()
	depth, ok := impl.DepthOfView(s)
	wantNumber(t, depth, ok, least, "depth of", s)
	for _, shorter := range []int{0, 1, 2, 3, least - 2, least - 1, least, least + 1, 79, 80} {
		if shorter < 0 || shorter > 80 {
			continue
		}
		if cut, ok := impl.CutView(s, shorter); cut != w.cut(shorter).text() || !ok {
			t.Fatalf("%q cut to %d: %q %v, want %q", s, shorter, cut, ok, w.cut(shorter).text())
		}
	}
	for _, x := range outside(0, 80) {
		cut, ok := impl.CutView(s, x)
		refused(t, fmt.Sprint(s, " cut to ", x), cut, ok)
	}
	for i, part := range w.parts {
		if child, port, ok := impl.ChildView(s, i); child != part.text() || port != w.ports[i] || !ok {
			t.Fatalf("part %d of %q: %q %d %v, want %q %d", i, s, child, port, ok, part.text(), w.ports[i])
		}
	}
	for _, x := range outside(0, len(w.parts)-1) {
		child, port, ok := impl.ChildView(s, x)
		refused(t, fmt.Sprint("part ", x, " of ", s), child, port, ok)
	}
	return true
}

func wantNoView(t *testing.T, s string) {
	t.Helper()
	what := fmt.Sprintf("no view: %.80q", s)
	if impl.IsView(s) {
		t.Errorf("%s: taken for one", what)
	}
	depth, ok := impl.DepthOfView(s)
	refused(t, what, depth, ok)
	for _, x := range []int{minInt, -1, 0, 1, 80, 81, maxInt} {
		cut, ok := impl.CutView(s, x)
		refused(t, what, cut, ok)
		child, port, ok := impl.ChildView(s, x)
		refused(t, what, child, port, ok)
	}
}

func TestViewTextsWithoutNetworks(t *testing.T) {
	for _, s := range []string{
		"0.0", "0.9", "1.0", "6.9",
		"1.0(0:1.0)", "1.0(5:6.0)", "1.0(4:6.9)",
		// Nothing is said of the port at the other side.
		"2.0(0:1.0,0:1.0)", "2.3(1:2.4,1:2.5)",
		"1.0(0:2.0(0:1.0,0:1.0))",
		"1.7(1:2.0(5:6.0,0:1.9))",
		"6.0(0:1.0,1:2.0,2:3.0,3:4.0,4:5.0,5:6.0)",
		chain(2), chain(3), chain(79), chain(80),
	} {
		if !wantForm(t, s) {
			t.Errorf("%q is a view text", s)
		}
	}
}

func TestTextsThatAreAlmostThoseOfAView(t *testing.T) {
	texts := []string{
		// Parts too many or too few.
		"1.0(0:1.0,0:1.0)", "2.0(0:1.0)", "2.0(0:1.0,0:1.0,0:1.0)", "3.0(0:1.0,0:1.0)", "0.0(0:1.0)", "0.0()", "1.0()", "2.0(,)", "1.0(0:2.0(0:1.0))", "2.0(0:1.0,)", "2.0(,0:1.0)", "2.0(0:1.0,,0:1.0)", "1.0(0:1.0,)", "1.0(,0:1.0)", "6.0(0:1.0,0:1.0,0:1.0,0:1.0,0:1.0)", "6.0(0:1.0,0:1.0,0:1.0,0:1.0,0:1.0,0:1.0,0:1.0)", "7.0(0:1.0,0:1.0,0:1.0,0:1.0,0:1.0,0:1.0,0:1.0)",
		// Ports out of range.
		"1.0(1:1.0)", "1.0(0:0.0)", "1.0(2:2.0)", "1.0(6:6.0)", "1.0(9:6.0)", "1.0(5:5.0)", "2.0(0:1.0,1:1.0)", "2.0(1:1.0,0:1.0)", "1.0(1:2.0(0:1.0,2:2.0))", "1.0(1:1.0(0:1.0))", "1.0(6:7.0)",
		// Numbers that are no digits, or too great.
		"7.0", "8.0", "9.9", "10.0", "00.0", "01.0", "1.10", "1.00", "-1.0", "+1.0", "1.-1", "x.0", "0.x", "a.0", ".0", "0.", ".", "1", "1.0(00:1.0)", "1.0(x:1.0)", "1.0(-1:1.0)", "1.0(:1.0)", "1.0(0:7.0)", "1.0(0:.0)", "1.0(0:1.)", "1.0(0:1.x)", "/.0", ":.0", "0./", "0.:", "1.0(/:1.0)", "1.0(::1.0)", "1.0(0)", "1.0(5)", "1.0(x)", "1.0(00)", "1.0(0:)", "2.0(0,0)", "2.0(0:,0:)", "2.0(0:1.0,0)", "2.0(0,0:1.0)", "\uff11.0", "0.\u0660",
		// Marks and brackets that are missing or too many.
		"", " ", "0", "00", "0,0", "0:0", "1.0(", "1.0)", "1.0(0:1.0", "1.0(0:1.0))", "1.0((0:1.0))", "1.0((0:1.0)", "(1.0)", "1.0(0:1.0)(0:1.0)", "1.0(0.1.0)", "1.0(0:1:0)", "1.0(0:1,0)", "1.00:1.0)", "1.0(01.0)", "1.0(0:10)", "1.0(1.0)", "1.0(0:(1.0))", "2.0(0:1.0;0:1.0)", "2.0(0:1.00:1.0)", "2.0(0:1.0)0:1.0)", "1.0(0:1.0),", "1.0,", "1.0.", "1.0:", "0:1.0", "1.0[0:1.0]", "1.0(0:1.0}", "1.0(0:1.0(0:1.0)", chain(3) + ")", "(" + chain(3), "2.0(0:1.0,0:1.0", "2.0(0:1.0(0:1.0),0:1.0(0:1.0)",
		// Other bytes before, behind and in between.
		" 1.0", "1.0 ", "1.0\n", "\n1.0", "1. 0", "1.0 (0:1.0)", "1.0( 0:1.0)", "1.0(0: 1.0)", "1.0(0:1.0 )", "2.0(0:1.0, 0:1.0)", "1.0\x00", "\x001.0", "\xff", "1.0\xff", "1.0(0:1.0\x00)", "\ufeff1.0",
		// Parts of unequal depth.
		"2.0(0:1.0,0:1.0(0:1.0))", "2.0(0:1.0(0:1.0),0:1.0)", "2.0(0:1.0(0:1.0),0:1.0(0:1.0(0:1.0)))", "1.0(0:2.0(0:1.0,0:1.0(0:1.0)))", "3.0(0:1.0,0:1.0,0:1.0(0:1.0))", "3.0(0:1.0,0:1.0(0:1.0),0:1.0)", "3.0(0:1.0(0:1.0),0:1.0,0:1.0)", "2.0(0:1.0(0:1.0),0:1.0(0:0.0))", "2.0(1:2.0(0:1.0,0:1.0),1:2.0)",
		// A depth that is too great.
		chain(81), chain(82), chain(200), chain(571), "2.0(0:" + chain(80) + ",0:" + chain(80) + ")",
	}
	for _, s := range texts {
		wantNoView(t, s)
		if wantForm(t, s) {
			t.Errorf("%q is no view text", s)
		}
	}
}

func TestTextsMuchLongerThanThoseOfAView(t *testing.T) {
	for _, s := range []string{chain(572), strings.Repeat("1.0(0:", 1000000), strings.Repeat("(", 1000000), strings.Repeat("1", 1000000), "1.0" + strings.Repeat(")", 1000000), "1.0" + strings.Repeat(" ", 3998), chain(100000)} {
		wantNoView(t, s)
	}
}

// TestShortTextsOfViews takes all texts of a few tokens, of which some are views of depth 1 and 2.
func TestShortTextsOfViews(t *testing.T) {
	count := tokenTexts(t, []string{"1.0", "2.0", "0.0", "(0:", "(1:", ",0:", ",1:", ")"}, 6)
	// Depth 0; one part of degree 1 or 2; two parts, each of three kinds.
	if want := 3 + 3 + 3*3; count != want {
		t.Errorf("%d views, want %d", count, want)
	}
	count = tokenTexts(t, []string{"1.0", "2.0", "(0:", ",0:", ")"}, 8)
	// Depth 0; depth 1 with one part and with two; depth 2 with one part, that has one part, and none with more tokens.
	if want := 2 + 2 + 2*2 + 2; count != want {
		t.Errorf("%d views, want %d", count, want)
	}
}

// tokenTexts reads all texts of at most most tokens and returns how many of them are views.
func tokenTexts(t *testing.T, tokens []string, most int) int {
	count := 0
	var visit func(s string, left int)
	visit = func(s string, left int) {
		if _, is := treeOfText(s); is != impl.IsView(s) {
			t.Fatalf("%q: view %v, want %v", s, !is, is)
		} else if is {
			wantForm(t, s)
			count++
		}
		for _, token := range tokens {
			if left > 0 {
				visit(s+token, left-1)
			}
		}
	}
	visit("", most)
	return count
}

func TestViewsAreReadBack(t *testing.T) {
	r := rand.New(rand.NewSource(52))
	for k := range 600 {
		w := randomTree(r, k%6, 1+k%3)
		if s := w.text(); wantForm(t, s) != (len(s) <= 4000) {
			t.Fatalf("%q is a view text", s)
		}
	}
	for range 300 {
		w := randomTree(r, 1, 6)
		if !wantForm(t, w.text()) {
			t.Fatalf("%q is a view text", w.text())
		}
	}
}

// TestChangedTextsOfViews changes each byte of a text in turn.
func TestChangedTextsOfViews(t *testing.T) {
	r := rand.New(rand.NewSource(53))
	views := 0
	for _, s := range []string{"0.0", "1.0(0:1.0)", "2.0(1:2.0,0:2.0)", "2.2(0:2.2(0:2.2,0:1.1),0:1.1(1:2.2))", "3.0(0:1.0,2:3.0,5:6.0)", "1.9(5:6.0(0:1.0,0:1.1,0:1.2,0:1.3,0:1.4,0:1.5))", chain(4), randomTree(r, 3, 2).text()} {
		for at := range len(s) + 1 {
			end := min(at+1, len(s))
			changes := []string{s[:at] + s[end:], s[:at] + s[at:end] + s[at:], s[:at], s[at:]}
			for _, b := range "0123456789.:,()[]- /\x00\n" {
				changes = append(changes, s[:at]+string(b)+s[end:], s[:at]+string(b)+s[at:])
			}
			if at+1 < len(s) {
				changes = append(changes, s[:at]+s[at+1:at+2]+s[at:at+1]+s[at+2:])
			}
			for _, changed := range changes {
				if wantForm(t, changed) {
					views++
				}
			}
		}
	}
	if views < 500 {
		t.Error("few views", views)
	}
}

// TestDisturbedTextsOfViews changes some bytes or brackets by chance.
func TestDisturbedTextsOfViews(t *testing.T) {
	r := rand.New(rand.NewSource(54))
	views, others := 0, 0
	for k := range 6000 {
		s := randomTree(r, 1+k%4, 2).text()
		for range 1 + r.Intn(2) {
			s = changedView(r, s)
		}
		if wantForm(t, s) {
			views++
		} else {
			others++
		}
	}
	if views < 500 || others < 500 {
		t.Error("views", views, "others", others)
	}
}

// changedView changes a byte, or doubles or removes what stands between two marks.
func changedView(r *rand.Rand, s string) string {
	at := r.Intn(len(s) + 1)
	end := min(at+1, len(s))
	bytes := "0123456.:,()"
	b := r.Intn(len(bytes))
	switch r.Intn(5) {
	case 0:
		return s[:at] + bytes[b:b+1] + s[end:]
	case 1:
		return s[:at] + bytes[b%7:b%7+1] + s[end:]
	case 2:
		return shuffled(r, s, ",")
	case 3:
		return shuffled(r, s, ")")
	}
	return shuffled(r, s, "(")
}

func TestAnyBytesAreNoView(t *testing.T) {
	r := rand.New(rand.NewSource(55))
	for range 5000 {
		s := make([]byte, r.Intn(30))
		for i := range s {
			s[i] = byte(r.Intn(256))
		}
		wantForm(t, string(s))
	}
	for b := range 256 {
		x := string([]byte{byte(b)})
		for _, s := range []string{x, x + ".0", "0" + x + "0", "0." + x, "1.0" + x + "0:1.0)", "1.0(" + x + ":1.0)", "1.0(0" + x + "1.0)", "1.0(0:" + x + ".0)", "1.0(0:1" + x + "0)", "1.0(0:1." + x + ")", "1.0(0:1.0" + x, "2.0(0:1.0" + x + "0:1.0)"} {
			wantForm(t, s)
		}
	}
}

// longView returns a view of a depth whose text has that many bytes. Branches are added by chance, until they fit.
func longView(r *rand.Rand, depth, bytes int) string {
	for {
		w := treeOfChain(depth)
		left := bytes - len(w.text())
		for left > 0 {
			branch := r.Intn(depth)
			if left < 40 || r.Intn(4) > 0 {
				branch = 0
			}
			if cost := 6 + 7*branch; cost <= left && w.grow(r, depth-1-branch) {
				left -= cost
			} else if left < 6 || r.Intn(1000) == 0 {
				break
			}
		}
		if left == 0 {
			return w.text()
		}
	}
}

func treeOfChain(depth int) viewTree {
	w, _, _ := takeTree(chain(depth))
	return w
}

// grow adds a part to a view that is so many steps away. It fails if that one has six already.
func (w *viewTree) grow(r *rand.Rand, steps int) bool {
	if steps > 0 {
		return w.parts[r.Intn(len(w.parts))].grow(r, steps-1)
	}
	if w.degree == 6 {
		return false
	}
	depth, _ := w.depths()
	w.degree++
	w.ports, w.parts = append(w.ports, 0), append(w.parts, treeOfChain(depth-1))
	return true
}

func TestLongTextsOfViews(t *testing.T) {
	r := rand.New(rand.NewSource(56))
	for _, depth := range []int{4, 5, 9, 30, 80} {
		for bytes := 3996; bytes <= 4004; bytes++ {
			s := longView(r, depth, bytes)
			if len(s) != bytes {
				t.Fatalf("%d bytes, want %d", len(s), bytes)
			}
			if is := wantForm(t, s); is != (bytes <= 4000) {
				t.Errorf("depth %d, %d bytes: view %v", depth, bytes, is)
			}
		}
	}
	for _, bytes := range []int{3996, 4000} {
		s := longView(r, 81, bytes)
		wantNoView(t, s)
	}
}
