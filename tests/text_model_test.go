package tests

import (
	"fmt"
	"math/rand"
	"regexp"
	"strings"
	"testing"

	"loop.example/g01084/impl"
)

// The forms of texts, as patterns.
var (
	lineForm  = regexp.MustCompile(`[^\n]*\n|[^\n]+`)
	wordForm  = regexp.MustCompile(`[^ \n]+`)
	idForm    = regexp.MustCompile(`^#[1-9][0-9]{0,5}$`)
	inputForm = regexp.MustCompile(`^/[0-9]$`)
	portForm  = regexp.MustCompile(`^(0|[1-9][0-9]{0,5})\.(0|[1-9][0-9]{0,5})$`)
	orderForm = regexp.MustCompile(`^i?x?p*$`)
)

// A finding is what reading a text makes: a network, or the first fault with its place.
type finding struct {
	n    impl.Network
	at   int
	code int
}

// A spot is a line or a word of a text: where it begins, what it is, and the words of a line.
type spot struct {
	at    int
	text  string
	words []spot
}

// spotsOf divides a text into lines and words by patterns.
func spotsOf(s string) []spot {
	lines := []spot{}
	for _, span := range lineForm.FindAllStringIndex(s, -1) {
		line := spot{at: span[0], text: s[span[0]:span[1]]}
		for _, w := range wordForm.FindAllStringIndex(line.text, -1) {
			line.words = append(line.words, spot{at: span[0] + w[0], text: line.text[w[0]:w[1]]})
		}
		lines = append(lines, line)
	}
	return lines
}

// letterOf tells by one letter which form a word has.
func letterOf(word string) string {
	switch {
	case idForm.MatchString(word):
		return "i"
	case inputForm.MatchString(word):
		return "x"
	case portForm.MatchString(word):
		return "p"
	}
	return "?"
}

// findingByHand reads a text once more: the words of a line are told by letters, and the ports of all lines are joined by their names.
func findingByHand(s string) finding {
	if len(s) > 6000 {
		return finding{code: impl.TxLong}
	}
	lines := spotsOf(s)
	for k, line := range lines {
		if k >= 40 {
			return finding{at: line.at, code: impl.TxMany}
		}
		letters := ""
		for _, w := range line.words {
			letters += letterOf(w.text)
			if !orderForm.MatchString(letters) {
				return finding{at: w.at, code: impl.TxWord}
			}
			if strings.Count(letters, "p") > 6 {
				return finding{at: w.at, code: impl.TxMany}
			}
		}
	}
	if len(lines) == 0 {
		return finding{code: impl.TxMany}
	}
	if at, ok := firstWrongEnd(lines); ok {
		return finding{at: at, code: impl.TxEnd}
	}
	if at, ok := firstWrongId(lines); ok {
		return finding{at: at, code: impl.TxId}
	}
	return finding{n: networkOfSpots(lines)}
}

// firstWrongEnd returns where a port is named that does not name the one that names it.
func firstWrongEnd(lines []spot) (int, bool) {
	names := map[string]string{}
	for k, line := range lines {
		i := 0
		for _, w := range line.words {
			if letterOf(w.text) == "p" {
				names[fmt.Sprint(k, ".", i)] = w.text
				i++
			}
		}
	}
	for k, line := range lines {
		i := 0
		for _, w := range line.words {
			if letterOf(w.text) != "p" {
				continue
			}
			if names[w.text] != fmt.Sprint(k, ".", i) {
				return w.at, true
			}
			i++
		}
	}
	return 0, false
}

func firstWrongId(lines []spot) (int, bool) {
	count, met := 0, map[string]bool{}
	for _, line := range lines {
		count += strings.Count(line.text, "#")
	}
	for _, line := range lines {
		if count == 0 {
			break
		}
		if !strings.Contains(line.text, "#") {
			return line.at, true
		}
		if met[line.words[0].text] {
			return line.words[0].at, true
		}
		met[line.words[0].text] = true
	}
	return 0, false
}

// networkOfSpots makes the network of a text without faults.
func networkOfSpots(lines []spot) impl.Network {
	n := impl.Network{}
	for _, line := range lines {
		input, ends := 0, []impl.End{}
		for _, w := range line.words {
			x, e := 0, impl.End{}
			switch letterOf(w.text) {
			case "i":
				fmt.Sscanf(w.text, "#%d", &x)
				n.Ids = append(n.Ids, x)
			case "x":
				fmt.Sscanf(w.text, "/%d", &input)
			case "p":
				fmt.Sscanf(w.text, "%d.%d", &e.Node, &e.Port)
				ends = append(ends, e)
			}
		}
		n.Ends = append(n.Ends, ends)
		n.Inputs = append(n.Inputs, input)
	}
	return n
}

// textByHand writes a network line by line.
func textByHand(n impl.Network) string {
	text := ""
	for v, list := range n.Ends {
		line := ""
		if len(n.Ids) > 0 {
			line += fmt.Sprintf(" #%d", n.Ids[v])
		}
		if n.Inputs[v] > 0 {
			line += fmt.Sprintf(" /%d", n.Inputs[v])
		}
		for _, e := range list {
			line += fmt.Sprintf(" %d.%d", e.Node, e.Port)
		}
		text += strings.TrimPrefix(line, " ") + "\n"
	}
	return text
}

// looseText writes a network with blanks anywhere, with inputs 0 and without the last line feed, as it happens.
func looseText(r *rand.Rand, n impl.Network) string {
	blanks := func(least int) string { return strings.Repeat(" ", least+r.Intn(3)) }
	lines := []string{}
	for v, text := range strings.SplitAfter(textByHand(n), "\n")[:len(n.Ends)] {
		words := strings.Fields(text)
		if n.Inputs[v] == 0 && r.Intn(2) == 0 {
			ids := min(1, len(n.Ids))
			words = append(words[:ids:ids], append([]string{"/0"}, words[ids:]...)...)
		}
		line := blanks(0)
		for _, w := range words {
			line += w + blanks(1)
		}
		if r.Intn(2) == 0 {
			line = strings.TrimSuffix(line, " ")
		}
		lines = append(lines, line)
	}
	text := strings.Join(lines, "\n")
	if lines[len(lines)-1] == "" || r.Intn(2) == 0 {
		text += "\n"
	}
	return text
}

// wantFinding reads a text in both ways and returns what is found.
func wantFinding(t *testing.T, s string) finding {
	t.Helper()
	want := findingByHand(s)
	n, at, code := impl.ParseNetwork(s)
	if got := (finding{n, at, code}); !same(got, want) {
		t.Fatalf("reading %q: got %v, want %v", s, got, want)
	}
	tidy, ok := impl.TidyText(s)
	if wantOk := want.code == impl.TxOk; ok != wantOk || tidy != textByHand(want.n) {
		t.Fatalf("%q tidied: %q %v", s, tidy, ok)
	}
	return want
}

// textsOver calls visit with each text of at most most bytes of the alphabet.
func textsOver(alphabet string, most int, visit func(s string)) {
	texts := []string{""}
	for range most + 1 {
		longer := []string{}
		for _, s := range texts {
			visit(s)
			for i := range alphabet {
				longer = append(longer, s+alphabet[i:i+1])
			}
		}
		texts = longer
	}
}

// disturbedLines changes a text of lines at one place, to one of the bytes, or some of its words or lines.
func disturbedLines(r *rand.Rand, s, bytes string) string {
	at, b := r.Intn(len(s)), r.Intn(len(bytes))
	switch r.Intn(6) {
	case 0:
		return shuffled(r, s, "\n")
	case 1:
		return shuffled(r, s, " ")
	case 2:
		return s[:at] + s[at+1:]
	case 3:
		return s[:at] + bytes[b:b+1] + s[at:]
	case 4:
		lines := strings.SplitAfter(s, "\n")
		r.Shuffle(len(lines)-1, func(i, j int) { lines[i], lines[j] = lines[j], lines[i] })
		return strings.Join(lines, "")
	}
	return s[:at] + bytes[b:b+1] + s[at+1:]
}
