package tests

import (
	"math/rand"
	"slices"
	"strings"
	"testing"

	"loop.example/g01084/impl"
)

// wantFault fails the test unless reading the text finds this fault.
func wantFault(t *testing.T, s string, code, at int) {
	t.Helper()
	n, gotAt, gotCode := impl.ParseNetwork(s)
	if gotAt != at || gotCode != code || !same(n, impl.Network{}) {
		t.Errorf("reading %q: got fault %d at %d with %v, want %d at %d", s, gotCode, gotAt, n, code, at)
	}
	tidy, ok := impl.TidyText(s)
	refused(t, "a text with a fault", tidy, ok)
	wantFinding(t, s)
}

func TestWordsThatAreNone(t *testing.T) {
	words := []string{"x", "#", "/", ".", "-", "0", "1", "17", "##1", "#/1", "/#1", "//1", "#1.0", "/1.0", "#x", "/x", "#1x", "/1x", "#x1"}
	words = append(words, "#0", "#00", "#01", "#007", "#0000001", "#1000000", "#9999999", "#10000000", "#-1", "#+1", "#1_0", "#0x1", "#99999999999999999999")
	words = append(words, "/10", "/00", "/01", "/09", "/-1", "/+1", "/-0", "/999999", "/0000000", "/1000000", "/9223372036854775808")
	words = append(words, "0.", ".0", "0..0", "0.0.0", "0.0.", ".0.0", "00.0", "0.00", "01.0", "0.01", "000000.0", "0.000000", "-0.0", "0.-0", "-1.0", "0.-1", "+0.0", "0.+0")
	words = append(words, "1000000.0", "0.1000000", "0000000.0", "0.0000000", "9999999.0", "0.9999999", "18446744073709551616.0", "0.18446744073709551616")
	words = append(words, "0,0", "0:0", "0.0x", "x0.0", "0x0.0", "1e1.0", "1_0.0", "0.0#", "0.0/", "#0.0", "/0.0", "0.#0", "0./0")
	words = append(words, "0.0\t", "\t0.0", "0.0\t0.0", "0.0\r", "\r", "\t", "\v", "\f", "\x00", "0.0\x00", "\x00#1", "\xff", "0.0\xff", "#1\x80", "\u00a0", "0.0\u00a0", "\u0660.\u0660", "\uff10.\uff10", "\ufeff0.0", "\u2028")
	for _, w := range words {
		wantFault(t, w, impl.TxWord, 0)
		wantFault(t, w+"\n", impl.TxWord, 0)
		wantFault(t, "  "+w+" ", impl.TxWord, 2)
		wantFault(t, "\n"+w, impl.TxWord, 1)
		wantFault(t, "0.0 "+w+" 0.1", impl.TxWord, 4)
		wantFault(t, "#1 /2 "+w, impl.TxWord, 6)
		wantFault(t, "#1\n/0   0.0  "+w+" x\n", impl.TxWord, 13)
		e, ok := impl.ParsePort(w)
		refused(t, w, e, ok)
	}
}

func TestWordsInWrongPlaces(t *testing.T) {
	wantFault(t, "#1 #2", impl.TxWord, 3)
	wantFault(t, "#1 #1", impl.TxWord, 3)
	wantFault(t, "/1 #2", impl.TxWord, 3)
	wantFault(t, "/1 /2", impl.TxWord, 3)
	wantFault(t, "/0 /0", impl.TxWord, 3)
	wantFault(t, "/0 #1", impl.TxWord, 3)
	wantFault(t, "#1 /2 /3", impl.TxWord, 6)
	wantFault(t, "#1 /0 /3", impl.TxWord, 6)
	wantFault(t, "#1 /2 #3", impl.TxWord, 6)
	wantFault(t, "0.0 /1", impl.TxWord, 4)
	wantFault(t, "0.0 #1", impl.TxWord, 4)
	wantFault(t, "0.0 #1 /1", impl.TxWord, 4)
	wantFault(t, "#1 0.0 /1", impl.TxWord, 7)
	wantFault(t, "#1 0.0   #1", impl.TxWord, 9)
	wantFault(t, "/1 0.0 /1", impl.TxWord, 7)
	wantFault(t, "0 .0", impl.TxWord, 0)
	wantFault(t, "0. 0", impl.TxWord, 0)
	wantFault(t, "# 1", impl.TxWord, 0)
	wantFault(t, "/ 1", impl.TxWord, 0)
	wantFault(t, "\n\n  /1 x", impl.TxWord, 7)
	wantFault(t, "0.0\r\n1.0\r\n", impl.TxWord, 0)
}

func TestLinesAndPortsBeyondTheLimits(t *testing.T) {
	lines := func(count int) string { return strings.Repeat("\n", count) }
	wantFault(t, "", impl.TxMany, 0)
	wantFault(t, lines(41), impl.TxMany, 40)
	wantFault(t, lines(42), impl.TxMany, 40)
	wantFault(t, lines(6000), impl.TxMany, 40)
	wantFault(t, lines(40)+" ", impl.TxMany, 40)
	wantFault(t, lines(40)+"x", impl.TxMany, 40)
	wantFault(t, lines(40)+"  0.0 ", impl.TxMany, 40)
	wantFault(t, strings.Repeat(" #1 \n", 41), impl.TxMany, 200)
	wantFault(t, textByHand(full(40))+"\n", impl.TxMany, len(textByHand(full(40))))
	six := "0.0 0.1 0.2 0.3 0.4 0.5"
	wantFault(t, six+" 0.6", impl.TxMany, 24)
	wantFault(t, six+"   0.6  ", impl.TxMany, 26)
	wantFault(t, six+" 0.6 0.7 0.8", impl.TxMany, 24)
	wantFault(t, six+" 9.9", impl.TxMany, 24)
	wantFault(t, "/1 "+six+" 0.6", impl.TxMany, 27)
	wantFault(t, "#1 "+six+" 0.6", impl.TxMany, 27)
	wantFault(t, "#1 /1 "+six+" 0.6", impl.TxMany, 30)
	wantFault(t, "\n  "+six+" 0.6", impl.TxMany, 27)
	for _, s := range []string{six, "#1 /1 " + six, "/1 " + six} {
		if found := wantFinding(t, s); found.code != impl.TxOk {
			t.Errorf("six ports %q: %v", s, found)
		}
	}
}

func TestLongTexts(t *testing.T) {
	for _, s := range []string{" ", "x", "\n", "0.0 ", "#1", "\xff", "\x00", "1"} {
		wantFault(t, strings.Repeat(s, 6001/len(s)+1), impl.TxLong, 0)
		wantFault(t, strings.Repeat(s, 1000000), impl.TxLong, 0)
	}
	wantFault(t, "0.0\n"+strings.Repeat(" ", 5997), impl.TxLong, 0)
	wantFault(t, strings.Repeat(" ", 6001), impl.TxLong, 0)
	wantFault(t, strings.Repeat("x", 6000), impl.TxWord, 0)
	wantFault(t, strings.Repeat(" ", 5999)+"x", impl.TxWord, 5999)
	wantFault(t, strings.Repeat(" ", 5997)+"0.1", impl.TxEnd, 5997)
}

func TestPortsThatDoNotNameEachOther(t *testing.T) {
	wantFault(t, "1.0", impl.TxEnd, 0)
	wantFault(t, "0.1", impl.TxEnd, 0)
	wantFault(t, "0.6", impl.TxEnd, 0)
	wantFault(t, "999999.999999", impl.TxEnd, 0)
	wantFault(t, "0.999999", impl.TxEnd, 0)
	wantFault(t, "999999.0", impl.TxEnd, 0)
	wantFault(t, "40.0", impl.TxEnd, 0)
	wantFault(t, "  /3 1.0\n", impl.TxEnd, 5)
	wantFault(t, "#4 /3   1.0", impl.TxEnd, 8)
	wantFault(t, "0.1 0.1", impl.TxEnd, 0)
	wantFault(t, "0.0 0.0", impl.TxEnd, 4)
	wantFault(t, "0.1 0.2 0.0", impl.TxEnd, 0)
	wantFault(t, "0.0 0.2 0.1 1.0", impl.TxEnd, 12)
	wantFault(t, "0.0\n0.0", impl.TxEnd, 4)
	wantFault(t, "1.0\n1.0", impl.TxEnd, 0)
	wantFault(t, "1.0\n0.0\n0.0", impl.TxEnd, 8)
	wantFault(t, "1.0\n0.0 0.0", impl.TxEnd, 8)
	wantFault(t, "1.0\n0.1", impl.TxEnd, 0)
	wantFault(t, "1.1\n0.0 0.0", impl.TxEnd, 4)
	wantFault(t, "1.0 1.1\n0.1 0.0", impl.TxEnd, 0)
	wantFault(t, "1.0\n\n", impl.TxEnd, 0)
	wantFault(t, "2.0\n2.0\n0.0", impl.TxEnd, 4)
	wantFault(t, "\n\n0.0", impl.TxEnd, 2)
	wantFault(t, "#1 0.0\n#2 1.1\n", impl.TxEnd, 10)
}

func TestIdentifiersMissingAndTwice(t *testing.T) {
	wantFault(t, "#1\n\n", impl.TxId, 3)
	wantFault(t, "\n#1", impl.TxId, 0)
	wantFault(t, "\n#1\n", impl.TxId, 0)
	wantFault(t, "#1\n ", impl.TxId, 3)
	wantFault(t, "#1\n#1", impl.TxId, 3)
	wantFault(t, "#1\n  #1", impl.TxId, 5)
	wantFault(t, "#1\n  /2", impl.TxId, 3)
	wantFault(t, "  /1\n#1", impl.TxId, 0)
	wantFault(t, "#1\n  \n#1", impl.TxId, 3)
	wantFault(t, "#1\n#1\n\n", impl.TxId, 3)
	wantFault(t, "#1\n#2\n#1\n", impl.TxId, 6)
	wantFault(t, "#2\n#1\n#1\n", impl.TxId, 6)
	wantFault(t, "#2\n\n#1\n#1\n", impl.TxId, 3)
	wantFault(t, "#2\n#3\n#1\n \n", impl.TxId, 9)
	wantFault(t, "\n\n\n\n\n\n#7", impl.TxId, 0)
	wantFault(t, "#1 1.0\n  0.0\n", impl.TxId, 7)
	wantFault(t, " #1 /2 1.0\n  #1 /3 0.0\n", impl.TxId, 13)
}

// TestFirstFaultCounts puts several faults into one text: those of an earlier rule count, also behind the others.
func TestFirstFaultCounts(t *testing.T) {
	six := "0.0 0.1 0.2 0.3 0.4 0.5"
	wantFault(t, "x"+strings.Repeat("\n", 41), impl.TxWord, 0)
	wantFault(t, strings.Repeat("\n", 39)+"x\n\n", impl.TxWord, 39)
	wantFault(t, strings.Repeat("\n", 40)+"\nx", impl.TxMany, 40)
	wantFault(t, six+" 0.6 x", impl.TxMany, 24)
	wantFault(t, six+" x 0.6", impl.TxWord, 24)
	wantFault(t, six+" 0.6\nx", impl.TxMany, 24)
	wantFault(t, "x\n"+six+" 0.6", impl.TxWord, 0)
	wantFault(t, six+" 0.6"+strings.Repeat("\n", 41), impl.TxMany, 24)
	wantFault(t, strings.Repeat("\n", 40)+six+" 0.6", impl.TxMany, 40)
	wantFault(t, "9.9\nx", impl.TxWord, 4)
	wantFault(t, "9.9\n"+six+" 0.6", impl.TxMany, 28)
	wantFault(t, "9.9"+strings.Repeat("\n", 41), impl.TxMany, 43)
	wantFault(t, "#1\n#1\n9.9", impl.TxEnd, 6)
	wantFault(t, "#1\n\n9.9", impl.TxEnd, 4)
	wantFault(t, "\n#1\n#1 x", impl.TxWord, 7)
	wantFault(t, "#1\n#1"+strings.Repeat("\n", 40), impl.TxMany, 44)
	wantFault(t, "8.8 9.9\n7.7", impl.TxEnd, 0)
	wantFault(t, "x y\nz", impl.TxWord, 0)
	wantFault(t, "9.9 x\n#1\n#1\n"+strings.Repeat(" ", 6000), impl.TxLong, 0)
}

func TestShortTexts(t *testing.T) {
	counts := [6]int{}
	textsOver("01.# /\n", 6, func(s string) { counts[wantFinding(t, s).code]++ })
	for _, code := range []int{impl.TxOk, impl.TxWord, impl.TxMany, impl.TxEnd, impl.TxId} {
		if counts[code] == 0 {
			t.Errorf("no short text has the code %d: %v", code, counts)
		}
	}
}

// TestTextsOfFewWords reads all texts of two lines of up to two words, and of one line of up to four.
func TestTextsOfFewWords(t *testing.T) {
	words := []string{"#1", "#2", "/0", "/1", "0.0", "0.1", "1.0", "1.1", "x"}
	lines := []string{""}
	for first := 0; len(lines) < 1+9+81+729+6561; first++ {
		for _, w := range words {
			lines = append(lines, strings.TrimPrefix(lines[first]+" "+w, " "))
		}
	}
	counts := [6]int{}
	for k, a := range lines {
		counts[wantFinding(t, a).code]++
		if k >= 1+9+81 {
			continue
		}
		for _, b := range lines[:1+9+81] {
			counts[wantFinding(t, a+"\n"+b+"\n").code]++
		}
	}
	for _, code := range []int{impl.TxOk, impl.TxWord, impl.TxMany, impl.TxEnd, impl.TxId} {
		if counts[code] == 0 {
			t.Errorf("no text of few words has the code %d: %v", code, counts)
		}
	}
}

// TestDisturbedTexts changes bytes and lines of texts of networks.
func TestDisturbedTexts(t *testing.T) {
	r := rand.New(rand.NewSource(44))
	counts := [6]int{}
	samples := sampleNetworks()
	for range 30000 {
		text := looseText(r, samples[r.Intn(len(samples))])
		for range r.Intn(4) {
			text = disturbed(r, text)
		}
		counts[wantFinding(t, text).code]++
	}
	for code, count := range counts {
		if count < 100 && code != impl.TxLong {
			t.Errorf("%d texts have the code %d: %v", count, code, counts)
		}
	}
}

// disturbed changes, removes or puts in a byte, a word or a line.
func disturbed(r *rand.Rand, s string) string {
	at := r.Intn(len(s) + 1)
	end := min(at+1, len(s))
	bytes := "0123456789....####//// \n\n\t\r\x00\xffx-+"
	b := r.Intn(len(bytes))
	switch r.Intn(8) {
	case 0:
		return shuffled(r, s, "\n")
	case 1, 2, 3:
		return shuffled(r, s, " ")
	case 4:
		return s[:at] + s[end:]
	case 5:
		return s[:at] + bytes[b:b+1] + s[end:]
	case 6:
		return s[:at] + bytes[b:b+1] + s[at:]
	}
	if at < len(s) && s[at] >= '0' && s[at] <= '9' {
		return s[:at] + bytes[b%10:b%10+1] + s[end:]
	}
	return s
}

// shuffled removes a part that ends with the separator, or doubles it, perhaps in another place.
func shuffled(r *rand.Rand, s, separator string) string {
	parts := strings.SplitAfter(s, separator)
	k := r.Intn(len(parts))
	switch r.Intn(3) {
	case 0:
		parts = slices.Delete(parts, k, k+1)
	case 1:
		parts = slices.Insert(parts, k, parts[k])
	case 2:
		parts = slices.Insert(parts, k, parts[r.Intn(len(parts))])
	}
	return strings.Join(parts, "")
}

func TestAnyBytesAreRead(t *testing.T) {
	r := rand.New(rand.NewSource(45))
	for range 5000 {
		s := make([]byte, r.Intn(40))
		for i := range s {
			s[i] = byte(r.Intn(256))
		}
		wantFinding(t, string(s))
	}
	for b := range 256 {
		for _, s := range []string{string([]byte{byte(b)}), "0.0" + string([]byte{byte(b)}), "#1" + string([]byte{byte(b)}) + "/2"} {
			wantFinding(t, s)
		}
	}
}
