package tests

import (
	"fmt"
	"math/rand"
	"strings"
	"testing"

	"loop.example/g01084/impl"
)

func wantPlace(t *testing.T, s string, at, line, column int) {
	t.Helper()
	if gotLine, gotColumn, ok := impl.PlaceOf(s, at); gotLine != line || gotColumn != column || !ok {
		t.Errorf("offset %d of %q: %d %d %v, want %d %d", at, s, gotLine, gotColumn, ok, line, column)
	}
}

func TestPlaces(t *testing.T) {
	wantPlace(t, "", 0, 1, 1)
	wantPlace(t, "a", 0, 1, 1)
	wantPlace(t, "a", 1, 1, 2)
	wantPlace(t, "abc", 2, 1, 3)
	wantPlace(t, "\n", 0, 1, 1)
	wantPlace(t, "\n", 1, 2, 1)
	wantPlace(t, "\n\n", 1, 2, 1)
	wantPlace(t, "\n\n", 2, 3, 1)
	wantPlace(t, "ab\ncd\n", 1, 1, 2)
	wantPlace(t, "ab\ncd\n", 2, 1, 3)
	wantPlace(t, "ab\ncd\n", 3, 2, 1)
	wantPlace(t, "ab\ncd\n", 5, 2, 3)
	wantPlace(t, "ab\ncd\n", 6, 3, 1)
	wantPlace(t, "\u00e9\xff\r\nx", 3, 1, 4)
	wantPlace(t, "\u00e9\xff\r\nx", 5, 2, 1)
	wantPlace(t, strings.Repeat("x", 10000), 10000, 1, 10001)
	wantPlace(t, strings.Repeat("\n", 10000), 10000, 10001, 1)
	wantPlace(t, strings.Repeat("\n", 10000)+"x", 10001, 10001, 2)
}

func TestOffsetsOutsideOfTexts(t *testing.T) {
	for _, s := range []string{"", "x", "\n", "ab\ncd", "ab\ncd\n"} {
		for _, at := range outside(0, len(s)) {
			line, column, ok := impl.PlaceOf(s, at)
			refused(t, fmt.Sprintf("offset %d of %q", at, s), line, column, ok)
		}
	}
}

// TestPlacesAreCountedOn goes through texts byte by byte.
func TestPlacesAreCountedOn(t *testing.T) {
	r := rand.New(rand.NewSource(46))
	for range 300 {
		s := make([]byte, r.Intn(60))
		for i := range s {
			s[i] = "ab \n\n#\xff"[r.Intn(7)]
		}
		line, column := 1, 1
		for at := 0; at <= len(s); at++ {
			wantPlace(t, string(s), at, line, column)
			column++
			if at < len(s) && s[at] == '\n' {
				line, column = line+1, 1
			}
		}
	}
}

// TestFaultsHavePlaces looks up the words, or the lines, at which faults are.
func TestFaultsHavePlaces(t *testing.T) {
	r := rand.New(rand.NewSource(47))
	samples := sampleNetworks()
	faults := 0
	for range 3000 {
		text := disturbed(r, disturbed(r, looseText(r, samples[r.Intn(len(samples))])))
		_, at, code := impl.ParseNetwork(text)
		if code == impl.TxOk || text == "" {
			continue
		}
		faults++
		line, column, ok := impl.PlaceOf(text, at)
		lines := strings.SplitAfter(text, "\n")
		if !ok || line < 1 || line > len(lines) || column < 1 || column > len(lines[line-1]) {
			t.Fatalf("fault %d of %q at %d has the place %d %d %v", code, text, at, line, column, ok)
		}
		before := strings.Join(lines[:line-1], "") + lines[line-1][:column-1]
		if len(before) != at {
			t.Fatalf("place %d %d of %q is not the offset %d", line, column, text, at)
		}
		if code == impl.TxWord || code == impl.TxEnd {
			first := lines[line-1][column-1]
			if first == ' ' || first == '\n' || column > 1 && lines[line-1][column-2] != ' ' {
				t.Fatalf("no word of %q begins at %d", text, at)
			}
		}
	}
	if faults < 1000 {
		t.Error("few texts have faults", faults)
	}
}
