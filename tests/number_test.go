package tests

import (
	"math/rand"
	"slices"
	"strconv"
	"strings"
	"testing"

	"loop.example/g01084/impl"
)

const million, maxWhole = 1000000, 1000000000000

// wantNumber fails the test unless the call succeeded with the number want.
func wantNumber(t *testing.T, got int, ok bool, want int, what ...any) {
	t.Helper()
	if !ok || got != want {
		t.Fatalf("%v: got %d %v, want %d", what, got, ok, want)
	}
}

// wantList fails the test unless the call succeeded with the list want.
func wantList(t *testing.T, got []int, ok bool, want []int, what ...any) {
	t.Helper()
	if !ok || !slices.Equal(got, want) {
		t.Fatalf("%v: got %v %v, want %v", what, got, ok, want)
	}
}

func TestExampleOfChapter2(t *testing.T) {
	n, ok := impl.LogStar(16)
	wantNumber(t, n, ok, 3, "logarithms of 16")
	n, ok = impl.ConductorOf([]int{3, 5})
	wantNumber(t, n, ok, 8, "conductor of 3 and 5")
	for n := range 2001 {
		list, ok := impl.SumsTo([]int{3, 5}, n)
		if want := n == 0 || n == 3 || n == 5 || n == 6 || n >= 8; ok != want {
			t.Errorf("3 and 5 with the sum %d: %v %v", n, list, ok)
		}
	}
	list, ok := impl.SumsTo([]int{3, 5}, 11)
	wantList(t, list, ok, []int{2, 1}, "11 of 3 and 5")
}

func TestLimitsOfChapter2AreThoseOfTheDocument(t *testing.T) {
	limits := []int{impl.MaxWhole, impl.MaxSubsets, impl.MaxLength}
	if !slices.Equal(limits, []int{maxWhole, 1000, 40}) {
		t.Error(limits)
	}
}

// sampleNumbers returns small whole numbers, those around powers of 2 and around the limits, and some made by chance.
func sampleNumbers() []int {
	list := []int{}
	for n := range 600 {
		list = append(list, n)
	}
	for p := 1024; p < maxWhole; p *= 2 {
		list = append(list, p-2, p-1, p, p+1, p+p/2)
	}
	for _, n := range []int{1000, 65535, million, 999999999, maxWhole - 1, maxWhole} {
		list = append(list, n)
	}
	r := rand.New(rand.NewSource(21))
	for range 100 {
		list = append(list, r.Intn(maxWhole+1), r.Intn(million))
	}
	return slices.DeleteFunc(list, func(n int) bool { return n > maxWhole })
}

// binary returns the binary digits of n, that of the least value first, and none for 0.
func binary(n int) string {
	text := []byte(strings.TrimLeft(strconv.FormatInt(int64(n), 2), "0"))
	slices.Reverse(text)
	return string(text)
}

func TestBinaryDigits(t *testing.T) {
	for _, n := range sampleNumbers() {
		text := binary(n)
		got, ok := impl.BitLength(n)
		wantNumber(t, got, ok, len(text), "binary digits of", n)
		for i := range 64 {
			want := 0
			if i < len(text) {
				want = int(text[i] - '0')
			}
			got, ok = impl.BitAt(n, i)
			wantNumber(t, got, ok, want, "binary digit", i, "of", n)
		}
	}
	n, ok := impl.BitLength(0)
	wantNumber(t, n, ok, 0, "binary digits of 0")
	n, ok = impl.BitLength(1)
	wantNumber(t, n, ok, 1, "binary digits of 1")
	n, ok = impl.BitLength(maxWhole)
	wantNumber(t, n, ok, 40, "binary digits of the greatest whole number")
}

func TestFirstDifferentBits(t *testing.T) {
	list := sampleNumbers()
	for k, a := range list {
		for _, b := range append(slices.Clone(list[:40]), list[(k*7)%len(list)], list[len(list)-1-k], a) {
			got, ok := impl.FirstDifferentBit(a, b)
			if a == b {
				refused(t, "equal numbers", got, ok)
				continue
			}
			one, other := binary(a)+strings.Repeat("0", 64), binary(b)+strings.Repeat("0", 64)
			want := 0
			for one[want] == other[want] {
				want++
			}
			wantNumber(t, got, ok, want, "first different digit of", a, b)
		}
	}
	n, ok := impl.FirstDifferentBit(0, 1<<39)
	wantNumber(t, n, ok, 39, "a difference in the last digit")
}

func TestRepeatedLogarithms(t *testing.T) {
	for n, want := range map[int]int{1: 0, 2: 1, 3: 1, 4: 2, 5: 2, 7: 2, 8: 2, 15: 2, 16: 3, 17: 3, 31: 3, 32: 3, 127: 3, 128: 3, 255: 3, 256: 3, 65535: 3, 65536: 4, 65537: 4, maxWhole: 4} {
		got, ok := impl.LogStar(n)
		wantNumber(t, got, ok, want, "logarithms of", n)
	}
	for _, n := range sampleNumbers() {
		if n < 1 {
			continue
		}
		want := 0
		for rest := n; rest > 1; want++ {
			rest = len(binary(rest)) - 1
		}
		got, ok := impl.LogStar(n)
		wantNumber(t, got, ok, want, "logarithms of", n)
	}
}

// sieve tells which numbers below the limit are primes.
func sieve(limit int) []bool {
	prime := make([]bool, limit)
	for n := 2; n < limit; n++ {
		prime[n] = true
	}
	for n := range limit {
		for m := n * n; prime[n] && m < limit; m += n {
			prime[m] = false
		}
	}
	return prime
}

func TestPrimes(t *testing.T) {
	prime := sieve(million + 100)
	for n := -100; n < million+100; n++ {
		want := n >= 0 && n <= million && prime[n]
		if got := impl.IsPrime(n); got != want {
			t.Fatalf("%d: prime %v", n, got)
		}
	}
	if !impl.IsPrime(999983) || impl.IsPrime(1000003) {
		t.Error("the greatest prime below the limit, or the least one beyond it")
	}
}

func TestNextPrimes(t *testing.T) {
	prime := sieve(million + 100)
	next := make([]int, len(prime))
	for n := len(prime) - 2; n >= 0; n-- {
		next[n] = next[n+1]
		if prime[n] {
			next[n] = n
		}
	}
	for n := 0; n <= million; n++ {
		if n > 5000 && n < million-2000 {
			n += 6
		}
		got, ok := impl.NextPrime(n)
		wantNumber(t, got, ok, next[n], "prime from", n)
	}
	for n, want := range map[int]int{0: 2, 1: 2, 2: 2, 3: 3, 4: 5, 32: 37, 961: 967, 1369: 1373, 999983: 999983, 999984: 1000003, million: 1000003} {
		got, ok := impl.NextPrime(n)
		wantNumber(t, got, ok, want, "prime from", n)
	}
}
