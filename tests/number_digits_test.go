package tests

import (
	"math/big"
	"math/rand"
	"slices"
	"strconv"
	"testing"

	"loop.example/g01084/impl"
)

// digitsByHand returns the digits of n without zeros behind them, so none for 0.
func digitsByHand(n, base int) []int {
	list := []int{}
	for n > 0 {
		list = append(list, n%base)
		n /= base
	}
	return list
}

func TestDigits(t *testing.T) {
	for _, n := range sampleNumbers() {
		for _, base := range []int{2, 3, 7, 10, 11, 16, 36, 37, 999, 1000} {
			short := digitsByHand(n, base)
			for _, count := range []int{0, 1, len(short) - 1, len(short), len(short) + 1, 40, 59, 60} {
				if count < 0 {
					continue
				}
				got, ok := impl.DigitsOf(n, base, count)
				if count < len(short) {
					refused(t, "more digits", got, ok)
					continue
				}
				wantList(t, got, ok, append(slices.Clone(short), make([]int, count-len(short))...), count, "digits of", n, "to the base", base)
				back, ok := impl.FromDigits(base, got)
				wantNumber(t, back, ok, n, "from the digits", got, "to the base", base)
			}
		}
	}
}

func TestDigitsAreThoseOfTexts(t *testing.T) {
	for _, n := range sampleNumbers() {
		for base := 2; base <= 36; base += 3 {
			text := strconv.FormatInt(int64(n), base)
			got, ok := impl.DigitsOf(n, base, len(text))
			if !ok {
				t.Fatalf("no digits of %d to the base %d", n, base)
			}
			for i, digit := range got {
				if text[len(text)-1-i] != strconv.FormatInt(int64(digit), base)[0] {
					t.Fatalf("digits of %d to the base %d: %v", n, base, got)
				}
			}
		}
	}
}

func TestNoDigit(t *testing.T) {
	for _, base := range []int{2, 10, 1000} {
		list, ok := impl.DigitsOf(0, base, 0)
		wantList(t, list, ok, nil, "no digit of 0")
		list, ok = impl.DigitsOf(0, base, 3)
		wantList(t, list, ok, []int{0, 0, 0}, "three digits of 0")
		list, ok = impl.DigitsOf(1, base, 0)
		refused(t, "no digit of 1", list, ok)
		n, ok := impl.FromDigits(base, nil)
		wantNumber(t, n, ok, 0, "from no digit")
		n, ok = impl.FromDigits(base, make([]int, 60))
		wantNumber(t, n, ok, 0, "from 60 zeros")
	}
}

func TestNumbersFromDigits(t *testing.T) {
	r := rand.New(rand.NewSource(22))
	for range 4000 {
		base := 2 + r.Intn(1+r.Intn(999))
		digits, want := []int{}, new(big.Int)
		for range r.Intn(61) {
			digits = append(digits, r.Intn(base)*r.Intn(2))
		}
		for i := range digits {
			if len(digits) > 3 && i > r.Intn(30) {
				digits[i] = 0
			}
		}
		for i := len(digits) - 1; i >= 0; i-- {
			want.Mul(want, big.NewInt(int64(base))).Add(want, big.NewInt(int64(digits[i])))
		}
		got, ok := impl.FromDigits(base, digits)
		if want.Cmp(big.NewInt(maxWhole)) > 0 {
			refused(t, "no whole number", got, ok)
			continue
		}
		wantNumber(t, got, ok, int(want.Int64()), "from the digits", digits, "to the base", base)
	}
}

func TestDigitsOfTheGreatestWholeNumber(t *testing.T) {
	for base := 2; base <= 1000; base++ {
		exact, over := digitsByHand(maxWhole, base), digitsByHand(maxWhole+1, base)
		got, ok := impl.FromDigits(base, exact)
		wantNumber(t, got, ok, maxWhole, "the greatest whole number to the base", base)
		got, ok = impl.FromDigits(base, over)
		refused(t, "exceeded by one", got, ok)
		got, ok = impl.FromDigits(base, append(exact, make([]int, 60-len(exact))...))
		wantNumber(t, got, ok, maxWhole, "60 digits to the base", base)
		all := []int{}
		for range 60 {
			all = append(all, base-1)
		}
		got, ok = impl.FromDigits(base, all)
		refused(t, "60 greatest digits", got, ok)
		for i := 41; i < 60; i++ {
			one := make([]int, i+1)
			one[i] = 1
			got, ok = impl.FromDigits(base, one)
			refused(t, "a power that is too great", got, ok)
		}
	}
}

func TestValuesOfPolynomials(t *testing.T) {
	r := rand.New(rand.NewSource(23))
	for q := range 1001 {
		if !big.NewInt(int64(q)).ProbablyPrime(10) {
			continue
		}
		for _, count := range []int{0, 1, 2, 3, 7, 60} {
			f := []int{}
			for range count {
				f = append(f, r.Intn(q))
			}
			for _, x := range []int{0, 1, q - 1, r.Intn(q)} {
				want, power := 0, 1
				for _, c := range f {
					want = (want + c*power) % q
					power = power * x % q
				}
				got, ok := impl.PolynomialAt(q, f, x)
				wantNumber(t, got, ok, want, "value modulo", q, "at", x, "of", f)
			}
		}
	}
	got, ok := impl.PolynomialAt(7, []int{1, 2, 3}, 5)
	wantNumber(t, got, ok, 86%7, "1 + 2*5 + 3*25 modulo 7")
	got, ok = impl.PolynomialAt(7, nil, 5)
	wantNumber(t, got, ok, 0, "no coefficient")
	got, ok = impl.PolynomialAt(5, []int{0, 4}, 0)
	wantNumber(t, got, ok, 0, "a multiple of x at 0")
}

// TestPolynomialsThatMeet checks what fields are for: two polynomials with d+1 coefficients have at most d equal values.
func TestPolynomialsThatMeet(t *testing.T) {
	for _, q := range []int{2, 3, 5, 7} {
		for a := range q * q * q {
			for b := range a {
				f, _ := impl.DigitsOf(a, q, 3)
				g, _ := impl.DigitsOf(b, q, 3)
				meetings := 0
				for x := range q {
					one, fine := impl.PolynomialAt(q, f, x)
					other, ok := impl.PolynomialAt(q, g, x)
					if !fine || !ok {
						t.Fatalf("no value modulo %d of %v or %v", q, f, g)
					}
					if one == other {
						meetings++
					}
				}
				if meetings > 2 {
					t.Fatalf("%v and %v meet %d times modulo %d", f, g, meetings, q)
				}
			}
		}
	}
}
