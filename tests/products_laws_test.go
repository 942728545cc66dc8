package tests

// The laws of promise P5: products, quotients, roots, powers, divisors and fractions are what their values say.

import (
	"math/big"
	"slices"
	"testing"

	"loop.example/g03225/impl"
)

// checkValue expects a word of k trits with the value n, and true.
func checkValue(t *testing.T, name string, w []int, ok bool, k int, n int, arguments ...any) {
	t.Helper()
	if !ok || !impl.IsWord(w) || len(w) != k || impl.ValueOf(w) != n {
		t.Fatalf("%s of %v: %v, %v, not %d in %d trits", name, arguments, w, ok, n, k)
	}
}

// factorPairs calls check with pairs of words that have at most MaxWord trits
// together: with all pairs of short words, and samples of all lengths.
func factorPairs(check func(a []int, b []int)) {
	for _, words := range [][][]int{shortWords(4), longWords()} {
		for _, a := range words {
			for _, b := range words {
				if len(a)+len(b) <= impl.MaxWord {
					check(a, b)
				}
			}
		}
	}
}

func TestProductsHaveTheProductOfTheValues(t *testing.T) {
	factorPairs(func(a []int, b []int) {
		product, ok := impl.MultiplyWords(a, b)
		checkValue(t, "MultiplyWords", product, ok, len(a)+len(b), impl.ValueOf(a)*impl.ValueOf(b), a, b)
	})
}

func TestPartialsHaveTheProductAsTheirSum(t *testing.T) {
	power := powers()
	factorPairs(func(a []int, b []int) {
		partials, ok := impl.PartialsOf(a, b)
		if !ok || len(partials) != len(b) {
			t.Fatalf("PartialsOf(%v, %v) = %v, %v", a, b, partials, ok)
		}
		for i, partial := range partials {
			checkValue(t, "PartialsOf", partial, ok, len(a)+len(b), impl.ValueOf(a)*b[i]*power[i], a, b)
		}
		product, _ := impl.MultiplyWords(a, b)
		if sum, _, fine := impl.TreeSum(partials); !fine || !slices.Equal(sum, product) {
			t.Fatalf("the partials of %v and %v add up to %v, %v, not %v", a, b, sum, fine, product)
		}
	})
}

func TestCutProductsAreTheNearestOnes(t *testing.T) {
	power := powers()
	factorPairs(func(a []int, b []int) {
		product, _ := impl.MultiplyWords(a, b)
		n := impl.ValueOf(product)
		for k := range len(product) {
			cut, ok := impl.CutProduct(a, b, k)
			if !ok || !slices.Equal(cut, product[k:]) {
				t.Fatalf("CutProduct(%v, %v, %d) = %v, %v", a, b, k, cut, ok)
			}
			if rest := n - impl.ValueOf(cut)*power[k]; 2*rest >= power[k] || 2*rest <= -power[k] {
				t.Fatalf("CutProduct(%v, %v, %d) = %v leaves %d", a, b, k, cut, rest)
			}
		}
	})
}

// TestQuotientsAndRemainders expects what no other quotient and remainder have:
// the value of a as their sum of product and rest, and a rest in its range.
func TestQuotientsAndRemainders(t *testing.T) {
	for _, words := range [][][]int{shortWords(5), longWords()} {
		for _, a := range words {
			for _, d := range words {
				divisor := impl.ValueOf(d)
				q, r, ok := impl.DivideWords(a, d)
				if divisor == 0 {
					if ok || len(q) != 0 || len(r) != 0 {
						t.Fatalf("DivideWords(%v, %v) = %v, %v, %v", a, d, q, r, ok)
					}
					continue
				}
				rest, size := impl.ValueOf(r), max(divisor, -divisor)
				if 2*rest <= -size || 2*rest > size {
					t.Fatalf("DivideWords(%v, %v) = %v, %v: the rest is not in its range", a, d, q, r)
				}
				checkValue(t, "quotient", q, ok, len(a), (impl.ValueOf(a)-rest)/divisor, a, d)
				checkValue(t, "remainder", r, ok, len(d), impl.ValueOf(a)-impl.ValueOf(q)*divisor, a, d)
			}
		}
	}
}

func TestProductsAreDividedBack(t *testing.T) {
	factorPairs(func(a []int, b []int) {
		product, _ := impl.MultiplyWords(a, b)
		q, r, ok := impl.DivideWords(product, b)
		if impl.SignWord(b) == 0 {
			return
		}
		checkValue(t, "quotient", q, ok, len(product), impl.ValueOf(a), product, b)
		checkValue(t, "remainder", r, ok, len(b), 0, product, b)
	})
}

// checkRoot expects what no other root and rest have.
func checkRoot(t *testing.T, w []int) {
	t.Helper()
	r, rest, ok := impl.RootWord(w)
	n, root := impl.ValueOf(w), impl.ValueOf(r)
	if n < 0 {
		if ok || len(r) != 0 || len(rest) != 0 {
			t.Fatalf("RootWord(%v) = %v, %v, %v", w, r, rest, ok)
		}
		return
	}
	checkValue(t, "rest of the root", rest, ok, len(w), n-root*root, w)
	checkValue(t, "root", r, ok, len(w), root, w)
	if left := n - root*root; root < 0 || left > root || left <= -root && n != 0 || n == 0 && root != 0 {
		t.Fatalf("RootWord(%v) = %v, %v", w, r, rest)
	}
}

func TestRootsAreTheNearestOnes(t *testing.T) {
	for _, w := range append(shortWords(8), longWords()...) {
		checkRoot(t, w)
	}
}

// TestRootsNextToSquares takes the numbers where the nearest root changes, and
// those next to squares.
func TestRootsNextToSquares(t *testing.T) {
	for root := 1; root <= 10146209; root += 1 + root/50 {
		for _, left := range []int{1 - root, 2 - root, -1, 0, 1, root - 1, root, root + 1, -root} {
			n := root*root + left
			w, ok := impl.WordOf(n, max(impl.LengthOf(n), impl.MaxWord-root%3))
			if !ok {
				t.Fatalf("no word for %d", n)
			}
			checkRoot(t, w)
			short, _ := impl.WordOf(n, impl.LengthOf(n))
			checkRoot(t, short)
		}
	}
}

// TestSquaresHaveTheirRoots takes the absolute values of words as roots.
func TestSquaresHaveTheirRoots(t *testing.T) {
	for _, w := range append(shortWords(6), longWords()...) {
		if len(w) > impl.MaxWord/2 {
			continue
		}
		square, _ := impl.MultiplyWords(w, w)
		r, rest, ok := impl.RootWord(square)
		n := impl.ValueOf(w)
		checkValue(t, "root", r, ok, len(square), max(n, -n), w)
		checkValue(t, "rest of the root", rest, ok, len(square), 0, w)
	}
}

// checkPower computes the power without bounds.
func checkPower(t *testing.T, w []int, n int) {
	t.Helper()
	power := new(big.Int).Exp(big.NewInt(int64(impl.ValueOf(w))), big.NewInt(int64(n)), nil)
	got, ok := impl.PowerWord(w, n)
	if power.CmpAbs(big.NewInt(limitOfMaxWord)) > 0 {
		checkNone(t, "PowerWord", got, ok, w, n)
		return
	}
	checkValue(t, "PowerWord", got, ok, impl.MaxWord, int(power.Int64()), w, n)
}

func TestPowersAreRepeatedProducts(t *testing.T) {
	for _, w := range append(shortWords(5), longWords()...) {
		for n := range 70 {
			checkPower(t, w, n)
		}
		for _, n := range []int{127, 128, 255, 256, 1000, 1001} {
			checkPower(t, w, n)
		}
	}
}

// TestPowersNextToTheLimit takes, for each exponent, the greatest value whose
// power is the value of a word, and its neighbours.
func TestPowersNextToTheLimit(t *testing.T) {
	for n := 2; n <= 47; n++ {
		low, high := 1, 10146210
		for low+1 < high {
			middle := (low + high) / 2
			power := new(big.Int).Exp(big.NewInt(int64(middle)), big.NewInt(int64(n)), nil)
			if power.Cmp(big.NewInt(limitOfMaxWord)) <= 0 {
				low = middle
			} else {
				high = middle
			}
		}
		for value := low - 1; value <= low+2; value++ {
			for _, k := range []int{impl.LengthOf(value), impl.MaxWord} {
				w, _ := impl.WordOf(value, k)
				checkPower(t, w, n)
				checkPower(t, impl.NegateWord(w), n)
			}
		}
	}
}

// TestShortDivisorsAreTheGreatestOnes tries all numbers as common divisors.
func TestShortDivisorsAreTheGreatestOnes(t *testing.T) {
	for _, a := range shortWords(4) {
		for _, b := range shortWords(4) {
			m, n := impl.ValueOf(a), impl.ValueOf(b)
			greatest := 0
			for d := 1; d <= 40 && (m != 0 || n != 0); d++ {
				if m%d == 0 && n%d == 0 {
					greatest = d
				}
			}
			got, ok := impl.GcdWords(a, b)
			checkValue(t, "GcdWords", got, ok, max(len(a), len(b)), greatest, a, b)
		}
	}
}

func TestLongDivisors(t *testing.T) {
	words := longWords()
	for i, a := range words {
		for j, b := range words {
			m, n := big.NewInt(int64(impl.ValueOf(a))), big.NewInt(int64(impl.ValueOf(b)))
			want := new(big.Int).GCD(nil, nil, m.Abs(m), n.Abs(n))
			got, ok := impl.GcdWords(a, b)
			checkValue(t, "GcdWords", got, ok, max(len(a), len(b)), int(want.Int64()), i, j)
		}
	}
}

// TestDivisorsOfProducts multiplies two words by a third one.
func TestDivisorsOfProducts(t *testing.T) {
	for _, a := range shortWords(2) {
		for _, b := range shortWords(2) {
			for _, c := range longWords() {
				if len(c) > impl.MaxWord-2 {
					continue
				}
				left, _ := impl.MultiplyWords(a, c)
				right, _ := impl.MultiplyWords(b, c)
				divisor, _ := impl.GcdWords(a, b)
				n := impl.ValueOf(divisor) * impl.ValueOf(c)
				got, ok := impl.GcdWords(left, right)
				checkValue(t, "GcdWords", got, ok, max(len(left), len(right)), max(n, -n), left, right)
			}
		}
	}
}

// checkThirds expects what no other word has: to be near enough, and of two
// that are equally near, to be the lesser one.
func checkThirds(t *testing.T, n int, d int, k int) {
	t.Helper()
	w, ok := impl.ThirdsOf(n, d, k)
	rest := n*powers()[k] - d*impl.ValueOf(w)
	if !ok || !impl.IsWord(w) || len(w) != k || 2*rest > d || 2*rest <= -d {
		t.Fatalf("ThirdsOf(%d, %d, %d) = %v, %v", n, d, k, w, ok)
	}
}

func TestFractionsAreTheNearestOnes(t *testing.T) {
	for d := 1; d <= 40; d++ {
		for n := -d; n <= d; n++ {
			for k := 1; k <= 20; k++ {
				if 2*n < d && -2*n < d {
					checkThirds(t, n, d, k)
					continue
				}
				w, ok := impl.ThirdsOf(n, d, k)
				checkNone(t, "ThirdsOf", w, ok, n, d, k)
			}
		}
	}
}

func TestFractionsWithGreatDenominators(t *testing.T) {
	for _, d := range []int{1000000, 999999, 999998, 531441, 531442, 65536, 524288, 786432} {
		for k := 1; k <= 20; k++ {
			for _, n := range []int{0, 1, 2, 3, 7, 1000, d / 6, d / 4, d / 3, d/2 - 1, d/2 - 2, (d - 1) / 2} {
				checkThirds(t, n, d, k)
				checkThirds(t, -n, d, k)
			}
		}
	}
}

// TestFractionsOfPowersHaveTheirTrits takes fractions that have no more than k
// trits behind the point.
func TestFractionsOfPowersHaveTheirTrits(t *testing.T) {
	power := powers()
	for _, w := range append(shortWords(5), longWords()...) {
		if power[len(w)] > 1000000 {
			continue
		}
		for k := len(w); k <= 20; k++ {
			want, _ := impl.ShiftWord(w, k-len(w))
			got, ok := impl.ThirdsOf(impl.ValueOf(w), power[len(w)], k)
			if !ok || !slices.Equal(got, want) {
				t.Fatalf("ThirdsOf(%d, %d, %d) = %v, %v", impl.ValueOf(w), power[len(w)], k, got, ok)
			}
		}
	}
}

func TestProductsInAnyOrderAndGrouping(t *testing.T) {
	words := shortWords(3)
	for _, a := range words {
		for _, b := range words {
			ab, _ := impl.MultiplyWords(a, b)
			ba, _ := impl.MultiplyWords(b, a)
			negative, _ := impl.MultiplyWords(impl.NegateWord(a), b)
			if !slices.Equal(ab, ba) || !slices.Equal(negative, impl.NegateWord(ab)) {
				t.Fatalf("products of %v and %v: %v, %v, %v", a, b, ab, ba, negative)
			}
			for _, c := range words {
				left, _ := impl.MultiplyWords(ab, c)
				bc, _ := impl.MultiplyWords(b, c)
				right, _ := impl.MultiplyWords(a, bc)
				if !slices.Equal(left, right) {
					t.Fatalf("products of %v, %v and %v: %v, %v", a, b, c, left, right)
				}
			}
		}
		square, _ := impl.MultiplyWords(a, a)
		power, ok := impl.PowerWord(a, 2)
		checkValue(t, "PowerWord", power, ok, impl.MaxWord, impl.ValueOf(square), a)
	}
}
