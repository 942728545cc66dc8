package tests

// The laws of promise P6: floating numbers are the nearest ones, keep the order, and are exact where six trits are enough.

import (
	"math/big"
	"sort"
	"testing"

	"loop.example/g03225/impl"
)

const (
	// All numbers of these tests are whole multiples of 3^unitExp.
	unitExp = -150
	// The absolute values of words of six trits with a highest trit that is
	// not 0 are from leastDigits to mostDigits.
	leastDigits = 122
	mostDigits  = 364
)

// bigPowers has 3^k at the index k.
var bigPowers = func() []*big.Int {
	list := []*big.Int{big.NewInt(1)}
	for range 320 {
		list = append(list, new(big.Int).Mul(list[len(list)-1], big.NewInt(3)))
	}
	return list
}()

// unitsOf returns n 3^e, in units of 3^unitExp.
func unitsOf(n int, e int) *big.Int {
	return new(big.Int).Mul(big.NewInt(int64(n)), bigPowers[e-unitExp])
}

func unitsOfFloat(f impl.Floating) *big.Int { return unitsOf(impl.ValueOf(f.Digits), f.Exp) }

func isZeroFloat(f impl.Floating) bool { return impl.FormatFloat(f) == "000000x0" }

func isNoFloat(f impl.Floating) bool { return len(f.Digits) == 0 && f.Exp == 0 }

// checkFloat returns a function that expects the float of a number, and true,
// or the zero value and false if it overflows. The number of trits of the
// number tells the exponent; with this exponent, no other float is as near.
func checkFloat(t *testing.T, name string, number *big.Int, arguments ...any) func(f impl.Floating, ok bool) {
	t.Helper()
	double := new(big.Int).Lsh(new(big.Int).Abs(number), 1)
	length := sort.Search(len(bigPowers), func(k int) bool { return bigPowers[k].Cmp(double) > 0 })
	exp := length - impl.FloatTrits + unitExp
	return func(f impl.Floating, ok bool) {
		t.Helper()
		switch {
		case number.Sign() == 0:
			if !ok || !isZeroFloat(f) {
				t.Fatalf("%s of %v: %v, %v, not 0", name, arguments, f, ok)
			}
		case exp < -impl.MaxExp || exp > impl.MaxExp:
			if ok || !isNoFloat(f) {
				t.Fatalf("%s of %v: %v, %v, and it overflows", name, arguments, f, ok)
			}
		default:
			if !ok || !impl.IsFloat(f) || f.Exp != exp {
				t.Fatalf("%s of %v: %v, %v, not with the exponent %d", name, arguments, f, ok, exp)
			}
			rest := new(big.Int).Sub(number, unitsOfFloat(f))
			if rest.Lsh(rest, 1).CmpAbs(bigPowers[exp-unitExp]) >= 0 {
				t.Fatalf("%s of %v: %v is not the nearest", name, arguments, f)
			}
		}
	}
}

func floatWith(digits int, exp int) impl.Floating {
	w, _ := impl.WordOf(digits, impl.FloatTrits)
	return impl.Floating{Digits: w, Exp: exp}
}

// allFloats returns each valid float once, by ascending number.
func allFloats() []impl.Floating {
	var floats []impl.Floating
	for exp := impl.MaxExp; exp >= -impl.MaxExp; exp-- {
		for digits := -mostDigits; digits <= -leastDigits; digits++ {
			floats = append(floats, floatWith(digits, exp))
		}
	}
	floats = append(floats, floatWith(0, 0))
	for exp := -impl.MaxExp; exp <= impl.MaxExp; exp++ {
		for digits := leastDigits; digits <= mostDigits; digits++ {
			floats = append(floats, floatWith(digits, exp))
		}
	}
	return floats
}

// sampleDigits and sampleExps have those next to their bounds, and exponents
// that are apart by all numbers that matter for sums.
var (
	sampleDigits = []int{-364, -363, -244, -243, -200, -182, -123, -122, 122, 123, 181, 222, 243, 255, 363, 364}
	sampleExps   = []int{-20, -19, -14, -13, -6, -5, -4, -1, 0, 1, 2, 3, 5, 19, 20}
)

func sampleFloats() []impl.Floating {
	floats := []impl.Floating{floatWith(0, 0)}
	for _, digits := range sampleDigits {
		for _, exp := range sampleExps {
			floats = append(floats, floatWith(digits, exp))
		}
	}
	return floats
}

func TestAllFloatsAreValid(t *testing.T) {
	floats := allFloats()
	if len(floats) != 2*243*41+1 {
		t.Fatalf("%d floats", len(floats))
	}
	for _, f := range floats {
		if !impl.IsFloat(f) {
			t.Fatalf("%v is not valid", f)
		}
	}
}

func TestFloatsOfNumbersAreTheNearestOnes(t *testing.T) {
	for _, w := range append(allWords(7), longWords()...) {
		n := impl.ValueOf(w)
		for e := -46; e <= 26; e++ {
			checkFloat(t, "FloatOf", unitsOf(n, e), n, e)(impl.FloatOf(n, e))
		}
		for _, e := range []int{-100, -99, -80, -60, 40, 60, 99, 100} {
			checkFloat(t, "FloatOf", unitsOf(n, e), n, e)(impl.FloatOf(n, e))
		}
	}
}

// TestFloatsAreExactWhereSixTritsAreEnough takes numbers of six trits and
// zeros below them.
func TestFloatsAreExactWhereSixTritsAreEnough(t *testing.T) {
	power := powers()
	for n := -mostDigits; n <= mostDigits; n++ {
		for below := range 25 {
			for e := -15 - below; e <= 20-below; e++ {
				f, ok := impl.FloatOf(n*power[below], e)
				if !ok || !impl.IsFloat(f) || unitsOfFloat(f).Cmp(unitsOf(n, e+below)) != 0 {
					t.Fatalf("FloatOf(%d 3^%d, %d) = %v, %v", n, below, e, f, ok)
				}
			}
		}
	}
}

func TestNegativesOfFloats(t *testing.T) {
	for _, f := range allFloats() {
		negative := impl.NegateFloat(f)
		if !impl.IsFloat(negative) || unitsOfFloat(negative).CmpAbs(unitsOfFloat(f)) != 0 || impl.SignWord(negative.Digits) != -impl.SignWord(f.Digits) {
			t.Fatalf("NegateFloat(%v) = %v", f, negative)
		}
	}
}

func TestOrderOfFloats(t *testing.T) {
	floats := allFloats()
	for i := range floats[1:] {
		if impl.CompareFloats(floats[i], floats[i+1]) != -1 || impl.CompareFloats(floats[i+1], floats[i]) != 1 || impl.CompareFloats(floats[i], floats[i]) != 0 {
			t.Fatalf("%v is not less than %v", floats[i], floats[i+1])
		}
	}
	for _, a := range sampleFloats() {
		for _, b := range sampleFloats() {
			if got := impl.CompareFloats(a, b); got != unitsOfFloat(a).Cmp(unitsOfFloat(b)) {
				t.Fatalf("CompareFloats(%v, %v) = %d", a, b, got)
			}
		}
	}
}

// TestFloatsKeepTheOrderOfNumbers takes numbers around those where a cut to
// six trits changes, and where one more trit is needed.
func TestFloatsKeepTheOrderOfNumbers(t *testing.T) {
	last := floatWith(-mostDigits, impl.MaxExp)
	for n := -20000; n <= 20000; n++ {
		f, ok := impl.FloatOf(n, 0)
		if !ok || impl.CompareFloats(last, f) > 0 {
			t.Fatalf("the float %v of %d is less than %v", f, n, last)
		}
		last = f
	}
}

func TestScaledFloats(t *testing.T) {
	for _, f := range sampleFloats() {
		n := impl.ValueOf(f.Digits)
		for by := -100; by <= 100; by++ {
			checkFloat(t, "ScaleFloat", unitsOf(n, f.Exp+by), f, by)(impl.ScaleFloat(f, by))
		}
	}
}

// checkPair holds the sum, the difference, the product and the quotient of two
// floats against the exact numbers.
func checkPair(t *testing.T, a impl.Floating, b impl.Floating) {
	t.Helper()
	x, y := impl.ValueOf(a.Digits), impl.ValueOf(b.Digits)
	m, n := unitsOfFloat(a), unitsOfFloat(b)
	checkFloat(t, "AddFloats", new(big.Int).Add(m, n), a, b)(impl.AddFloats(a, b))
	checkFloat(t, "SubFloats", new(big.Int).Sub(m, n), a, b)(impl.SubFloats(a, b))
	checkFloat(t, "MulFloats", unitsOf(x*y, a.Exp+b.Exp), a, b)(impl.MulFloats(a, b))
	f, ok := impl.DivFloats(a, b)
	if y == 0 {
		if ok || !isNoFloat(f) {
			t.Fatalf("DivFloats(%v, %v) = %v, %v", a, b, f, ok)
		}
		return
	}
	shifted, _ := impl.ShiftWord(a.Digits, 9)
	q, _, _ := impl.DivideWords(shifted, b.Digits)
	checkFloat(t, "DivFloats", unitsOf(impl.ValueOf(q), a.Exp-b.Exp-9), a, b)(f, ok)
}

func TestResultsOfFloatsAreTheNearestOnes(t *testing.T) {
	for _, a := range sampleFloats() {
		for _, b := range sampleFloats() {
			checkPair(t, a, b)
		}
	}
}

// TestResultsOfAllDigits takes exponents that are close to each other, so that
// sums and differences get shorter and longer.
func TestResultsOfAllDigits(t *testing.T) {
	for digits := leastDigits; digits <= mostDigits; digits++ {
		for _, other := range sampleDigits {
			for exp := -7; exp <= 7; exp++ {
				checkPair(t, floatWith(digits, 0), floatWith(other, exp))
			}
		}
	}
}

// TestSmallNumbersAreExact expects the results of numbers whose sums, products
// and quotients have at most six trits.
func TestSmallNumbersAreExact(t *testing.T) {
	for m := -182; m <= 182; m++ {
		for n := -182; n <= 182; n++ {
			a, _ := impl.FloatOf(m, 0)
			b, _ := impl.FloatOf(n, 0)
			expect := func(name string, want int) func(f impl.Floating, ok bool) {
				return func(f impl.Floating, ok bool) {
					if !ok || unitsOfFloat(f).Cmp(unitsOf(want, 0)) != 0 {
						t.Fatalf("%s of %d and %d: %v, %v", name, m, n, f, ok)
					}
				}
			}
			expect("sum", m+n)(impl.AddFloats(a, b))
			expect("difference", m-n)(impl.SubFloats(a, b))
			if m*n >= -mostDigits && m*n <= mostDigits {
				expect("product", m*n)(impl.MulFloats(a, b))
			}
			if n != 0 && m%n == 0 {
				expect("quotient", m/n)(impl.DivFloats(a, b))
			}
		}
	}
}

// TestLawsOfSumsAndProducts expects the same results, or that both overflow.
func TestLawsOfSumsAndProducts(t *testing.T) {
	one := floatWith(243, -5)
	for _, a := range sampleFloats() {
		if f, ok := impl.MulFloats(a, one); !ok || impl.CompareFloats(f, a) != 0 {
			t.Fatalf("%v times 1 is %v, %v", a, f, ok)
		}
		if f, ok := impl.DivFloats(a, one); !ok || impl.CompareFloats(f, a) != 0 {
			t.Fatalf("%v divided by 1 is %v, %v", a, f, ok)
		}
		if f, ok := impl.SubFloats(a, a); !ok || !isZeroFloat(f) {
			t.Fatalf("%v less itself is %v, %v", a, f, ok)
		}
		for _, b := range sampleFloats() {
			sum, _ := impl.AddFloats(a, b)
			swapped, _ := impl.AddFloats(b, a)
			negative, _ := impl.AddFloats(impl.NegateFloat(a), impl.NegateFloat(b))
			product, _ := impl.MulFloats(a, b)
			turned, _ := impl.MulFloats(b, a)
			opposite, _ := impl.MulFloats(impl.NegateFloat(a), b)
			for _, pair := range [][2]impl.Floating{{sum, swapped}, {sum, impl.NegateFloat(negative)}, {product, turned}, {product, impl.NegateFloat(opposite)}} {
				if impl.FormatFloat(pair[0]) != impl.FormatFloat(pair[1]) {
					t.Fatalf("%v and %v: %v, %v", a, b, pair[0], pair[1])
				}
			}
		}
	}
}

// TestSumsAndProductsKeepTheOrder takes pairs a and b by ascending sums, and
// products with a number above 0 by ascending factors.
func TestSumsAndProductsKeepTheOrder(t *testing.T) {
	others := []impl.Floating{floatWith(122, -20), floatWith(200, -7), floatWith(243, -5), floatWith(364, 0), floatWith(131, 12)}
	floats := allFloats()
	for _, other := range others {
		var sum, product impl.Floating
		for _, f := range floats {
			if next, ok := impl.AddFloats(f, other); ok {
				if impl.CompareFloats(sum, next) > 0 {
					t.Fatalf("%v and %v: %v after %v", f, other, next, sum)
				}
				sum = next
			}
			if next, ok := impl.MulFloats(f, other); ok {
				if impl.CompareFloats(product, next) > 0 {
					t.Fatalf("%v times %v: %v after %v", f, other, next, product)
				}
				product = next
			}
		}
	}
}

func TestWholeNumbersAreTheNearestOnes(t *testing.T) {
	last := -1 << 62
	for _, f := range allFloats() {
		n, ok := impl.FloorFloat(f)
		rest := new(big.Int).Sub(unitsOfFloat(f), unitsOf(n, 0))
		if !ok || rest.Lsh(rest, 1).CmpAbs(bigPowers[-unitExp]) >= 0 {
			t.Fatalf("FloorFloat(%v) = %d, %v", f, n, ok)
		}
		if f.Exp >= 0 && rest.Sign() != 0 {
			t.Fatalf("FloorFloat(%v) = %d is not exact", f, n)
		}
		if n < last {
			t.Fatalf("FloorFloat(%v) = %d is less than %d", f, n, last)
		}
		last = n
	}
}

// TestSinglesAreRoundedOneTimeAfterTheOther computes with 53 bits, as numbers
// of double precision have.
func TestSinglesAreRoundedOneTimeAfterTheOther(t *testing.T) {
	three := big.NewFloat(3)
	for _, f := range allFloats() {
		x := new(big.Float).SetPrec(53).SetInt64(int64(impl.ValueOf(f.Digits)))
		for range f.Exp {
			x.Mul(x, three)
		}
		for range -f.Exp {
			x.Quo(x, three)
		}
		if want, _ := x.Float32(); impl.SingleOf(f) != want {
			t.Fatalf("SingleOf(%v) = %v, not %v", f, impl.SingleOf(f), want)
		}
	}
}

func TestSinglesKeepTheOrder(t *testing.T) {
	floats := allFloats()
	for i := range floats[1:] {
		if impl.SingleOf(floats[i]) >= impl.SingleOf(floats[i+1]) {
			t.Fatalf("SingleOf(%v) is not less than that of %v", floats[i], floats[i+1])
		}
	}
}

func TestTextsAreReadBack(t *testing.T) {
	seen := map[string]bool{}
	for _, f := range allFloats() {
		text := impl.FormatFloat(f)
		back, ok := impl.ParseFloat(text)
		if !ok || impl.CompareFloats(back, f) != 0 || back.Exp != f.Exp || seen[text] {
			t.Fatalf("%v has the text %q, which is read as %v, %v", f, text, back, ok)
		}
		seen[text] = true
	}
}
