package tests

// What chapter 5 specifies for all arguments (promise P11): literal results, edge cases, invalid arguments, and memory that is neither shared nor modified.

import (
	"math"
	"slices"
	"strings"
	"testing"

	"loop.example/g03225/impl"
)

// checkTwo returns a function that expects the words with the given texts and
// true, or empty lists and false if the texts are empty.
func checkTwo(t *testing.T, name string, first string, second string, arguments ...any) func(a []int, b []int, ok bool) {
	t.Helper()
	return func(a []int, b []int, ok bool) {
		t.Helper()
		checkWord(t, name+", first word,", first, arguments...)(a, ok)
		checkWord(t, name+", second word,", second, arguments...)(b, ok)
	}
}

// checkList returns a function that expects the words with the given texts,
// separated by spaces, and true, or an empty list and false if there are none.
func checkList(t *testing.T, name string, want string, arguments ...any) func(list [][]int, ok bool) {
	t.Helper()
	return func(list [][]int, ok bool) {
		t.Helper()
		var texts []string
		for _, w := range list {
			texts = append(texts, impl.FormatWord(w))
		}
		if ok != (want != "") || !slices.Equal(texts, strings.Fields(want)) {
			t.Errorf("%s of %v: %v, %v, not %q", name, arguments, list, ok, want)
		}
	}
}

func TestPartials(t *testing.T) {
	for _, x := range []struct{ a, b, want string }{
		{"+-0", "+-", "00-+0 0+-00"}, {"+-", "+-0", "00000 00-+0 0+-00"}, {"+", "+", "0+"}, {"-", "-", "0+"}, {"+", "-", "0-"}, {"-", "0", "00"}, {"0", "-+", "000 000"},
		{"-+", "+++", "000-+ 00-+0 0-+00"}, {"+++", "-+", "00+++ 0---0"}, {"+0-+", "-", "0-0+-"}, {ones[:29], "-", "0" + minuses[:29]},
	} {
		checkList(t, "PartialsOf", x.want, x.a, x.b)(impl.PartialsOf(wordOfText(x.a), wordOfText(x.b)))
	}
	var shifted []string
	for i := range 29 {
		shifted = append(shifted, zeros[:29-i]+"-"+zeros[:i])
	}
	checkList(t, "PartialsOf", strings.Join(shifted, " "))(impl.PartialsOf([]int{-1}, repeated(1, 29)))
}

func TestProducts(t *testing.T) {
	for _, x := range []struct{ a, b, want string }{
		{"+-+", "-++", "00--0+"}, {"+++", "+++", "+-0+-+"}, {"+", "+", "0+"}, {"-", "+", "0-"}, {"-", "-", "0+"}, {"-", "0", "00"}, {"000", "+-", "00000"}, {"00+", "+-", "000+-"},
		{ones[:29], "-", "0" + minuses[:29]}, {ones[:15], "+" + zeros[:14], "0" + ones[:15] + zeros[:14]}, {zeros[:15], ones[:15], zeros},
	} {
		checkWord(t, "MultiplyWords", x.want, x.a, x.b)(impl.MultiplyWords(wordOfText(x.a), wordOfText(x.b)))
		checkWord(t, "MultiplyWords", x.want, x.b, x.a)(impl.MultiplyWords(wordOfText(x.b), wordOfText(x.a)))
	}
	square, ok := impl.MultiplyWords(repeated(1, 15), repeated(1, 15))
	checkValue(t, "MultiplyWords", square, ok, 30, 51472775849209, "15 ones")
	negative, ok := impl.MultiplyWords(repeated(-1, 15), repeated(1, 15))
	checkValue(t, "MultiplyWords", negative, ok, 30, -51472775849209, "15 minus ones and 15 ones")
}

// checkNoProduct expects false from each function that multiplies two words.
func checkNoProduct(t *testing.T, a []int, b []int) {
	t.Helper()
	checkList(t, "PartialsOf", "", a, b)(impl.PartialsOf(a, b))
	checkWord(t, "MultiplyWords", "", a, b)(impl.MultiplyWords(a, b))
	for _, k := range []int{0, 1, 2, 5, len(a) + len(b) - 1, -1, math.MinInt, math.MaxInt} {
		checkWord(t, "CutProduct", "", a, b, k)(impl.CutProduct(a, b, k))
	}
}

func TestWordsThatAreTooLongForAProduct(t *testing.T) {
	for k := 1; k <= impl.MaxWord; k++ {
		for other := impl.MaxWord - k + 1; other <= impl.MaxWord; other++ {
			checkNoProduct(t, repeated(0, k), repeated(0, other))
			checkNoProduct(t, repeated(1, 64)[:k], repeated(-1, 64)[:other])
		}
		if k < impl.MaxWord {
			a, b := repeated(1, 64)[:k], repeated(1, 64)[:impl.MaxWord-k]
			product, ok := impl.MultiplyWords(a, b)
			checkValue(t, "MultiplyWords", product, ok, impl.MaxWord, impl.LimitOf(k)*impl.LimitOf(impl.MaxWord-k), k)
		}
	}
}

func TestProductsOfListsThatAreNoWords(t *testing.T) {
	for _, bad := range noWords() {
		for _, other := range [][]int{bad, {0}, {1}, {1, 0, -1}, repeated(1, 29)} {
			checkNoProduct(t, bad, other)
			checkNoProduct(t, other, bad)
		}
	}
}

func TestQuotients(t *testing.T) {
	for _, x := range []struct{ a, d, q, r string }{
		{"+-+", "+-", "0+0", "0+"}, {"-+-", "+-", "0--", "0+"}, {"+-+", "-+", "0-0", "0+"}, {"-+-", "-+", "0++", "0+"},
		{"+-", "++", "00", "+-"}, {"-+", "++", "0-", "+-"}, {"+-0", "++", "00+", "+-"}, {"-+0", "++", "0-+", "+-"}, {"+-", "--", "00", "+-"}, {"-+", "--", "0+", "+-"},
		{"-", "+-", "-", "0+"}, {"+", "+-", "0", "0+"}, {"+", "-+", "0", "0+"}, {"-", "-+", "+", "0+"}, {"+", "+", "+", "0"}, {"+", "-", "-", "0"}, {"0", "-", "0", "0"},
		{"+0", "+0", "0+", "00"}, {"++", "+0", "0+", "0+"}, {"+-", "+0", "0+", "0-"}, {"+--", "+0", "+-", "0-"},
		{"+", ones, "0", zeros[:29] + "+"}, {ones, "-", minuses, "0"}, {ones, "+", ones, "0"}, {ones, minuses, zeros[:29] + "-", zeros}, {minuses, minuses, zeros[:29] + "+", zeros},
		{ones, "+" + zeros[:15], zeros[:15] + ones[:15], "0" + ones[:15]}, {ones, ones[:29], zeros[:28] + "+0", zeros[:28] + "+"}, {zeros, "00+", zeros, "000"},
	} {
		if len(x.a) != len(x.q) {
			x.q = zeros[:len(x.a)-len(x.q)] + x.q
		}
		checkTwo(t, "DivideWords", x.q, x.r, x.a, x.d)(impl.DivideWords(wordOfText(x.a), wordOfText(x.d)))
	}
}

func TestQuotientsOfNumbers(t *testing.T) {
	for _, x := range []struct{ n, d, q, r int }{
		{7, 2, 3, 1}, {-7, 2, -4, 1}, {7, -2, -3, 1}, {-7, -2, 4, 1}, {2, 4, 0, 2}, {-2, 4, -1, 2}, {6, 4, 1, 2}, {-6, 4, -2, 2}, {5, 3, 2, -1}, {-5, 3, -2, 1}, {5, -3, -2, -1}, {-5, -3, 2, 1}, {4, 3, 1, 1},
		{limitOfMaxWord, 2, 51472783023662, 0}, {limitOfMaxWord - 1, 2, 51472783023661, 1}, {1 - limitOfMaxWord, 2, -51472783023662, 1}, {limitOfMaxWord - 1, -2, -51472783023661, 1},
		{limitOfMaxWord, 1000, 102945566047, 324}, {-limitOfMaxWord, 999983, -102947316, -151696}, {limitOfMaxWord, 7174453, 14348908, 0}, {-limitOfMaxWord, 68630377364882, -2, 34315188682440},
		{51472783023662, limitOfMaxWord, 0, 51472783023662}, {51472783023663, limitOfMaxWord, 1, -51472783023661}, {-51472783023662, limitOfMaxWord, -1, 51472783023662}, {51472783023661, limitOfMaxWord, 0, 51472783023661}, {51472783023661, 1 - limitOfMaxWord, 0, 51472783023661}, {-51472783023661, limitOfMaxWord - 1, 0, -51472783023661}, {-51472783023662, limitOfMaxWord - 1, -1, 51472783023661},
	} {
		a, _ := impl.WordOf(x.n, 30)
		d, _ := impl.WordOf(x.d, 30)
		q, r, ok := impl.DivideWords(a, d)
		checkValue(t, "quotient", q, ok, 30, x.q, x.n, x.d)
		checkValue(t, "remainder", r, ok, 30, x.r, x.n, x.d)
	}
}

func TestQuotientsThatDoNotExist(t *testing.T) {
	for k := 1; k <= impl.MaxWord; k++ {
		for _, a := range []string{"0", "+", "-+", ones} {
			checkTwo(t, "DivideWords", "", "", a, k)(impl.DivideWords(wordOfText(a), repeated(0, k)))
		}
	}
	for _, bad := range noWords() {
		for _, other := range [][]int{bad, {1}, {0}, {1, 0, -1}, repeated(1, 30)} {
			checkTwo(t, "DivideWords", "", "", bad, other)(impl.DivideWords(bad, other))
			checkTwo(t, "DivideWords", "", "", other, bad)(impl.DivideWords(other, bad))
		}
	}
}

func TestRoots(t *testing.T) {
	for _, x := range []struct{ text, root, rest string }{
		{"0", "0", "0"}, {"+", "+", "0"}, {"000", "000", "000"}, {"0+", "0+", "00"}, {"+-", "0+", "0+"}, {"+0", "+-", "0-"}, {"++", "+-", "00"},
		{"+--", "0+-", "00+"}, {"+-0", "0+-", "0+-"}, {"+-+", "0+0", "0-+"}, {"++0", "0+0", "0+0"}, {"+++", "0++", "0-0"}, {"00++0", "000+0", "000+0"}, {"+00", "0+0", "000"},
	} {
		checkTwo(t, "RootWord", x.root, x.rest, x.text)(impl.RootWord(wordOfText(x.text)))
	}
	for _, x := range []struct{ n, root, rest int }{
		{0, 0, 0}, {1, 1, 0}, {2, 1, 1}, {3, 2, -1}, {limitOfMaxWord, 10146209, 8975643}, {limitOfMaxWord - 1, 10146209, 8975642}, {20000000000000, 4472136, -402496}, {100000000000000, 10000000, 0},
		{102945557071681, 10146209, 0}, {102945546925473, 10146209, -10146208}, {102945546925472, 10146208, 10146208}, {99999990000000, 9999999, 9999999}, {99999990000001, 10000000, -9999999},
	} {
		w, _ := impl.WordOf(x.n, 30)
		root, rest, ok := impl.RootWord(w)
		checkValue(t, "root", root, ok, 30, x.root, x.n)
		checkValue(t, "rest of the root", rest, ok, 30, x.rest, x.n)
	}
}

func TestRootsThatDoNotExist(t *testing.T) {
	for _, text := range []string{"-", "0-", "-+", "--", "-++", "0-+", "000-", minuses, "-" + ones[:29], zeros[:29] + "-"} {
		checkTwo(t, "RootWord", "", "", text)(impl.RootWord(wordOfText(text)))
	}
	for _, bad := range noWords() {
		checkTwo(t, "RootWord", "", "", bad)(impl.RootWord(bad))
	}
}

func TestPowers(t *testing.T) {
	for _, x := range []struct {
		text  string
		n     int
		value int
	}{
		{"0", 0, 1}, {"000", 0, 1}, {"+", 0, 1}, {"-", 0, 1}, {ones, 0, 1}, {minuses, 0, 1}, {zeros, 0, 1}, {ones, 1, limitOfMaxWord}, {minuses, 1, -limitOfMaxWord},
		{"0", 1, 0}, {"00", 5, 0}, {"0", math.MaxInt, 0}, {"0", math.MaxInt - 1, 0}, {"+", 1, 1}, {"+", math.MaxInt, 1}, {"00+", math.MaxInt - 1, 1},
		{"-", 1, -1}, {"-", 2, 1}, {"-", 3, -1}, {"0-", math.MaxInt, -1}, {"-", math.MaxInt - 1, 1}, {"-", 1 << 32, 1}, {"-", 1<<32 + 1, -1},
		{"+-", 10, 1024}, {"+-", 46, 70368744177664}, {"-+", 45, -35184372088832}, {"-+", 46, 70368744177664}, {"+0", 29, 68630377364883}, {"-0", 29, -68630377364883}, {"00-0", 28, 22876792454961},
		{"+-+", 16, 33232930569601}, {"-+-", 15, -4747561509943}, {"+0+", 14, 100000000000000}, {"-0-", 13, -10000000000000},
	} {
		w, ok := impl.PowerWord(wordOfText(x.text), x.n)
		checkValue(t, "PowerWord", w, ok, 30, x.value, x.text, x.n)
	}
	root, _ := impl.WordOf(-10146209, 16)
	square, ok := impl.PowerWord(root, 2)
	checkValue(t, "PowerWord", square, ok, 30, 102945557071681, root)
}

// TestPowersThatDoNotExist has powers that come back into the range of words
// if they overflow.
func TestPowersThatDoNotExist(t *testing.T) {
	for _, x := range []struct {
		text string
		n    int
	}{
		{"+-", 47}, {"-+", 47}, {"+-", 48}, {"+-", 62}, {"+-", 63}, {"-+", 63}, {"+-", 64}, {"++", 24}, {"++", 32}, {"++", 33}, {"-+++", 15}, {"+--+", 16}, {"+-+", 17}, {"-0", 30}, {"+0", 40}, {"+0+", 15},
		{ones, 2}, {minuses, 2}, {minuses, 3}, {ones, 3}, {ones, 64}, {"+-", math.MaxInt}, {"-+", math.MaxInt - 1}, {"+0", 1 << 32}, {"++", 1<<32 + 1}, {"+-", 1 << 62}, {ones, math.MaxInt},
	} {
		checkWord(t, "PowerWord", "", x.text, x.n)(impl.PowerWord(wordOfText(x.text), x.n))
	}
	for _, value := range []int{10146210, 10146211, -10146210, 3037000500, 4294967296, -4294967296} {
		w, _ := impl.WordOf(value, 30)
		checkWord(t, "PowerWord", "", value, 2)(impl.PowerWord(w, 2))
	}
	for _, n := range []int{-1, -2, -3, -64, -1 << 32, math.MinInt, math.MinInt + 1} {
		for _, text := range []string{"0", "+", "-", "+-", ones} {
			checkWord(t, "PowerWord", "", text, n)(impl.PowerWord(wordOfText(text), n))
		}
	}
	for _, bad := range noWords() {
		for _, n := range []int{0, 1, 2, 30, math.MaxInt, -1, math.MinInt} {
			checkWord(t, "PowerWord", "", bad, n)(impl.PowerWord(bad, n))
		}
	}
}

func TestDivisors(t *testing.T) {
	for _, x := range []struct{ a, b, want string }{
		{"+-0", "+00", "0+0"}, {"-+0", "+00", "0+0"}, {"-+0", "-00", "0+0"}, {"0", "0", "0"}, {"00", "0", "00"}, {"0", "000", "000"}, {"0", "-++", "+--"}, {"000", "-", "00+"}, {"--", "--", "++"}, {"--", "0", "++"},
		{"+-", "+0", "0+"}, {"+", ones, zeros[:29] + "+"}, {ones, minuses, ones}, {minuses, "0", ones}, {zeros, minuses, ones}, {zeros, zeros, zeros}, {ones, ones[:15], zeros[:15] + ones[:15]}, {"++0", "++", "0++"}, {"+-", "+-+-+-", "0000+-"},
	} {
		checkWord(t, "GcdWords", x.want, x.a, x.b)(impl.GcdWords(wordOfText(x.a), wordOfText(x.b)))
		checkWord(t, "GcdWords", x.want, x.b, x.a)(impl.GcdWords(wordOfText(x.b), wordOfText(x.a)))
	}
	for _, bad := range noWords() {
		for _, other := range [][]int{bad, {0}, {1}, {1, 0, -1}, repeated(1, 30), repeated(0, 30)} {
			checkWord(t, "GcdWords", "", bad, other)(impl.GcdWords(bad, other))
			checkWord(t, "GcdWords", "", other, bad)(impl.GcdWords(other, bad))
		}
	}
}

func TestCutProducts(t *testing.T) {
	for _, x := range []struct {
		a, b string
		k    int
		want string
	}{
		{"+-+", "-++", 0, "00--0+"}, {"+-+", "-++", 1, "00--0"}, {"+-+", "-++", 2, "00--"}, {"+-+", "-++", 3, "00-"}, {"+-+", "-++", 4, "00"}, {"+-+", "-++", 5, "0"}, {"+-+", "-++", 6, ""}, {"+-+", "-++", 7, ""}, {"+-+", "-++", -1, ""},
		{"+", "-", 0, "0-"}, {"+", "-", 1, "0"}, {"+", "-", 2, ""}, {"+++", "+++", 4, "+-"}, {"+++", "+++", 5, "+"}, {ones[:29], "-", 29, "0"}, {ones[:29], "-", 28, "0-"}, {ones[:29], "-", 30, ""},
		{"+++", "+++", math.MaxInt, ""}, {"+++", "+++", math.MinInt, ""}, {"+++", "+++", 1 << 32, ""}, {"+++", "+++", -1 << 32, ""}, {"+++", "+++", math.MaxInt - 5, ""},
	} {
		checkWord(t, "CutProduct", x.want, x.a, x.b, x.k)(impl.CutProduct(wordOfText(x.a), wordOfText(x.b), x.k))
	}
}

func TestThirds(t *testing.T) {
	for _, x := range []struct {
		n, d, k int
		want    string
	}{
		{1, 4, 3, "+-+"}, {-1, 4, 3, "-+-"}, {1, 4, 1, "+"}, {-1, 4, 1, "-"}, {0, 1, 1, "0"}, {0, 1, 20, zeros[:20]}, {0, 1000000, 3, "000"}, {1, 3, 1, "+"}, {-1, 3, 2, "-0"}, {1, 3, 20, "+" + zeros[:19]}, {3, 9, 2, "+0"},
		{1, 6, 1, "0"}, {-1, 6, 1, "-"}, {1, 6, 2, "0+"}, {-1, 6, 2, "-+"}, {3, 18, 1, "0"}, {-3, 18, 1, "-"}, {5, 18, 2, "+-"}, {-5, 18, 2, "-0"}, {7, 18, 2, "+0"}, {-7, 18, 2, "--"}, {5, 12, 1, "+"},
		{1, 7, 20, "0++0--0++0--0++0--0+"}, {499999, 1000000, 20, "++++++++++++00-0++0+"}, {-499999, 1000000, 20, "------------00+0--0-"}, {499999, 999999, 20, "+++++++++++++-0+00-+"}, {499999, 999999, 1, "+"}, {-499999, 1000000, 1, "-"},
		{1, 1000000, 1, "0"}, {1, 1000000, 12, zeros[:11] + "+"}, {1, 1000000, 20, "00000000000+---+00++"}, {333333, 999999, 1, "+"},
	} {
		checkWord(t, "ThirdsOf", x.want, x.n, x.d, x.k)(impl.ThirdsOf(x.n, x.d, x.k))
	}
}

func TestThirdsThatDoNotExist(t *testing.T) {
	for _, d := range []int{0, -1, -2, -4, 1000001, 1000002, 1 << 32, 1<<32 + 4, math.MaxInt, math.MaxInt - 1, math.MinInt, math.MinInt + 1} {
		for _, n := range []int{0, 1, -1} {
			for _, k := range []int{1, 2, 20, 0} {
				checkWord(t, "ThirdsOf", "", n, d, k)(impl.ThirdsOf(n, d, k))
			}
		}
	}
	for _, k := range []int{0, -1, -2, 21, 22, 30, 31, 40, 1 << 32, 1<<32 + 1, math.MaxInt, math.MinInt, math.MinInt + 1} {
		for _, n := range []int{0, 1, -1} {
			checkWord(t, "ThirdsOf", "", n, 4, k)(impl.ThirdsOf(n, 4, k))
		}
	}
	for _, d := range []int{1, 2, 3, 4, 5, 999999, 1000000} {
		bad := []int{(d + 1) / 2, -(d + 1) / 2, (d + 2) / 2, d, -d, 3 * d, 1 << 32, -1 << 32, 1 << 62, -1 << 62, 1<<62 + 1, math.MinInt, math.MinInt + 1, math.MinInt + 2, math.MinInt / 2, math.MaxInt, math.MaxInt - 1}
		for _, n := range bad {
			for _, k := range []int{1, 7, 20} {
				checkWord(t, "ThirdsOf", "", n, d, k)(impl.ThirdsOf(n, d, k))
			}
		}
	}
}

// productFunctions has each function of the chapter that takes words, with the
// words that it returns. The value of a is not negative.
var productFunctions = map[string]func(a []int, b []int) [][]int{
	"PartialsOf":           func(a, b []int) [][]int { list, _ := impl.PartialsOf(a, b); return list },
	"PartialsOf=":          func(a, b []int) [][]int { list, _ := impl.PartialsOf(a, a); return list },
	"MultiplyWords":        func(a, b []int) [][]int { w, _ := impl.MultiplyWords(a, b); return [][]int{w} },
	"MultiplyWords=":       func(a, b []int) [][]int { w, _ := impl.MultiplyWords(a, a); return [][]int{w} },
	"MultiplyWords, one":   func(a, b []int) [][]int { w, _ := impl.MultiplyWords(a, []int{1}); return [][]int{w} },
	"DivideWords":          func(a, b []int) [][]int { q, r, _ := impl.DivideWords(a, b); return [][]int{q, r} },
	"DivideWords=":         func(a, b []int) [][]int { q, r, _ := impl.DivideWords(a, a); return [][]int{q, r} },
	"DivideWords, one":     func(a, b []int) [][]int { q, r, _ := impl.DivideWords(a, []int{1}); return [][]int{q, r} },
	"DivideWords, greater": func(a, b []int) [][]int { q, r, _ := impl.DivideWords(b, []int{0, 0, 0, 0, 1}); return [][]int{q, r} },
	"RootWord":             func(a, b []int) [][]int { r, rest, _ := impl.RootWord(a); return [][]int{r, rest} },
	"RootWord, zero":       func(a, b []int) [][]int { r, rest, _ := impl.RootWord([]int{0, 0}); return [][]int{r, rest} },
	"PowerWord":            func(a, b []int) [][]int { w, _ := impl.PowerWord(a, 3); return [][]int{w} },
	"PowerWord, 1":         func(a, b []int) [][]int { w, _ := impl.PowerWord(a, 1); return [][]int{w} },
	"GcdWords":             func(a, b []int) [][]int { w, _ := impl.GcdWords(a, b); return [][]int{w} },
	"GcdWords=":            func(a, b []int) [][]int { w, _ := impl.GcdWords(a, a); return [][]int{w} },
	"GcdWords, zero":       func(a, b []int) [][]int { w, _ := impl.GcdWords(a, []int{0}); return [][]int{w} },
	"CutProduct":           func(a, b []int) [][]int { w, _ := impl.CutProduct(a, b, 0); return [][]int{w} },
	"CutProduct+":          func(a, b []int) [][]int { w, _ := impl.CutProduct(a, b, 3); return [][]int{w} },
	"PartialsOf, false":    func(a, b []int) [][]int { list, _ := impl.PartialsOf(a, b[:0]); return list },
	"DivideWords, false":   func(a, b []int) [][]int { q, r, _ := impl.DivideWords(a, b[:1]); return [][]int{q, r} },
	"RootWord, false":      func(a, b []int) [][]int { r, rest, _ := impl.RootWord(b); return [][]int{r, rest} },
	"PowerWord, false":     func(a, b []int) [][]int { w, _ := impl.PowerWord(a, 30); return [][]int{w} },
	"CutProduct, false":    func(a, b []int) [][]int { w, _ := impl.CutProduct(a, b, len(a)+len(b)); return [][]int{w} },
}

func TestMemoryOfProducts(t *testing.T) {
	for name, call := range productFunctions {
		memory := []int{1, 0, -1, 1, 0, 1, -1, 7, 7, 7, 7, 7, 7, 7, 7}
		checkMemory(t, name, memory, func() [][]int { return call(memory[:4], memory[4:7]) })
	}
	checkMemory(t, "ThirdsOf", nil, func() [][]int { w, _ := impl.ThirdsOf(2, 7, 5); return [][]int{w} })
}
