package tests

// What chapter 6 specifies for all arguments (promise P11): literal results, edge cases, invalid arguments, and memory that is neither shared nor modified.

import (
	"math"
	"strings"
	"testing"

	"loop.example/g03225/impl"
)

// floatOfText returns the zero value, which is no float, for the empty text.
func floatOfText(text string) impl.Floating {
	f, _ := impl.ParseFloat(text)
	return f
}

// checkFloatText returns a function that expects the float with the given text
// and true, or the zero value and false if the text is empty.
func checkFloatText(t *testing.T, name string, want string, arguments ...any) func(f impl.Floating, ok bool) {
	t.Helper()
	return func(f impl.Floating, ok bool) {
		t.Helper()
		if ok != (want != "") || impl.FormatFloat(f) != want || want == "" && !isNoFloat(f) {
			t.Errorf("%s of %v: %v, %v, not %q", name, arguments, f, ok, want)
		}
	}
}

func TestFloatConstants(t *testing.T) {
	if impl.FloatTrits != 6 || impl.MaxExp != 20 {
		t.Errorf("FloatTrits is %d, and MaxExp %d", impl.FloatTrits, impl.MaxExp)
	}
}

func TestFloatsOfNumbers(t *testing.T) {
	for _, x := range []struct {
		n, e int
		want string
	}{
		{0, 0, "000000x0"}, {0, 100, "000000x0"}, {0, -100, "000000x0"}, {1, 0, "+00000x-5"}, {-1, 0, "-00000x-5"}, {2, 0, "+-0000x-4"}, {5, 0, "+--000x-3"},
		{364, 0, "++++++x0"}, {365, 0, "+-----x1"}, {-365, 0, "-+++++x1"}, {366, 0, "+-----x1"}, {1093, 0, "++++++x1"}, {1094, 0, "+-----x2"}, {-1094, 0, "-+++++x2"}, {1000, 0, "++0+00x1"}, {123456789, -10, "+00--+x2"},
		{1, 25, "+00000x20"}, {1, 26, ""}, {1, -15, "+00000x-20"}, {1, -16, ""}, {364, 20, "++++++x20"}, {364, 21, ""}, {365, 19, "+-----x20"}, {365, 20, ""}, {-365, 20, ""},
		{364, -20, "++++++x-20"}, {122, -20, "+-----x-20"}, {121, -20, ""}, {-121, -20, ""}, {121, -19, "+++++0x-20"},
		{limitOfMaxWord, 0, ""}, {limitOfMaxWord, -3, ""}, {limitOfMaxWord, -4, "++++++x20"}, {-limitOfMaxWord, -4, "------x20"}, {limitOfMaxWord, -44, "++++++x-20"}, {limitOfMaxWord, -45, ""},
		{1, 100, ""}, {-1, -100, ""}, {limitOfMaxWord, -100, ""}, {51472783023662, -10, "+-+-+-x14"}, {68630377364882, -29, "+00000x-5"}, {68630377364761, -24, "+00000x0"},
	} {
		checkFloatText(t, "FloatOf", x.want, x.n, x.e)(impl.FloatOf(x.n, x.e))
	}
}

// noPowers has numbers that no power of 3 has as its exponent here.
var noPowers = []int{101, -101, 102, -102, 120, -120, 121, -121, 256, 1 << 32, -1 << 32, 1<<32 + 1, math.MaxInt, math.MaxInt - 1, math.MaxInt - 24, math.MinInt, math.MinInt + 1, math.MinInt + 20}

func TestNumbersWithoutAFloat(t *testing.T) {
	for _, n := range badNumbers {
		for _, e := range append([]int{0, 1, -1, -25, -30, -40, 100, -100}, noPowers...) {
			checkFloatText(t, "FloatOf", "", n, e)(impl.FloatOf(n, e))
		}
	}
	for _, e := range noPowers {
		for _, n := range []int{0, 1, -1, 364, limitOfMaxWord, -limitOfMaxWord} {
			checkFloatText(t, "FloatOf", "", n, e)(impl.FloatOf(n, e))
		}
		for _, text := range []string{"000000x0", "+00000x0", "++++++x20", "-+-+-+x-20", "+0-+0-x7"} {
			checkFloatText(t, "ScaleFloat", "", text, e)(impl.ScaleFloat(floatOfText(text), e))
		}
	}
}

func TestScaledAndNegativeFloats(t *testing.T) {
	for _, x := range []struct {
		text string
		by   int
		want string
	}{
		{"000000x0", 0, "000000x0"}, {"000000x0", 100, "000000x0"}, {"000000x0", -100, "000000x0"}, {"+0-+0-x3", 0, "+0-+0-x3"}, {"+0-+0-x3", 17, "+0-+0-x20"}, {"+0-+0-x3", 18, ""}, {"+0-+0-x3", 100, ""},
		{"+0-+0-x3", -23, "+0-+0-x-20"}, {"+0-+0-x3", -24, ""}, {"+0-+0-x3", -100, ""}, {"-00000x20", -40, "-00000x-20"}, {"-00000x20", -41, ""}, {"-00000x-20", 40, "-00000x20"}, {"-00000x-20", 41, ""}, {"+00000x-20", 100, ""}, {"+00000x20", -100, ""}, {"++++++x20", 1, ""}, {"++++++x-20", -1, ""},
	} {
		checkFloatText(t, "ScaleFloat", x.want, x.text, x.by)(impl.ScaleFloat(floatOfText(x.text), x.by))
	}
	for _, x := range []struct{ text, want string }{
		{"000000x0", "000000x0"}, {"+00000x-20", "-00000x-20"}, {"-+0+-0x20", "+-0-+0x20"}, {"++++++x0", "------x0"},
	} {
		if got := impl.NegateFloat(floatOfText(x.text)); impl.FormatFloat(got) != x.want {
			t.Errorf("NegateFloat(%s) = %v", x.text, got)
		}
	}
}

func TestComparedFloats(t *testing.T) {
	ascending := []string{
		"------x20", "-0000-x20", "-00000x20", "-+++++x20", "------x19", "-----0x0", "-+++++x0", "------x-1", "-+++++x-20", "000000x0",
		"+-----x-20", "+-----x-19", "++++++x-19", "+-----x-1", "++++++x-1", "+-----x0", "+----0x0", "+0000-x0", "+00000x0", "++++++x0", "+-----x5", "++++++x5", "+-----x20", "++++++x20",
	}
	for i, a := range ascending {
		for j, b := range ascending {
			if got := impl.CompareFloats(floatOfText(a), floatOfText(b)); got != impl.SignOf(i-j) {
				t.Errorf("CompareFloats(%s, %s) = %d", a, b, got)
			}
		}
	}
}

func TestSumsAndDifferencesOfFloats(t *testing.T) {
	for _, x := range []struct{ a, b, sum, difference string }{
		{"+00000x-5", "+00000x-5", "+-0000x-4", "000000x0"}, {"++++++x20", "+00000x14", "++++++x20", "++++++x20"}, {"++++++x20", "+00000x15", "", "+++++0x20"}, {"++++++x19", "+00000x14", "+-----x20", "+++++0x19"}, {"++++++x0", "+00000x-5", "+-----x1", "+++++0x0"},
		{"+00000x-20", "-00000x-20", "000000x0", "+-0000x-19"}, {"+00000x-20", "-0000+x-20", "", "+-0000x-19"}, {"+00000x-20", "++++++x-20", "+-++++x-19", ""}, {"+-----x-20", "-00000x-20", "", "+-----x-19"}, {"+-----x-20", "-+++++x-20", "000000x0", "+0000+x-20"},
		{"+00000x6", "------x0", "+00000x6", "+00000x6"}, {"+00000x5", "------x0", "+0000-x5", "+0000+x5"}, {"+00000x6", "-+++++x0", "+00000x6", "+00000x6"}, {"+00000x5", "-+++++x0", "+0000-x5", "+0000+x5"},
		{"+00000x20", "------x-20", "+00000x20", "+00000x20"}, {"+00000x20", "-00000x-4", "+00000x20", "+00000x20"}, {"+00000x20", "++++++x-5", "+00000x20", "+00000x20"}, {"+-----x1", "------x0", "+-0000x-4", "+00000x1"}, {"+-----x7", "------x1", "+-----x7", "+-----x7"}, {"+-----x6", "------x1", "+++++-x5", "+----0x6"},
		{"+0-+0-x3", "000000x0", "+0-+0-x3", "+0-+0-x3"}, {"000000x0", "+0-+0-x-20", "+0-+0-x-20", "-0+-0+x-20"}, {"000000x0", "+0-+0-x20", "+0-+0-x20", "-0+-0+x20"}, {"000000x0", "000000x0", "000000x0", "000000x0"},
		{"+0+0+0x2", "-++0-0x1", "+0-++-x2", "++0-++x2"}, {"++++++x20", "++++++x20", "", "000000x0"}, {"------x20", "-00000x20", "", "-----0x19"}, {"+-----x-20", "+-----x-20", "+0000+x-20", "000000x0"}, {"+0-+-+x4", "-+0+-0x3", "+-0+00x4", "+0++--x4"},
	} {
		a, b := floatOfText(x.a), floatOfText(x.b)
		checkFloatText(t, "AddFloats", x.sum, x.a, x.b)(impl.AddFloats(a, b))
		checkFloatText(t, "AddFloats", x.sum, x.b, x.a)(impl.AddFloats(b, a))
		checkFloatText(t, "SubFloats", x.difference, x.a, x.b)(impl.SubFloats(a, b))
	}
}

func TestProductsOfFloats(t *testing.T) {
	for _, x := range []struct{ a, b, want string }{
		{"+-0000x-4", "+--000x-3", "+0+000x-3"}, {"+-+000x-3", "-+-000x-3", "-++--0x-1"}, {"++++++x0", "++++++x0", "+-+-+-x6"}, {"++++++x0", "+-----x0", "+-+-+0x5"}, {"+-----x0", "+-----x0", "+-+-++x4"},
		{"++++++x7", "++++++x7", "+-+-+-x20"}, {"++++++x7", "++++++x8", ""}, {"------x7", "++++++x8", ""}, {"+-----x10", "+-----x6", "+-+-++x20"}, {"+-----x10", "+-----x7", ""}, {"++++++x20", "++++++x20", ""},
		{"+00000x-10", "+00000x-15", "+00000x-20"}, {"+00000x-10", "+00000x-16", ""}, {"+-----x-13", "+-----x-12", ""}, {"-00000x-20", "+00000x-20", ""}, {"-+0+-0x7", "+--+0+x2", "-0--00x13"},
		{"+00000x20", "+00000x-20", "+00000x5"}, {"++++++x20", "------x-20", "-+-+-+x6"}, {"-0-0-0x3", "+-+-+-x-9", "-0+++0x-1"}, {"000000x0", "++++++x20", "000000x0"}, {"------x-20", "000000x0", "000000x0"}, {"000000x0", "000000x0", "000000x0"},
	} {
		checkFloatText(t, "MulFloats", x.want, x.a, x.b)(impl.MulFloats(floatOfText(x.a), floatOfText(x.b)))
		checkFloatText(t, "MulFloats", x.want, x.b, x.a)(impl.MulFloats(floatOfText(x.b), floatOfText(x.a)))
	}
}

// TestQuotientsOfFloats begins with 1/2, -1/2, 1/-2 and -1/-2, where the rule
// for the remainder tells which of two quotients is taken.
func TestQuotientsOfFloats(t *testing.T) {
	for _, x := range []struct{ a, b, want string }{
		{"+00000x-5", "+-0000x-4", "++++++x-6"}, {"-00000x-5", "+-0000x-4", "-+++++x-5"}, {"+00000x-5", "-+0000x-4", "------x-6"}, {"-00000x-5", "-+0000x-4", "+-----x-5"},
		{"+00000x-5", "+0+000x-3", "+0-0+0x-7"}, {"+00000x-5", "+--000x-3", "+--++-x-6"}, {"+-+000x-3", "+--000x-3", "+++--+x-5"}, {"+-+000x-3", "+-0000x-4", "+0++++x-4"}, {"-+-000x-3", "+-0000x-4", "--++++x-4"}, {"-+-000x-3", "+0+000x-3", "-+0-0+x-5"},
		{"+00000x20", "+00000x-5", "+00000x20"}, {"+00000x20", "+00000x-6", ""}, {"+00000x20", "++++++x-6", ""}, {"++++++x20", "+-----x-4", "+0000-x20"}, {"++++++x20", "+-----x-5", ""}, {"++++++x19", "+-----x-5", "+0000-x20"}, {"++++++x20", "-00000x-20", ""},
		{"+00000x-20", "+00000x-5", "+00000x-20"}, {"+00000x-20", "+00000x-4", ""}, {"++++++x-20", "+-----x-5", "+0000-x-19"}, {"+-----x-20", "++++++x-6", "+0000+x-20"}, {"+-----x-20", "++++++x-5", ""}, {"-00000x-20", "+00000x20", ""},
		{"-+0+-0x7", "+--+0+x2", "-0-+00x0"}, {"++++++x20", "------x20", "-00000x-5"}, {"+-----x3", "++++++x3", "+0000+x-6"}, {"000000x0", "+0-+0-x-20", "000000x0"}, {"000000x0", "------x20", "000000x0"},
		{"000000x0", "000000x0", ""}, {"+00000x0", "000000x0", ""}, {"------x-20", "000000x0", ""}, {"++++++x20", "000000x0", ""},
	} {
		checkFloatText(t, "DivFloats", x.want, x.a, x.b)(impl.DivFloats(floatOfText(x.a), floatOfText(x.b)))
	}
}

func TestWholeAndSingleNumbers(t *testing.T) {
	for _, x := range []struct {
		text   string
		whole  int
		single float32
	}{
		{"000000x0", 0, 0}, {"+00000x-5", 1, 1}, {"-00000x-5", -1, -1}, {"++++++x0", 364, 364}, {"------x0", -364, -364}, {"++++++x20", 1269189521964, 0x1.278198p+40}, {"------x20", -1269189521964, -0x1.278198p+40}, {"+-----x20", 425387696922, 0x1.8c2c54p+38},
		{"++++++x-5", 1, 0x1.7f7926p+0}, {"+-----x-5", 1, 0x1.010db2p-1}, {"++++++x-6", 0, 0x1.ff4c34p-2}, {"+-----x-6", 0, 0x1.56bceep-3}, {"------x-6", 0, -0x1.ff4c34p-2}, {"++++++x-7", 0, 0x1.54dd78p-3}, {"++++++x-20", 0, 0x1.c05e9ep-24}, {"------x-20", 0, -0x1.c05e9ep-24}, {"+-----x-20", 0, 0x1.2c8e32p-25},
		{"+-0+-+x-3", 6, 0x1.9097b4p+2}, {"-+0-+-x-3", -6, -0x1.9097b4p+2}, {"+0-+-+x-2", 25, 0x1.8c71c8p+4}, {"+--000x-3", 5, 5}, {"+-0000x-4", 2, 2}, {"+00000x-6", 0, 0x1.555556p-2}, {"+00000x-7", 0, 0x1.c71c72p-4},
		{"++-0+-x-1", 100, 0x1.8eaaaap+6}, {"+++-+-x1", 1032, 1032}, {"+0-+0-x10", 13226976, 13226976}, {"+0000+x15", 3501133308, 3501133312},
	} {
		f := floatOfText(x.text)
		if n, ok := impl.FloorFloat(f); !ok || n != x.whole {
			t.Errorf("FloorFloat(%s) = %d, %v", x.text, n, ok)
		}
		if got := impl.SingleOf(f); got != x.single {
			t.Errorf("SingleOf(%s) = %v", x.text, got)
		}
	}
	if math.Signbit(float64(impl.SingleOf(floatOfText("000000x0")))) {
		t.Error("0 has a sign")
	}
}

func TestTextsOfFloats(t *testing.T) {
	for _, x := range []struct {
		digits []int
		exp    int
		want   string
	}{
		{[]int{0, 0, 0, 0, 0, 0}, 0, "000000x0"}, {[]int{0, 0, 0, 0, 0, 1}, 0, "+00000x0"}, {[]int{1, 0, -1, 0, 0, -1}, -1, "-00-0+x-1"}, {[]int{1, 1, 1, 1, 1, 1}, 20, "++++++x20"}, {[]int{-1, -1, -1, -1, -1, -1}, -20, "------x-20"}, {[]int{0, 1, 0, 1, 0, 1}, 10, "+0+0+0x10"}, {[]int{0, 1, 0, 1, 0, 1}, -9, "+0+0+0x-9"},
	} {
		f := impl.Floating{Digits: x.digits, Exp: x.exp}
		if got := impl.FormatFloat(f); got != x.want || !impl.IsFloat(f) {
			t.Errorf("FormatFloat(%v) = %q", f, got)
		}
		back, ok := impl.ParseFloat(x.want)
		if !ok || back.Exp != x.exp || impl.FormatWord(back.Digits) != impl.FormatWord(x.digits) {
			t.Errorf("ParseFloat(%q) = %v, %v", x.want, back, ok)
		}
	}
}

func TestTextsThatAreNoFloats(t *testing.T) {
	texts := []string{
		"", "x", "0", "x0", "0x0", "000000", "000000x", "000000x-", "+00000", "+00000x", "+00000x-", "+00000x+", "+00000 0", "+000000", "+00000X0", "+00000e0", "+00000*0", "+00000×0",
		"000000x-0", "000000x+0", "000000x00", "000000x1", "000000x-1", "000000x20", "0+0000x0", "0+0000x-5", "00000+x0", "0-----x3", "00000-x-20",
		"+00000x+0", "+00000x-0", "+00000x00", "+00000x01", "+00000x-01", "+00000x+1", "+00000x--1", "+00000x+-1", "+00000x020", "+00000x1_0", "+00000x1.0", "+00000x1e1", "+00000x0x1", "+00000x0b1", "+00000x٣", "+00000x1 ", "+00000x 1", " +00000x1", "+00000x1\n", "+00000x1\x00", "+00000x\xff", "\xff+00000x1", "+00000x1x", "+00000x1x2", "+00000xx1", "x+00000x1", "+00000x1x1", "+00000xx", "xxxxxxxxx", "+x-x0x1",
		"+00000x21", "+00000x-21", "+00000x99", "+00000x100", "+00000x256", "+00000x4294967296", "+00000x4294967297", "+00000x9223372036854775807", "+00000x-9223372036854775808", "+00000x9223372036854775808", "+00000x18446744073709551616", "+00000x18446744073709551617", "+00000x-18446744073709551615",
		"+x0", "+0000x0", "+000000x0", "00000x0", "0000000x0", "+0000000000000000000000000000x0", strings.Repeat("0", 31) + "x0", "+0000 x0", "+0000ax0", "+0000\x00x0", "+0000\xffx0", "+0000*x0", "+0000,x0", "+0000.x0", "+0000/x0", "+00001x0", "−00000x0", "+0000−x0", "+00000x−1", "+00000x" + strings.Repeat("0", 1000), "+00000x" + strings.Repeat("1", 1000), strings.Repeat("+00000x0", 1000),
	}
	for b := range 256 {
		if !strings.ContainsRune("0123456789", rune(b)) {
			texts = append(texts, "+00000x"+string([]byte{byte(b)}))
		}
		if b != '+' && b != '-' {
			texts = append(texts, string([]byte{byte(b)})+"00000x5")
		}
		if b != 'x' {
			texts = append(texts, "+00000"+string([]byte{byte(b)})+"5")
		}
		if b != '1' && b != '2' {
			texts = append(texts, "+00000x"+string([]byte{byte(b)})+"0")
		}
	}
	for _, text := range texts {
		checkFloatText(t, "ParseFloat", "", text)(impl.ParseFloat(text))
	}
}

// noFloats returns floats that are not valid, each for one reason only: by
// their digits, by a highest trit 0, or by their exponents.
func noFloats() []impl.Floating {
	var floats []impl.Floating
	for _, bad := range noWords() {
		floats = append(floats, impl.Floating{Digits: bad}, impl.Floating{Digits: bad, Exp: -5})
	}
	for k := 1; k <= impl.MaxWord; k++ {
		if k != impl.FloatTrits {
			floats = append(floats, impl.Floating{Digits: repeated(1, k)}, impl.Floating{Digits: repeated(0, k)}, impl.Floating{Digits: repeated(-1, 32)[:k], Exp: 3})
		}
	}
	for i := range impl.FloatTrits {
		for _, bad := range notTrits {
			digits := repeated(1, impl.FloatTrits)
			digits[i] = bad
			floats = append(floats, impl.Floating{Digits: digits})
		}
		if i < impl.FloatTrits-1 {
			digits := repeated(0, impl.FloatTrits)
			digits[i] = 1
			floats = append(floats, impl.Floating{Digits: digits}, impl.Floating{Digits: digits, Exp: i - 5}, impl.Floating{Digits: digits, Exp: -20}, impl.Floating{Digits: digits, Exp: 20})
		}
	}
	for _, exp := range []int{1, -1, 20, -20, 21, -21} {
		floats = append(floats, impl.Floating{Digits: repeated(0, impl.FloatTrits), Exp: exp})
	}
	for _, exp := range append([]int{21, -21, 22, -22, 25, -25, 40, -40, 100, -100}, noPowers...) {
		for _, trit := range trits {
			floats = append(floats, impl.Floating{Digits: repeated(trit, impl.FloatTrits), Exp: exp})
		}
		floats = append(floats, impl.Floating{Digits: []int{0, 0, 0, 0, 0, -1}, Exp: exp})
	}
	return floats
}

func TestSingleFloatsThatAreNotValid(t *testing.T) {
	for _, bad := range noFloats() {
		if impl.IsFloat(bad) || impl.FormatFloat(bad) != "" || impl.SingleOf(bad) != 0 || !isNoFloat(impl.NegateFloat(bad)) {
			t.Errorf("%v passes as a float", bad)
		}
		if n, ok := impl.FloorFloat(bad); ok || n != 0 {
			t.Errorf("FloorFloat(%v) = %d, %v", bad, n, ok)
		}
		for _, by := range append([]int{0, 1, -1, 5, -5, 20, -20, 100, -100}, noPowers...) {
			checkFloatText(t, "ScaleFloat", "", bad, by)(impl.ScaleFloat(bad, by))
		}
	}
}

// checkNoPair expects false from each function of two floats, and that they
// are not compared.
func checkNoPair(t *testing.T, a impl.Floating, b impl.Floating) {
	t.Helper()
	checkFloatText(t, "AddFloats", "", a, b)(impl.AddFloats(a, b))
	checkFloatText(t, "SubFloats", "", a, b)(impl.SubFloats(a, b))
	checkFloatText(t, "MulFloats", "", a, b)(impl.MulFloats(a, b))
	checkFloatText(t, "DivFloats", "", a, b)(impl.DivFloats(a, b))
	if got := impl.CompareFloats(a, b); got != 0 {
		t.Errorf("CompareFloats(%v, %v) = %d", a, b, got)
	}
}

func TestPairsOfFloatsThatAreNotValid(t *testing.T) {
	for _, bad := range noFloats() {
		for _, text := range []string{"000000x0", "+00000x-5", "------x20", "+-----x-20", "+0-+0-x0"} {
			checkNoPair(t, bad, floatOfText(text))
			checkNoPair(t, floatOfText(text), bad)
		}
		checkNoPair(t, bad, bad)
		checkNoPair(t, bad, impl.Floating{})
		checkNoPair(t, impl.Floating{}, bad)
	}
}

// digitsOf returns the digits of a float that a function returns.
func digitsOf(f impl.Floating, _ bool) [][]int { return [][]int{f.Digits} }

// floatFunctions has each function of the chapter that takes floats, with the
// digits of its result, for valid results and for others.
var floatFunctions = map[string]func(a impl.Floating, b impl.Floating) [][]int{
	"IsFloat":            func(a, b impl.Floating) [][]int { impl.IsFloat(a); return nil },
	"NegateFloat":        func(a, b impl.Floating) [][]int { return digitsOf(impl.NegateFloat(a), true) },
	"CompareFloats":      func(a, b impl.Floating) [][]int { impl.CompareFloats(a, b); return nil },
	"ScaleFloat":         func(a, b impl.Floating) [][]int { return digitsOf(impl.ScaleFloat(a, 2)) },
	"ScaleFloat, by 0":   func(a, b impl.Floating) [][]int { return digitsOf(impl.ScaleFloat(a, 0)) },
	"ScaleFloat, false":  func(a, b impl.Floating) [][]int { return digitsOf(impl.ScaleFloat(a, 50)) },
	"AddFloats":          func(a, b impl.Floating) [][]int { return digitsOf(impl.AddFloats(a, b)) },
	"AddFloats, twice":   func(a, b impl.Floating) [][]int { return digitsOf(impl.AddFloats(b, b)) },
	"AddFloats, zero":    func(a, b impl.Floating) [][]int { return digitsOf(impl.AddFloats(a, floatWith(0, 0))) },
	"AddFloats, of zero": func(a, b impl.Floating) [][]int { return digitsOf(impl.AddFloats(floatWith(0, 0), a)) },
	"AddFloats, far":     func(a, b impl.Floating) [][]int { return digitsOf(impl.AddFloats(a, floatWith(122, -20))) },
	"SubFloats":          func(a, b impl.Floating) [][]int { return digitsOf(impl.SubFloats(a, b)) },
	"SubFloats, zero":    func(a, b impl.Floating) [][]int { return digitsOf(impl.SubFloats(a, a)) },
	"SubFloats, of zero": func(a, b impl.Floating) [][]int { return digitsOf(impl.SubFloats(floatWith(0, 0), a)) },
	"MulFloats":          func(a, b impl.Floating) [][]int { return digitsOf(impl.MulFloats(a, b)) },
	"MulFloats, one":     func(a, b impl.Floating) [][]int { return digitsOf(impl.MulFloats(a, floatWith(243, -5))) },
	"DivFloats":          func(a, b impl.Floating) [][]int { return digitsOf(impl.DivFloats(a, b)) },
	"DivFloats, one":     func(a, b impl.Floating) [][]int { return digitsOf(impl.DivFloats(a, floatWith(243, -5))) },
	"DivFloats, false":   func(a, b impl.Floating) [][]int { return digitsOf(impl.DivFloats(a, floatWith(0, 0))) },
	"FloorFloat":         func(a, b impl.Floating) [][]int { impl.FloorFloat(a); return nil },
	"SingleOf":           func(a, b impl.Floating) [][]int { impl.SingleOf(a); return nil },
	"FormatFloat":        func(a, b impl.Floating) [][]int { impl.FormatFloat(a); return nil },
	"FloatOf":            func(a, b impl.Floating) [][]int { return digitsOf(impl.FloatOf(1000, 3)) },
	"FloatOf, of zero":   func(a, b impl.Floating) [][]int { return digitsOf(impl.FloatOf(0, 3)) },
	"ParseFloat":         func(a, b impl.Floating) [][]int { return digitsOf(impl.ParseFloat("+--0+0x-7")) },
}

func TestMemoryOfFloats(t *testing.T) {
	for name, call := range floatFunctions {
		memory := []int{1, 0, -1, 1, 0, 1, -1, 0, 1, 1, 0, -1, 7, 7, 7, 7, 7, 7, 7, 7}
		checkMemory(t, name, memory, func() [][]int {
			return call(impl.Floating{Digits: memory[:6], Exp: 4}, impl.Floating{Digits: memory[6:12], Exp: 1})
		})
	}
}
