package tests

// What chapter 3 specifies for all arguments (promise P11): literal results, edge cases, invalid arguments, and memory that is neither shared nor modified.

import (
	"math"
	"slices"
	"strings"
	"testing"

	"loop.example/g03225/impl"
)

// limitOfMaxWord is (3^30 - 1) / 2.
const limitOfMaxWord = 102945566047324

// badNumbers has the numbers next to those that have a word, and those for
// which a sum, product or negation may overflow.
var badNumbers = []int{
	limitOfMaxWord + 1, -limitOfMaxWord - 1, limitOfMaxWord + 2, 2*limitOfMaxWord + 1, 3*limitOfMaxWord + 1,
	math.MaxInt, math.MaxInt - 1, math.MinInt, math.MinInt + 1, math.MaxInt / 3, math.MinInt / 3, 1 << 62,
}

func TestLimits(t *testing.T) {
	for _, x := range []struct{ k, limit int }{{1, 1}, {2, 4}, {3, 13}, {4, 40}, {6, 364}, {9, 9841}, {20, 1743392200}, {29, 34315188682441}, {30, limitOfMaxWord}} {
		if got := impl.LimitOf(x.k); got != x.limit {
			t.Errorf("LimitOf(%d) = %d", x.k, got)
		}
	}
	for _, k := range wrongLengths {
		if got := impl.LimitOf(k); got != 0 {
			t.Errorf("LimitOf(%d) = %d", k, got)
		}
	}
}

func TestWordsOfNumbers(t *testing.T) {
	for _, x := range []struct {
		n, k int
		w    []int
	}{
		{0, 1, []int{0}}, {1, 1, []int{1}}, {-1, 1, []int{-1}}, {2, 2, []int{-1, 1}}, {-2, 2, []int{1, -1}},
		{4, 2, []int{1, 1}}, {5, 3, []int{-1, -1, 1}}, {-5, 3, []int{1, 1, -1}}, {6, 4, []int{0, -1, 1, 0}}, {0, 3, []int{0, 0, 0}},
		{13, 3, []int{1, 1, 1}}, {-13, 3, []int{-1, -1, -1}}, {100, 6, []int{1, 0, -1, 1, 1, 0}},
		{limitOfMaxWord, impl.MaxWord, repeated(1, impl.MaxWord)}, {-limitOfMaxWord, impl.MaxWord, repeated(-1, impl.MaxWord)},
	} {
		if w, ok := impl.WordOf(x.n, x.k); !ok || !slices.Equal(w, x.w) {
			t.Errorf("WordOf(%d, %d) = %v, %v", x.n, x.k, w, ok)
		}
		if got := impl.ValueOf(x.w); got != x.n {
			t.Errorf("ValueOf(%v) = %d", x.w, got)
		}
	}
}

func TestNumbersWithoutAWord(t *testing.T) {
	for k := 1; k <= impl.MaxWord; k++ {
		limit := impl.LimitOf(k)
		for _, n := range append([]int{limit + 1, -limit - 1}, badNumbers...) {
			w, ok := impl.WordOf(n, k)
			checkNone(t, "WordOf", w, ok, n, k)
		}
	}
	for _, k := range wrongLengths {
		for _, n := range append([]int{0, 1, -1, limitOfMaxWord}, badNumbers...) {
			w, ok := impl.WordOf(n, k)
			checkNone(t, "WordOf", w, ok, n, k)
		}
	}
}

// checkNone expects an empty list and false.
func checkNone(t *testing.T, name string, w []int, ok bool, arguments ...any) {
	t.Helper()
	if ok || len(w) != 0 {
		t.Errorf("%s of %v: %v, %v", name, arguments, w, ok)
	}
}

func TestLengths(t *testing.T) {
	for _, x := range []struct{ n, length int }{
		{0, 1}, {1, 1}, {-1, 1}, {2, 2}, {-2, 2}, {4, 2}, {-4, 2}, {5, 3}, {-5, 3}, {13, 3}, {14, 4}, {-14, 4}, {9841, 9}, {9842, 10},
		{34315188682441, 29}, {34315188682442, 30}, {-34315188682442, 30}, {limitOfMaxWord, 30}, {-limitOfMaxWord, 30},
	} {
		if got := impl.LengthOf(x.n); got != x.length {
			t.Errorf("LengthOf(%d) = %d", x.n, got)
		}
	}
	for _, n := range badNumbers {
		if got := impl.LengthOf(n); got != 0 {
			t.Errorf("LengthOf(%d) = %d", n, got)
		}
	}
}

func TestListsThatAreNoWords(t *testing.T) {
	word := []int{1, -1}
	for _, bad := range noWords() {
		if impl.IsWord(bad) || impl.ValueOf(bad) != 0 || impl.FormatWord(bad) != "" || impl.SignWord(bad) != 0 || impl.WeightOf(bad) != 0 || impl.SumOf(bad) != 0 {
			t.Errorf("%v passes as a word", bad)
		}
		if len(impl.NegateWord(bad)) != 0 || len(impl.ReverseWord(bad)) != 0 {
			t.Errorf("%v is negated or reversed", bad)
		}
		if impl.CompareWords(bad, word) != 0 || impl.CompareWords(word, bad) != 0 || impl.CompareWords(bad, bad) != 0 || impl.CompareWords(bad, []int{-1}) != 0 {
			t.Errorf("%v is compared", bad)
		}
		for _, k := range append([]int{1, 2, 3, 5, 29, 30}, wrongLengths...) {
			w, ok := impl.ExtendWord(bad, k)
			checkNone(t, "ExtendWord", w, ok, bad, k)
			w, ok = impl.ShiftWord(bad, k)
			checkNone(t, "ShiftWord", w, ok, bad, k)
			w, ok = impl.RoundWord(bad, k)
			checkNone(t, "RoundWord", w, ok, bad, k)
			w, ok = impl.SliceWord(bad, 0, k)
			checkNone(t, "SliceWord", w, ok, bad, 0, k)
		}
		w, ok := impl.JoinWords(bad, word)
		checkNone(t, "JoinWords", w, ok, bad, word)
		w, ok = impl.JoinWords(word, bad)
		checkNone(t, "JoinWords", w, ok, word, bad)
	}
}

// TestPartsOfListsThatAreNoWords has parts that would be words, of lists that are none.
func TestPartsOfListsThatAreNoWords(t *testing.T) {
	for _, bad := range [][]int{{1, 0, 2}, {-2, 0, 1}, repeated(1, impl.MaxWord+1), repeated(0, 1000)} {
		for _, x := range []struct{ from, to int }{{0, 1}, {0, 2}, {1, 2}, {1, 3}, {2, 3}} {
			w, ok := impl.SliceWord(bad, x.from, x.to)
			checkNone(t, "SliceWord", w, ok, bad, x.from, x.to)
		}
		for by := -len(bad) - 1; by <= 1; by++ {
			w, ok := impl.ShiftWord(bad, by)
			checkNone(t, "ShiftWord", w, ok, bad, by)
		}
	}
}

func TestTextsOfWords(t *testing.T) {
	for _, x := range []struct {
		text string
		w    []int
	}{
		{"0", []int{0}}, {"+", []int{1}}, {"-", []int{-1}}, {"+-0", []int{0, -1, 1}}, {"00-", []int{-1, 0, 0}}, {"-++", []int{1, 1, -1}},
		{strings.Repeat("+", 30), repeated(1, 30)}, {"-" + strings.Repeat("0", 29), append(repeated(0, 29), -1)},
	} {
		if got := impl.FormatWord(x.w); got != x.text {
			t.Errorf("FormatWord(%v) = %q", x.w, got)
		}
		if w, ok := impl.ParseWord(x.text); !ok || !slices.Equal(w, x.w) {
			t.Errorf("ParseWord(%q) = %v, %v", x.text, w, ok)
		}
	}
}

func TestTextsThatAreNoWords(t *testing.T) {
	texts := []string{"", " ", " +", "+ ", "+\n", "+ -", "t+", strings.Repeat("+", 31), strings.Repeat("0", 31), strings.Repeat("-", 1000), "\u2212", "+\u2212", "\xff\xfe"}
	for i := range 4 {
		for b := range 256 {
			if strings.IndexByte("+0-", byte(b)) < 0 {
				text := []byte("+0-+")
				text[i] = byte(b)
				texts = append(texts, string(text))
			}
		}
	}
	for _, text := range texts {
		w, ok := impl.ParseWord(text)
		checkNone(t, "ParseWord", w, ok, text)
	}
}

func TestSignsWeightsAndSums(t *testing.T) {
	for _, x := range []struct {
		text              string
		sign, weight, sum int
	}{
		{"0", 0, 0, 0}, {"000", 0, 0, 0}, {"+", 1, 1, 1}, {"-", -1, 1, -1}, {"+---", 1, 4, -2}, {"-+++", -1, 4, 2}, {"00-+", -1, 2, 0}, {"0+0-0", 1, 2, 0},
		{strings.Repeat("-", 30), -1, 30, -30}, {strings.Repeat("0", 29) + "+", 1, 1, 1},
	} {
		w, ok := impl.ParseWord(x.text)
		if !ok || impl.SignWord(w) != x.sign || impl.WeightOf(w) != x.weight || impl.SumOf(w) != x.sum {
			t.Errorf("%s: %d, %d, %d", x.text, impl.SignWord(w), impl.WeightOf(w), impl.SumOf(w))
		}
	}
}

func TestComparedWords(t *testing.T) {
	for _, x := range []struct {
		a, b string
		want int
	}{
		{"+-0", "-++", 1}, {"-++", "+-0", -1}, {"+", "000+", 0}, {"00", "0", 0}, {"+-", "+", 1}, {"0-", "-0", 1}, {"+--", "0++", 1}, {"+", "-+++", 1},
		{strings.Repeat("+", 30), strings.Repeat("-", 30), 1}, {strings.Repeat("-", 30), strings.Repeat("+", 30), -1},
	} {
		a, _ := impl.ParseWord(x.a)
		b, _ := impl.ParseWord(x.b)
		if got := impl.CompareWords(a, b); got != x.want {
			t.Errorf("CompareWords(%s, %s) = %d", x.a, x.b, got)
		}
	}
}

func TestExtendedWords(t *testing.T) {
	for _, x := range []struct {
		text string
		k    int
		want string
	}{
		{"+-0", 5, "00+-0"}, {"00+-0", 3, "+-0"}, {"00+-0", 2, ""}, {"+-0", 3, "+-0"}, {"000", 1, "0"}, {"0-", 1, "-"}, {"+-", 1, ""}, {"-", 30, strings.Repeat("0", 29) + "-"},
		{strings.Repeat("0", 29) + "-", 1, "-"}, {strings.Repeat("+", 30), 29, ""}, {strings.Repeat("+", 30), 31, ""},
	} {
		w, _ := impl.ParseWord(x.text)
		checkWord(t, "ExtendWord", x.want, x.text, x.k)(impl.ExtendWord(w, x.k))
	}
	for _, k := range wrongLengths {
		checkWord(t, "ExtendWord", "", "0", k)(impl.ExtendWord([]int{0}, k))
	}
}

// checkWord returns a function that expects the word with the given text and
// true, or an empty list and false if the text is empty.
func checkWord(t *testing.T, name string, want string, arguments ...any) func(w []int, ok bool) {
	t.Helper()
	return func(w []int, ok bool) {
		t.Helper()
		if ok != (want != "") || impl.FormatWord(w) != want || len(w) != len(want) {
			t.Errorf("%s of %v: %v, %v, not %q", name, arguments, w, ok, want)
		}
	}
}

func TestShiftedWords(t *testing.T) {
	for _, x := range []struct {
		text string
		by   int
		want string
	}{
		{"+-0", 0, "+-0"}, {"+-0", 2, "+-000"}, {"+-0", -1, "+-"}, {"+-0", -2, "+"}, {"+-0", -3, "0"}, {"+-0", -4, "0"}, {"+-0", math.MinInt, "0"}, {"+-0", math.MinInt + 1, "0"},
		{"+-0", -math.MaxInt, "0"}, {"-", 29, "-" + strings.Repeat("0", 29)}, {"-", 30, ""}, {"0", 30, ""}, {"+-0", 27, "+-0" + strings.Repeat("0", 27)}, {"+-0", 28, ""},
		{"+-0", math.MaxInt, ""}, {"+-0", math.MaxInt - 1, ""}, {"+-0", math.MaxInt - 3, ""}, {"00", -1, "0"}, {"0+", -1, "0"}, {"+", 1 << 32, ""}, {"+", -1 << 32, "0"},
		{strings.Repeat("+", 30), 0, strings.Repeat("+", 30)}, {strings.Repeat("+", 30), 1, ""}, {strings.Repeat("+", 30), -29, "+"}, {strings.Repeat("+", 30), -30, "0"},
	} {
		w, _ := impl.ParseWord(x.text)
		checkWord(t, "ShiftWord", x.want, x.text, x.by)(impl.ShiftWord(w, x.by))
	}
}

func TestRoundedWords(t *testing.T) {
	for _, x := range []struct {
		text string
		k    int
		want string
	}{
		{"+-+", 0, "+-+"}, {"+-+", 1, "+-0"}, {"+-+", 2, "+00"}, {"+-+", 3, "000"}, {"+-+", 4, ""}, {"+-+", -1, ""}, {"-", 1, "0"}, {"-", 2, ""},
		{"+-+", math.MaxInt, ""}, {"+-+", math.MinInt, ""}, {"+-+", 1 << 32, ""}, {"+-+", -1 << 32, ""}, {strings.Repeat("-", 30), 29, "-" + strings.Repeat("0", 29)}, {strings.Repeat("-", 30), 31, ""},
	} {
		w, _ := impl.ParseWord(x.text)
		checkWord(t, "RoundWord", x.want, x.text, x.k)(impl.RoundWord(w, x.k))
	}
}

func TestSlicedWords(t *testing.T) {
	for _, x := range []struct {
		text     string
		from, to int
		want     string
	}{
		{"+-00+", 0, 5, "+-00+"}, {"+-00+", 0, 1, "+"}, {"+-00+", 1, 4, "-00"}, {"+-00+", 4, 5, "+"}, {"+-00+", 3, 5, "+-"},
		{"+-00+", 2, 2, ""}, {"+-00+", 0, 0, ""}, {"+-00+", 5, 5, ""}, {"+-00+", 3, 2, ""}, {"+-00+", 0, 6, ""}, {"+-00+", 5, 6, ""}, {"+-00+", -1, 2, ""}, {"+-00+", -2, -1, ""},
		{"+-00+", math.MinInt, math.MaxInt, ""}, {"+-00+", 0, math.MaxInt, ""}, {"+-00+", math.MinInt, 3, ""}, {"+-00+", math.MaxInt, math.MinInt, ""}, {"+-00+", 3, math.MinInt, ""}, {"+-00+", math.MaxInt, 4, ""},
	} {
		w, _ := impl.ParseWord(x.text)
		checkWord(t, "SliceWord", x.want, x.text, x.from, x.to)(impl.SliceWord(w, x.from, x.to))
	}
}

func TestPartsStayWithinTheirSpareCapacity(t *testing.T) {
	w := []int{1, -1, 0, 1}[:2]
	checkWord(t, "SliceWord", "", w, 0, 3)(impl.SliceWord(w, 0, 3))
	checkWord(t, "SliceWord", "", w, 2, 4)(impl.SliceWord(w, 2, 4))
	checkWord(t, "RoundWord", "", w, 3)(impl.RoundWord(w, 3))
}

func TestJoinedWords(t *testing.T) {
	for _, x := range []struct{ low, high, want string }{
		{"+", "-", "-+"}, {"+-0", "0-", "0-+-0"}, {"0", "0", "00"},
		{strings.Repeat("+", 29), "-", "-" + strings.Repeat("+", 29)}, {"+", strings.Repeat("-", 29), strings.Repeat("-", 29) + "+"},
		{strings.Repeat("+", 30), "0", ""}, {"0", strings.Repeat("+", 30), ""}, {strings.Repeat("0", 16), strings.Repeat("0", 15), ""}, {strings.Repeat("+", 30), strings.Repeat("+", 30), ""},
	} {
		low, _ := impl.ParseWord(x.low)
		high, _ := impl.ParseWord(x.high)
		checkWord(t, "JoinWords", x.want, x.low, x.high)(impl.JoinWords(low, high))
	}
}

func TestReversedAndNegativeTexts(t *testing.T) {
	for _, x := range []struct{ text, reversed, negative string }{
		{"0", "0", "0"}, {"+", "+", "-"}, {"+-0", "0-+", "-+0"}, {"00-+", "+-00", "00+-"}, {strings.Repeat("+", 29) + "-", "-" + strings.Repeat("+", 29), strings.Repeat("-", 29) + "+"},
	} {
		w, _ := impl.ParseWord(x.text)
		if got := impl.FormatWord(impl.ReverseWord(w)); got != x.reversed {
			t.Errorf("%s reversed: %s", x.text, got)
		}
		if got := impl.FormatWord(impl.NegateWord(w)); got != x.negative {
			t.Errorf("negative of %s: %s", x.text, got)
		}
	}
}

// wordFunctions has each function of the chapter that takes words, with the
// words that it returns. Both arguments have as many trits.
var wordFunctions = map[string]func(a []int, b []int) []int{
	"IsWord":       func(a []int, b []int) []int { impl.IsWord(a); return nil },
	"ValueOf":      func(a []int, b []int) []int { impl.ValueOf(a); return nil },
	"FormatWord":   func(a []int, b []int) []int { impl.FormatWord(a); return nil },
	"SignWord":     func(a []int, b []int) []int { impl.SignWord(a); return nil },
	"WeightOf":     func(a []int, b []int) []int { impl.WeightOf(a); return nil },
	"SumOf":        func(a []int, b []int) []int { impl.SumOf(a); return nil },
	"CompareWords": func(a []int, b []int) []int { impl.CompareWords(a, b); return nil },
	"NegateWord":   func(a []int, b []int) []int { return impl.NegateWord(a) },
	"ReverseWord":  func(a []int, b []int) []int { return impl.ReverseWord(a) },
	"ExtendWord":   func(a []int, b []int) []int { w, _ := impl.ExtendWord(a, len(a)); return w },
	"ExtendWord+":  func(a []int, b []int) []int { w, _ := impl.ExtendWord(a, len(a)+2); return w },
	"ShiftWord":    func(a []int, b []int) []int { w, _ := impl.ShiftWord(a, 0); return w },
	"ShiftWord+":   func(a []int, b []int) []int { w, _ := impl.ShiftWord(a, 2); return w },
	"ShiftWord-":   func(a []int, b []int) []int { w, _ := impl.ShiftWord(a, -1); return w },
	"ShiftWord--":  func(a []int, b []int) []int { w, _ := impl.ShiftWord(a, -len(a)); return w },
	"RoundWord":    func(a []int, b []int) []int { w, _ := impl.RoundWord(a, 0); return w },
	"RoundWord+":   func(a []int, b []int) []int { w, _ := impl.RoundWord(a, 2); return w },
	"SliceWord":    func(a []int, b []int) []int { w, _ := impl.SliceWord(a, 0, len(a)); return w },
	"SliceWord-":   func(a []int, b []int) []int { w, _ := impl.SliceWord(a, 1, len(a)-1); return w },
	"JoinWords":    func(a []int, b []int) []int { w, _ := impl.JoinWords(a, b); return w },
	"JoinWords=":   func(a []int, b []int) []int { w, _ := impl.JoinWords(a, a); return w },
}

func TestMemoryOfWordFunctions(t *testing.T) {
	for name, call := range wordFunctions {
		memory := []int{1, 0, -1, 1, 0, -1, -1, 1, 7, 7, 7, 7, 7, 7, 7, 7}
		checkMemory(t, name, memory, func() [][]int { return [][]int{call(memory[:4], memory[4:8])} })
	}
	checkMemory(t, "WordOf", nil, func() [][]int { w, _ := impl.WordOf(5, 3); return [][]int{w} })
	checkMemory(t, "ParseWord", nil, func() [][]int { w, _ := impl.ParseWord("+--"); return [][]int{w} })
}
