package tests

// What chapter 10 specifies for all arguments (promise P11): literal results, edge cases, invalid arguments, and memory that is neither shared nor modified.

import (
	"math"
	"math/big"
	"math/bits"
	"slices"
	"strings"
	"testing"

	"loop.example/g03225/impl"
)

// tritsOf reads the signs of trits, the first one first, of any number.
func tritsOf(signs string) []int {
	var list []int
	for i := range len(signs) {
		list = append(list, strings.IndexByte("-0+", signs[i])-1)
	}
	return list
}

func TestSequenceConstants(t *testing.T) {
	if impl.MaxSequence != 7 || impl.MaxThue != 500 {
		t.Errorf("MaxSequence is %d, MaxThue is %d", impl.MaxSequence, impl.MaxThue)
	}
}

func TestGraySequences(t *testing.T) {
	for k, sequence := range []string{
		"",
		"- 0 +",
		"-- -0 -+ 0+ 00 0- +- +0 ++",
		"--- --0 --+ -0+ -00 -0- -+- -+0 -++ 0++ 0+0 0+- 00- 000 00+ 0-+ 0-0 0-- +-- +-0 +-+ +0+ +00 +0- ++- ++0 +++",
	} {
		for i, text := range strings.Fields(sequence) {
			checkWord(t, "GrayWord", text, i, k)(impl.GrayWord(i, k))
			if got := impl.GrayRank(wordOfText(text)); got != i {
				t.Errorf("GrayRank(%q) = %d", text, got)
			}
		}
	}
}

func TestLongGrayWords(t *testing.T) {
	for _, x := range []struct {
		i, k int
		text string
	}{
		{0, 4, "----"}, {26, 4, "-+++"}, {27, 4, "0+++"}, {40, 4, "0000"}, {53, 4, "0---"}, {54, 4, "+---"}, {80, 4, "++++"}, {13, 4, "-000"}, {67, 4, "+000"}, {41, 4, "000-"}, {39, 4, "000+"},
		{0, 30, minuses}, {1, 30, minuses[:29] + "0"}, {3, 30, minuses[:28] + "0+"}, {102945566047324, 30, zeros}, {205891132094648, 30, ones}, {205891132094647, 30, ones[:29] + "0"}, {68630377364882, 30, "-" + ones[:29]}, {68630377364883, 30, "0" + ones[:29]}, {137260754729765, 30, "0" + minuses[:29]}, {137260754729766, 30, "+" + minuses[:29]},
		{68630377364882, 29, ones[:29]}, {22876792454961, 29, "0" + ones[:28]},
	} {
		checkWord(t, "GrayWord", x.text, x.i, x.k)(impl.GrayWord(x.i, x.k))
		if got := impl.GrayRank(wordOfText(x.text)); got != x.i {
			t.Errorf("GrayRank(%q) = %d", x.text, got)
		}
	}
}

func TestGrayWordsThatDoNotExist(t *testing.T) {
	for k := 1; k <= impl.MaxWord; k++ {
		count := powers()[k]
		for _, i := range append([]int{-1, -2, -3, count, count + 1, 2 * count, 3 * count, -count, 1 - count, 1 << 60}, extremes...) {
			if i < 0 || i >= count {
				checkWord(t, "GrayWord", "", i, k)(impl.GrayWord(i, k))
			}
		}
	}
	for _, k := range wrongLengths {
		for _, i := range append([]int{-1, 0, 1, 2, 3, 205891132094648, 205891132094649}, extremes...) {
			checkWord(t, "GrayWord", "", i, k)(impl.GrayWord(i, k))
		}
	}
	for _, bad := range append(noWords(), repeated(1, 31), []int{1, 1, 2}, []int{-2, 1}) {
		if got := impl.GrayRank(bad); got != 0 {
			t.Errorf("GrayRank(%v) = %d", bad, got)
		}
	}
}

func TestRotatedWords(t *testing.T) {
	for _, x := range []struct {
		text string
		by   int
		want string
	}{
		{"-0+", 0, "-0+"}, {"-0+", 1, "+-0"}, {"-0+", 2, "0+-"}, {"-0+", 3, "-0+"}, {"-0+", 4, "+-0"}, {"-0+", -1, "0+-"}, {"-0+", -2, "+-0"}, {"-0+", -3, "-0+"}, {"-0+", -4, "0+-"}, {"-0+", 3000001, "+-0"}, {"-0+", -3000001, "0+-"},
		// 2^63 - 1 and -2^63 are 1 more than multiples of 3, and -2^63 + 1 is 2 more.
		{"-0+", math.MaxInt, "+-0"}, {"-0+", math.MinInt, "+-0"}, {"-0+", math.MaxInt - 1, "-0+"}, {"-0+", math.MinInt + 1, "0+-"},
		{"+", 0, "+"}, {"+", 1, "+"}, {"+", -1, "+"}, {"-", 7, "-"}, {"0", math.MaxInt, "0"}, {"+", math.MinInt, "+"}, {"+-", 1, "-+"}, {"+-", -1, "-+"}, {"+-", 2, "+-"}, {"+-", math.MinInt, "+-"}, {"+-", math.MaxInt, "-+"},
		{"+00000", 1, "0+0000"}, {"+00000", -1, "00000+"}, {"00000+", 1, "+00000"}, {"00000+", 5, "0000+0"}, {"++++", 3, "++++"}, {"+-+-", 2, "+-+-"}, {"+-+-", 1, "-+-+"}, {"+" + zeros[:29], 29, zeros[:29] + "+"}, {"+" + zeros[:29], 30, "+" + zeros[:29]}, {"+" + zeros[:29], -1, zeros[:29] + "+"}, {"+" + zeros[:29], -31, zeros[:29] + "+"},
	} {
		if got := impl.FormatWord(impl.RotateWord(wordOfText(x.text), x.by)); got != x.want {
			t.Errorf("RotateWord(%q, %d) is %q", x.text, x.by, got)
		}
	}
}

// rotateWord counts around by numbers that don't overflow.
func rotateWord(w []int, by int) []int {
	var rotated []int
	for i := range w {
		place := new(big.Int).Add(big.NewInt(int64(i)), big.NewInt(int64(by)))
		rotated = append(rotated, w[place.Mod(place, big.NewInt(int64(len(w)))).Int64()])
	}
	return rotated
}

func TestRotationsByAllNumbers(t *testing.T) {
	for _, w := range append(shortWords(4), longWords()...) {
		numbers := append([]int{-100, 100, -1000000007, 1000000007, math.MinInt + len(w), math.MaxInt - len(w), math.MinInt + len(w) - 1, math.MaxInt - len(w) + 1}, extremes...)
		for by := -len(w) - 1; by <= len(w)+1; by++ {
			numbers = append(numbers, by)
		}
		for _, by := range numbers {
			if got := impl.RotateWord(w, by); !slices.Equal(got, rotateWord(w, by)) {
				t.Fatalf("RotateWord(%v, %d) = %v", w, by, got)
			}
		}
	}
}

func TestNecklaces(t *testing.T) {
	// The lists are written from place 0 on.
	for _, x := range []struct {
		list, want string
		lyndon     bool
	}{
		{"-", "-", true}, {"0", "0", true}, {"+", "+", true}, {"-0", "-0", true}, {"0-", "-0", false}, {"0+", "0+", true}, {"+0", "0+", false}, {"-+", "-+", true}, {"+-", "-+", false}, {"--", "--", false}, {"00", "00", false}, {"++", "++", false},
		{"+0-", "-+0", false}, {"-+0", "-+0", true}, {"-0+", "-0+", true}, {"0+-", "-0+", false}, {"--0", "--0", true}, {"-0-", "--0", false}, {"0--", "--0", false}, {"000", "000", false}, {"+++", "+++", false}, {"---", "---", false}, {"-++", "-++", true}, {"0++", "0++", true}, {"+0+", "0++", false},
		{"-+-+", "-+-+", false}, {"+-+-", "-+-+", false}, {"-+-0", "-0-+", false}, {"-0-+", "-0-+", true}, {"-0-0", "-0-0", false}, {"0+0+0+", "0+0+0+", false}, {"-0+-0+", "-0+-0+", false}, {"-0+-0+-", "--0+-0+", false}, {"--0+-0+", "--0+-0+", true}, {"--0--0", "--0--0", false}, {"--0--+", "--0--+", true}, {"--+--0", "--0--+", false}, {"-0-0-", "--0-0", false}, {"--0-0", "--0-0", true},
		{zeros, zeros, false}, {ones, ones, false}, {minuses, minuses, false}, {minuses[:29] + "0", minuses[:29] + "0", true}, {"+" + minuses[:29], minuses[:29] + "+", false}, {zeros[:29] + "-", "-" + zeros[:29], false}, {zeros[:29] + "+", zeros[:29] + "+", true}, {"-" + ones[:29], "-" + ones[:29], true},
		{strings.Repeat("-0+", 10), strings.Repeat("-0+", 10), false}, {strings.Repeat("+-", 15), strings.Repeat("-+", 15), false}, {strings.Repeat("--0+0", 6), strings.Repeat("--0+0", 6), false}, {"0" + strings.Repeat("-0", 14) + "+", strings.Repeat("-0", 14) + "+0", false}, {strings.Repeat("-0", 14) + "-+", strings.Repeat("-0", 14) + "-+", true},
	} {
		if got := impl.NecklaceOf(tritsOf(x.list)); !slices.Equal(got, tritsOf(x.want)) {
			t.Errorf("NecklaceOf(%q) = %v", x.list, got)
		}
		if got := impl.IsLyndon(tritsOf(x.list)); got != x.lyndon {
			t.Errorf("IsLyndon(%q) = %v", x.list, got)
		}
	}
}

// necklaceOf sorts the rotations, and tells whether none but the one by 0 gives
// w.
func necklaceOf(w []int) ([]int, bool) {
	var rotations [][]int
	for by := range w {
		rotations = append(rotations, rotateWord(w, by))
	}
	again := slices.ContainsFunc(rotations[1:], func(other []int) bool { return slices.Equal(other, w) })
	slices.SortFunc(rotations, slices.Compare[[]int])
	return rotations[0], !again
}

func TestNecklacesByTheLetter(t *testing.T) {
	words := append(shortWords(7), longWords()...)
	for _, w := range shortWords(5) {
		for times := 2; times*len(w) <= impl.MaxWord; times++ {
			words = append(words, slices.Repeat(w, times))
		}
	}
	for _, w := range words {
		want, alone := necklaceOf(w)
		if got := impl.NecklaceOf(w); !slices.Equal(got, want) {
			t.Fatalf("NecklaceOf(%v) = %v", w, got)
		}
		if got := impl.IsLyndon(w); got != (alone && slices.Equal(w, want)) {
			t.Fatalf("IsLyndon(%v) = %v", w, got)
		}
	}
}

func TestListsThatAreNotRotated(t *testing.T) {
	for _, bad := range append(noWords(), append(repeated(-1, 30), 0), append(repeated(-1, 30), 1), []int{-1, 0, 2}, []int{-2, 1}, []int{-2, -1, 0}, []int{-1, 2}, []int{math.MinInt, 0}) {
		for _, by := range append([]int{-31, -2, -1, 0, 1, 2, 3, 31}, extremes...) {
			if got := impl.RotateWord(bad, by); len(got) != 0 {
				t.Errorf("RotateWord(%v, %d) = %v", bad, by, got)
			}
		}
		if got := impl.NecklaceOf(bad); len(got) != 0 || impl.IsLyndon(bad) {
			t.Errorf("NecklaceOf(%v) = %v, IsLyndon is %v", bad, got, impl.IsLyndon(bad))
		}
	}
}

// noSequences has numbers of trits for which there is no circle.
var noSequences = append([]int{0, -1, -2, -7, 8, 9, 14, 30, 64}, extremes...)

func TestLyndonWords(t *testing.T) {
	for k, lists := range []string{
		"",
		"- 0 +",
		"- -0 -+ 0 0+ +",
		"- --0 --+ -00 -0+ -+0 -++ 0 00+ 0++ +",
		"- ---0 ---+ --00 --0+ --+0 --++ -0 -0-+ -000 -00+ -0+0 -0++ -+ -+00 -+0+ -++0 -+++ 0 000+ 00++ 0+ 0+++ +",
	} {
		if k == 0 {
			continue
		}
		want := strings.Fields(lists)
		words, ok := impl.LyndonWords(k)
		isWanted := slices.EqualFunc(words, want, func(w []int, list string) bool { return slices.Equal(w, tritsOf(list)) })
		if !ok || !isWanted {
			t.Errorf("LyndonWords(%d) = %v, %v", k, words, ok)
		}
	}
	for k, want := range []int{0, 3, 6, 11, 24, 51, 130, 315} {
		if words, ok := impl.LyndonWords(k); len(words) != want || ok != (k > 0) {
			t.Errorf("LyndonWords(%d) has %d words, %v", k, len(words), ok)
		}
	}
}

// TestLyndonWordsByTheLetter takes those of all words, and sorts them.
func TestLyndonWordsByTheLetter(t *testing.T) {
	for k := 1; k <= impl.MaxSequence; k++ {
		var want [][]int
		for _, w := range shortWords(k) {
			if least, alone := necklaceOf(w); k%len(w) == 0 && alone && slices.Equal(w, least) {
				want = append(want, w)
			}
		}
		slices.SortFunc(want, slices.Compare[[]int])
		if words, ok := impl.LyndonWords(k); !ok || !equalLists(words, want) {
			t.Errorf("LyndonWords(%d) = %v, %v", k, words, ok)
		}
		if circle, ok := impl.CircleOf(k); !ok || !slices.Equal(circle, slices.Concat(want...)) {
			t.Errorf("CircleOf(%d) = %v, %v", k, circle, ok)
		}
	}
}

func TestCircles(t *testing.T) {
	for k, want := range []string{"", "-0+", "--0-+00++", "---0--+-00-0+-+0-++000+0+++"} {
		if got, ok := impl.CircleOf(k); ok != (k > 0) || !slices.Equal(got, tritsOf(want)) {
			t.Errorf("CircleOf(%d) = %v, %v", k, got, ok)
		}
	}
	for k, want := range map[int]int{4: 81, 5: 243, 6: 729, 7: 2187} {
		if got, ok := impl.CircleOf(k); !ok || len(got) != want {
			t.Errorf("CircleOf(%d) has %d trits, %v", k, len(got), ok)
		}
	}
}

func TestCirclesThatDoNotExist(t *testing.T) {
	for _, k := range append(noSequences, wrongLengths...) {
		checkList(t, "LyndonWords", "", k)(impl.LyndonWords(k))
		circle, ok := impl.CircleOf(k)
		checkNone(t, "CircleOf", circle, ok, k)
	}
}

func TestThueTrits(t *testing.T) {
	const start = "+0-+-0+0-0+-+0-+-0+-+0-0"
	for n := range len(start) + 1 {
		if got, ok := impl.ThueTrits(n); !ok || !slices.Equal(got, tritsOf(start[:n])) {
			t.Errorf("ThueTrits(%d) = %v, %v", n, got, ok)
		}
	}
	if got, ok := impl.ThueTrits(impl.MaxThue); !ok || !slices.Equal(got, thueByBits()) {
		t.Errorf("ThueTrits(%d) = %v, %v", impl.MaxThue, got, ok)
	}
	for _, n := range append([]int{-1, -2, -3, -500, 501, 502, 1000, 756}, extremes...) {
		if n >= 0 && n <= 500 {
			continue
		}
		got, ok := impl.ThueTrits(n)
		checkNone(t, "ThueTrits", got, ok, n)
	}
}

// thueByBits knows the sequence from elsewhere: the numbers with an even number
// of bits have 2, 1 or 0 numbers with an odd one before the next one of them,
// which is one more than the trit.
func thueByBits() []int {
	var list []int
	odd := 0
	for n := uint(1); len(list) < impl.MaxThue; n++ {
		if bits.OnesCount(n)%2 == 1 {
			odd++
			continue
		}
		list = append(list, odd-1)
		odd = 0
	}
	return list
}

func TestListsWithAndWithoutSquares(t *testing.T) {
	for _, x := range []struct {
		list string
		want bool
	}{
		{"", false}, {"5", false}, {"0", false}, {"5 5", true}, {"5 6", false}, {"5 6 5", false}, {"5 6 5 6", true}, {"1 2 1 2", true}, {"1 2 3 1 2", false}, {"1 2 3 1 2 3", true}, {"0 0", true}, {"1 2 3 4", false}, {"1 2 1 3 1 2 1", false},
		{"7 7 1 2 3", true}, {"1 2 3 7 7", true}, {"1 7 7 2", true}, {"1 2 3 2 3 4", true}, {"1 2 3 4 2 3 4", true}, {"1 2 1 2 3", true}, {"3 1 2 1 2", true}, {"1 2 3 2 1", false}, {"1 2 3 3 2 1", true}, {"1 2 3 4 1 2 3 5", false}, {"1 2 3 4 1 2 3 4", true}, {"9 1 2 3 4 1 2 3 4 9", true}, {"1 2 3 4 5 2 3 4 1", false},
		{"1 1 1", true}, {"-1 1 -1 1", true}, {"-1 1 -1", false}, {"1 -1", false}, {"5 -5 5 -5", true}, {"9223372036854775807 -9223372036854775808 9223372036854775807", false}, {"9223372036854775807 -9223372036854775808 9223372036854775807 -9223372036854775808", true}, {"-9223372036854775808 -9223372036854775808", true}, {"-9223372036854775808 9223372036854775807", false}, {"0 4294967296", false}, {"0 -9223372036854775808", false}, {"1 257", false}, {"1 2 257 258", false}, {"2 1000 2 1000000 2", false}, {"1 2 3 1 3 2 1 2", false}, {"1 2 3 1 3 2 1 3 2", true},
	} {
		if got := impl.HasSquare(numbersIn(x.list)); got != x.want {
			t.Errorf("HasSquare(%q) = %v", x.list, got)
		}
	}
	if impl.HasSquare([]int{}) || impl.HasSquare(make([]int, 0, 9)) || impl.HasSquare(make([]int, 1, 9)) {
		t.Error("a list has the squares of its spare capacity")
	}
}

func TestSquaresInLongLists(t *testing.T) {
	var different []int
	for n := range 3000 {
		different = append(different, n*7919-5)
	}
	if impl.HasSquare(different) {
		t.Error("numbers that are all different have a square")
	}
	if !impl.HasSquare(slices.Concat(different, different)) {
		t.Error("a long list twice has no square")
	}
	if impl.HasSquare(slices.Concat(different, different[:2999])) {
		t.Error("a long list and nearly all of it again have a square")
	}
	last := append(slices.Clone(different), different[2999])
	if !impl.HasSquare(last) {
		t.Error("no square at the end of a long list")
	}
}

func TestSquaresOfManyNumbers(t *testing.T) {
	maker := numberMaker{5}
	numbers := append([]int{0, 1, -1, 2, 3, 5, 7, 11, 13}, extremes...)
	for range 20000 {
		var list []int
		for range maker.number(14) {
			list = append(list, numbers[maker.number(len(numbers))])
		}
		if got := impl.HasSquare(list); got != hasSquare(list) {
			t.Fatalf("HasSquare(%v) = %v", list, got)
		}
	}
}

// sequenceFunctions calls the functions with the same arguments and returns
// their results.
var sequenceFunctions = map[string]func(a []int) [][]int{
	"GrayWord":             func(a []int) [][]int { w, _ := impl.GrayWord(700, 7); return [][]int{w} },
	"GrayRank":             func(a []int) [][]int { impl.GrayRank(a); return nil },
	"RotateWord":           func(a []int) [][]int { return [][]int{impl.RotateWord(a, 2)} },
	"RotateWord, by 0":     func(a []int) [][]int { return [][]int{impl.RotateWord(a, 0)} },
	"RotateWord, around":   func(a []int) [][]int { return [][]int{impl.RotateWord(a, -8)} },
	"NecklaceOf":           func(a []int) [][]int { return [][]int{impl.NecklaceOf(a)} },
	"NecklaceOf, the same": func(a []int) [][]int { return [][]int{impl.NecklaceOf(a[2:4])} },
	"NecklaceOf, one":      func(a []int) [][]int { return [][]int{impl.NecklaceOf(a[1:2])} },
	"IsLyndon":             func(a []int) [][]int { impl.IsLyndon(a); return nil },
	"IsLyndon, true":       func(a []int) [][]int { impl.IsLyndon(a[2:4]); return nil },
	"LyndonWords":          func(a []int) [][]int { words, _ := impl.LyndonWords(4); return words },
	"LyndonWords, one":     func(a []int) [][]int { words, _ := impl.LyndonWords(1); return words },
	"CircleOf":             func(a []int) [][]int { list, _ := impl.CircleOf(3); return [][]int{list} },
	"CircleOf, one":        func(a []int) [][]int { list, _ := impl.CircleOf(1); return [][]int{list} },
	"ThueTrits":            func(a []int) [][]int { list, _ := impl.ThueTrits(50); return [][]int{list} },
	"ThueTrits, one":       func(a []int) [][]int { list, _ := impl.ThueTrits(1); return [][]int{list} },
	"HasSquare":            func(a []int) [][]int { impl.HasSquare(a); return nil },
}

func TestMemoryOfSequences(t *testing.T) {
	for name, call := range sequenceFunctions {
		memory := []int{1, 0, -1, 1, 7, 7, 7, 7}
		checkMemory(t, name, memory, func() [][]int { return call(memory[:4]) })
	}
}
