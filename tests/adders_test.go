package tests

// What chapter 4 specifies for all arguments (promise P11): literal results, edge cases, invalid arguments, and memory that is neither shared nor modified.

import (
	"math"
	"slices"
	"strings"
	"testing"

	"loop.example/g03225/impl"
)

var (
	ones    = strings.Repeat("+", 30)
	zeros   = strings.Repeat("0", 30)
	minuses = strings.Repeat("-", 30)
)

// wordOfText returns nil, which is no word, for the empty text.
func wordOfText(text string) []int {
	w, _ := impl.ParseWord(text)
	return w
}

// checkSum returns a function that expects the word with the given text, the
// number and true, or zero values if the text is empty.
func checkSum(t *testing.T, name string, want string, number int, arguments ...any) func(w []int, n int, ok bool) {
	t.Helper()
	return func(w []int, n int, ok bool) {
		t.Helper()
		if ok != (want != "") || impl.FormatWord(w) != want || len(w) != len(want) || n != number {
			t.Errorf("%s of %v: %v, %d, %v, not %q, %d", name, arguments, w, n, ok, want, number)
		}
	}
}

func TestSums(t *testing.T) {
	if impl.MaxTerms != 40 {
		t.Errorf("MaxTerms is %d", impl.MaxTerms)
	}
	for _, x := range []struct {
		a, b  string
		c     int
		want  string
		carry int
	}{
		{"++", "0+", 0, "--", 1}, {"++", "0+", 1, "-0", 1}, {"++", "0+", -1, "++", 0}, {"0", "0", 0, "0", 0}, {"0", "0", 1, "+", 0}, {"0", "0", -1, "-", 0},
		{"+", "+", 0, "-", 1}, {"+", "+", 1, "0", 1}, {"+", "+", -1, "+", 0}, {"-", "-", 0, "+", -1}, {"-", "-", -1, "0", -1}, {"+", "-", 1, "+", 0}, {"+", "-", 0, "0", 0},
		{"+-0", "-++", 0, "00+", 0}, {"000+", "++++", 0, "----", 1}, {"0++", "00+", 0, "+--", 0}, {"--0", "-00", 0, "+-0", -1},
		{ones, zeros, 0, ones, 0}, {ones, zeros, 1, minuses, 1}, {ones, minuses, 0, zeros, 0}, {ones, ones, 1, zeros, 1}, {minuses, minuses, -1, zeros, -1}, {minuses, zeros, -1, ones, -1}, {zeros, zeros, 0, zeros, 0},
	} {
		a, b := wordOfText(x.a), wordOfText(x.b)
		checkSum(t, "AddWords", x.want, x.carry, x.a, x.b, x.c)(impl.AddWords(a, b, x.c))
		checkSum(t, "AddWords", x.want, x.carry, x.b, x.a, x.c)(impl.AddWords(b, a, x.c))
		checkSum(t, "AddAhead", x.want, x.carry, x.a, x.b, x.c)(impl.AddAhead(a, b, x.c))
		checkSum(t, "AddAhead", x.want, x.carry, x.b, x.a, x.c)(impl.AddAhead(b, a, x.c))
	}
}

func TestDifferences(t *testing.T) {
	for _, x := range []struct {
		a, b, want string
		carry      int
	}{
		{"++", "0+", "+0", 0}, {"0+", "++", "-0", 0}, {"+", "-", "-", 1}, {"-", "+", "+", -1}, {"0", "+", "-", 0}, {"+-0", "+-0", "000", 0}, {"+-0", "-++", "++-", 0},
		{ones, minuses, strings.Repeat("0", 29) + "-", 1}, {minuses, ones, strings.Repeat("0", 29) + "+", -1}, {zeros, ones, minuses, 0}, {ones, ones, zeros, 0},
	} {
		a, b := wordOfText(x.a), wordOfText(x.b)
		checkSum(t, "SubWords", x.want, x.carry, x.a, x.b)(impl.SubWords(a, b))
	}
}

func TestCarries(t *testing.T) {
	for _, x := range []struct {
		a, b    string
		c       int
		carries []int
	}{
		{"++", "0+", 0, []int{0, 1}}, {"++", "0+", 1, []int{1, 1}}, {"++", "0+", -1, []int{-1, 0}}, {"+", "+", 1, []int{1}}, {"0", "0", 0, []int{0}}, {"-", "-", -1, []int{-1}},
		{"-+--", "-+-0", 0, []int{0, 0, -1, 0}}, {"+++", "000", 1, []int{1, 1, 1}}, {"---", "000", -1, []int{-1, -1, -1}}, {"++0", "000", 1, []int{1, 0, 0}},
		{ones, zeros, 1, repeated(1, 30)}, {ones, ones, -1, append([]int{-1, 0}, repeated(1, 28)...)}, {minuses, minuses, 0, append([]int{0}, repeated(-1, 29)...)}, {zeros, zeros, 0, repeated(0, 30)},
	} {
		carries, ok := impl.CarriesOf(wordOfText(x.a), wordOfText(x.b), x.c)
		if !ok || !slices.Equal(carries, x.carries) {
			t.Errorf("CarriesOf(%s, %s, %d) = %v, %v", x.a, x.b, x.c, carries, ok)
		}
	}
}

// checkNoCarriedSum expects false from each function that adds two words with a carry.
func checkNoCarriedSum(t *testing.T, a []int, b []int, c int) {
	t.Helper()
	checkSum(t, "AddWords", "", 0, a, b, c)(impl.AddWords(a, b, c))
	checkSum(t, "AddAhead", "", 0, a, b, c)(impl.AddAhead(a, b, c))
	checkWord(t, "CarriesOf", "", a, b, c)(impl.CarriesOf(a, b, c))
}

func TestCarriesThatAreNoTrits(t *testing.T) {
	for _, bad := range notTrits {
		checkNoCarriedSum(t, []int{0}, []int{0}, bad)
		checkNoCarriedSum(t, []int{1, 0, -1}, []int{0, 0, 1}, bad)
		checkNoCarriedSum(t, repeated(1, 30), repeated(-1, 30), bad)
		checkNoCarriedSum(t, nil, nil, bad)
	}
}

func TestSumsOfListsThatAreNoWords(t *testing.T) {
	for _, bad := range noWords() {
		for _, other := range [][]int{bad, repeated(0, len(bad)), {1}, {1, 0, -1}} {
			for _, c := range trits {
				checkNoCarriedSum(t, bad, other, c)
				checkNoCarriedSum(t, other, bad, c)
			}
			checkSum(t, "SubWords", "", 0, bad, other)(impl.SubWords(bad, other))
			checkSum(t, "SubWords", "", 0, other, bad)(impl.SubWords(other, bad))
		}
		checkWord(t, "IncrementWord", "", bad)(impl.IncrementWord(bad))
	}
}

func TestSumsOfDifferentLengths(t *testing.T) {
	for k := 1; k <= impl.MaxWord; k++ {
		for _, other := range []int{1, k - 1, k + 1, 2 * k, impl.MaxWord} {
			if other == k {
				continue
			}
			// The spare capacity would be enough for as many trits.
			a, b := repeated(1, 64)[:k], repeated(-1, 64)[:other]
			for _, c := range trits {
				checkNoCarriedSum(t, a, b, c)
			}
			checkSum(t, "SubWords", "", 0, a, b)(impl.SubWords(a, b))
		}
	}
}

func TestCarryMapsOfTrits(t *testing.T) {
	for _, x := range []struct {
		a, b int
		want impl.CarryMap
	}{
		{-1, -1, impl.CarryMap{-1, -1, 0}}, {-1, 0, impl.CarryMap{-1, 0, 0}}, {0, -1, impl.CarryMap{-1, 0, 0}}, {-1, 1, impl.CarryMap{0, 0, 0}}, {1, -1, impl.CarryMap{0, 0, 0}},
		{0, 0, impl.CarryMap{0, 0, 0}}, {0, 1, impl.CarryMap{0, 0, 1}}, {1, 0, impl.CarryMap{0, 0, 1}}, {1, 1, impl.CarryMap{0, 1, 1}},
	} {
		if got := impl.MapOf(x.a, x.b); got != x.want {
			t.Errorf("MapOf(%d, %d) = %v", x.a, x.b, got)
		}
	}
	for _, bad := range notTrits {
		for _, other := range append([]int{-1, 0, 1, -bad, 1 - bad, -1 - bad}, notTrits...) {
			if impl.MapOf(bad, other) != (impl.CarryMap{}) || impl.MapOf(other, bad) != (impl.CarryMap{}) {
				t.Errorf("MapOf(%d, %d) = %v, %v", bad, other, impl.MapOf(bad, other), impl.MapOf(other, bad))
			}
		}
	}
}

func TestJoinedCarryMaps(t *testing.T) {
	for _, x := range []struct{ f, g, want impl.CarryMap }{
		{impl.CarryMap{0, 1, 1}, impl.CarryMap{0, 1, 1}, impl.CarryMap{1, 1, 1}},
		{impl.CarryMap{-1, -1, 0}, impl.CarryMap{0, 1, 1}, impl.CarryMap{0, 0, 1}},
		{impl.CarryMap{0, 1, 1}, impl.CarryMap{-1, -1, 0}, impl.CarryMap{-1, 0, 0}},
		{impl.CarryMap{0, 0, 0}, impl.CarryMap{0, 0, 1}, impl.CarryMap{0, 0, 0}},
		{impl.CarryMap{1, 0, -1}, impl.CarryMap{0, 1, -1}, impl.CarryMap{-1, 1, 0}},
		{impl.CarryMap{1, 1, 1}, impl.CarryMap{0, 1, -1}, impl.CarryMap{-1, -1, -1}},
	} {
		if got := impl.ThenMap(x.f, x.g); got != x.want {
			t.Errorf("ThenMap(%v, %v) = %v", x.f, x.g, got)
		}
	}
}

func TestCarryMapsThatHaveNoTrits(t *testing.T) {
	for i := range (impl.CarryMap{}) {
		for _, bad := range notTrits {
			for _, f := range []impl.CarryMap{{1, 1, 1}, {-1, -1, -1}, {-1, 0, 1}, {0, 0, 0}} {
				g := f
				g[i] = bad
				for _, joined := range []impl.CarryMap{impl.ThenMap(f, g), impl.ThenMap(g, f), impl.ThenMap(g, g)} {
					if joined != (impl.CarryMap{}) {
						t.Errorf("%v and %v joined: %v", f, g, joined)
					}
				}
			}
		}
	}
}

func TestIncrements(t *testing.T) {
	for _, x := range []struct{ text, want string }{
		{"0", "+"}, {"-", "0"}, {"+", ""}, {"0+", "+-"}, {"++", ""}, {"--", "-0"}, {"-+", "0-"}, {"00", "0+"}, {"0++", "+--"}, {"-++", "0--"}, {"+-0", "+-+"},
		{ones, ""}, {minuses, strings.Repeat("-", 29) + "0"}, {"0" + strings.Repeat("+", 29), "+" + strings.Repeat("-", 29)}, {"-" + strings.Repeat("+", 29), "0" + strings.Repeat("-", 29)}, {strings.Repeat("+", 29) + "0", ones},
	} {
		checkWord(t, "IncrementWord", x.want, x.text)(impl.IncrementWord(wordOfText(x.text)))
	}
}

func TestThreeWordsAsTwo(t *testing.T) {
	for _, x := range []struct{ a, b, c, first, second string }{
		{"0+", "0+", "++", "+0", "+0"}, {"+", "+", "+", "0", "0"}, {"+", "0", "0", "+", "0"}, {"-", "-", "-", "0", "0"}, {"+", "+", "0", "-", "0"}, {"000", "000", "000", "000", "000"},
		{"+++", "+++", "+++", "000", "++0"}, {"---", "---", "000", "+++", "--0"}, {"+-0", "+-+", "0-+", "-0-", "-+0"},
		{ones, ones, ones, zeros, strings.Repeat("+", 29) + "0"}, {minuses, minuses, minuses, zeros, strings.Repeat("-", 29) + "0"}, {ones, minuses, zeros, zeros, zeros},
	} {
		first, second, ok := impl.CarrySave(wordOfText(x.a), wordOfText(x.b), wordOfText(x.c))
		if !ok || impl.FormatWord(first) != x.first || impl.FormatWord(second) != x.second {
			t.Errorf("CarrySave(%s, %s, %s) = %v, %v, %v", x.a, x.b, x.c, first, second, ok)
		}
	}
}

func checkNoSave(t *testing.T, a []int, b []int, c []int) {
	t.Helper()
	if first, second, ok := impl.CarrySave(a, b, c); ok || len(first) != 0 || len(second) != 0 {
		t.Errorf("CarrySave(%v, %v, %v) = %v, %v, %v", a, b, c, first, second, ok)
	}
}

func TestThreeListsThatAreNoWords(t *testing.T) {
	for _, bad := range noWords() {
		like := repeated(0, len(bad))
		checkNoSave(t, bad, like, like)
		checkNoSave(t, like, bad, like)
		checkNoSave(t, like, like, bad)
		checkNoSave(t, bad, bad, bad)
		checkNoSave(t, bad, []int{1}, []int{1})
	}
	for k := 1; k <= impl.MaxWord; k++ {
		for _, other := range []int{1, k - 1, k + 1, impl.MaxWord} {
			if other != k {
				word, odd := repeated(1, 64)[:k], repeated(-1, 64)[:other]
				checkNoSave(t, odd, word, word)
				checkNoSave(t, word, odd, word)
				checkNoSave(t, word, word, odd)
			}
		}
	}
}

func TestTrees(t *testing.T) {
	for _, x := range []struct {
		list   string
		want   string
		rounds int
	}{
		{"+-0", "+-0", 0}, {"0", "0", 0}, {ones, ones, 0}, {"0+ 0+", "+-", 0}, {"++ 0+", "--", 0}, {"0+ 0+ 0+", "+0", 1}, {"++ ++ ++", "+0", 1}, {"0+ 0+ 0+ 0+", "++", 2}, {"+ + + +", "+", 2},
		{"000+ 000+ 000+ 000+ 000+", "0+--", 3}, {"00+ 00- 0+0 0-0 +00 -00", "000", 3}, {ones + " " + ones, strings.Repeat("0", 29) + "-", 0},
		{ones + " " + ones + " " + ones, strings.Repeat("+", 29) + "0", 1}, {ones + " " + ones + " " + minuses, ones, 1},
	} {
		var list [][]int
		for _, text := range strings.Fields(x.list) {
			list = append(list, wordOfText(text))
		}
		checkSum(t, "TreeSum", x.want, x.rounds, x.list)(impl.TreeSum(list))
	}
}

func TestRoundsOfTrees(t *testing.T) {
	for count, rounds := range map[int]int{1: 0, 2: 0, 3: 1, 4: 2, 5: 3, 6: 3, 7: 4, 8: 4, 9: 4, 10: 5, 13: 5, 14: 6, 19: 6, 20: 7, 28: 7, 29: 8, 39: 8, 40: 8} {
		list := make([][]int, count)
		for i := range list {
			list[i] = []int{1, 0, 0, 0, 0}
		}
		want, _ := impl.WordOf(count, 5)
		checkSum(t, "TreeSum", impl.FormatWord(want), rounds, list)(impl.TreeSum(list))
	}
}

func TestListsWithoutATree(t *testing.T) {
	many := make([][]int, 1000)
	for i := range many {
		many[i] = []int{1, 0, 0}
	}
	for _, list := range [][][]int{nil, {}, make([][]int, 0, 3), make([][]int, 1), make([][]int, 3), many[:41], many[:42], many} {
		checkSum(t, "TreeSum", "", 0, list)(impl.TreeSum(list))
	}
	checkSum(t, "TreeSum", "++++", 8, many[:40])(impl.TreeSum(fourTrits(many[:40])))
	for _, count := range []int{1, 2, 3, 4, 7, 40} {
		for at := range count {
			for _, bad := range append(noWords(), []int{1}, []int{1, 0}, repeated(0, 4), repeated(1, 30)) {
				list := slices.Clone(many[:count])
				list[at] = bad
				if count > 1 || !impl.IsWord(bad) {
					checkSum(t, "TreeSum", "", 0, count, at, bad)(impl.TreeSum(list))
				}
			}
		}
	}
	for _, bad := range noWords() {
		list := [][]int{bad, bad, bad, bad}
		checkSum(t, "TreeSum", "", 0, list)(impl.TreeSum(list))
	}
}

func fourTrits(words [][]int) [][]int {
	var wide [][]int
	for _, w := range words {
		same, _ := impl.ExtendWord(w, 4)
		wide = append(wide, same)
	}
	return wide
}

func TestRedundantNumbers(t *testing.T) {
	for _, x := range []struct {
		d     []int
		value int
		word  string
	}{
		{[]int{0}, 0, "0"}, {[]int{1}, 1, "+"}, {[]int{2}, 2, ""}, {[]int{-2}, -2, ""}, {[]int{2, 1}, 5, ""}, {[]int{-2, 1}, 1, "0+"}, {[]int{2, 0}, 2, "+-"}, {[]int{2, 0, 0}, 2, "0+-"},
		{[]int{1, 0, 1}, 10, "+0+"}, {[]int{2, 2, 2}, 26, ""}, {[]int{-2, -2, 1}, 1, "00+"}, {[]int{-2, 2, 1}, 13, "+++"}, {[]int{2, -2, -1}, -13, "---"}, {[]int{1, 1, 1}, 13, "+++"}, {[]int{-1, 2, 1}, 14, ""},
		{repeated(2, 30), 2 * limitOfMaxWord, ""}, {repeated(-2, 30), -2 * limitOfMaxWord, ""}, {repeated(1, 30), limitOfMaxWord, ones}, {repeated(-1, 30), -limitOfMaxWord, minuses},
		{append(repeated(-2, 29), 2), 68630377364883 + 1, "+" + strings.Repeat("0", 28) + "+"},
	} {
		if !impl.IsRedundant(x.d) || impl.ValueRedundant(x.d) != x.value {
			t.Errorf("value of %v: %d", x.d, impl.ValueRedundant(x.d))
		}
		checkWord(t, "NormalRedundant", x.word, x.d)(impl.NormalRedundant(x.d))
	}
}

// checkRedundant returns a function that expects the digits and true, or an
// empty list and false if there are none.
func checkRedundant(t *testing.T, want []int, arguments ...any) func(d []int, ok bool) {
	t.Helper()
	return func(d []int, ok bool) {
		t.Helper()
		if ok != (len(want) > 0) || !slices.Equal(d, want) {
			t.Errorf("AddRedundant of %v: %v, %v, not %v", arguments, d, ok, want)
		}
	}
}

func TestRedundantSums(t *testing.T) {
	for _, x := range []struct{ a, b, want []int }{
		{[]int{2, 1}, []int{2, 1}, []int{1, 0, 1}}, {[]int{0}, []int{0}, []int{0, 0}}, {[]int{1}, []int{0}, []int{1, 0}}, {[]int{1}, []int{1}, []int{-1, 1}}, {[]int{2}, []int{0}, []int{-1, 1}},
		{[]int{2}, []int{1}, []int{0, 1}}, {[]int{2}, []int{2}, []int{1, 1}}, {[]int{-1}, []int{-1}, []int{1, -1}}, {[]int{-2}, []int{-1}, []int{0, -1}}, {[]int{-2}, []int{-2}, []int{-1, -1}}, {[]int{2}, []int{-2}, []int{0, 0}},
		{[]int{1, 1, 1}, []int{1, 0, 0}, []int{-1, 2, 1, 0}}, {[]int{2, 2}, []int{2, 2}, []int{1, 2, 1}}, {[]int{-2, -2}, []int{-2, -2}, []int{-1, -2, -1}}, {[]int{1, -1, 0}, []int{1, 0, 0}, []int{-1, 0, 0, 0}},
		{repeated(2, 29), repeated(2, 29), append(append([]int{1}, repeated(2, 28)...), 1)}, {repeated(1, 29), repeated(0, 29), append(repeated(1, 29), 0)}, {repeated(-2, 29), repeated(-1, 29), append([]int{0}, repeated(-1, 29)...)},
	} {
		checkRedundant(t, x.want, x.a, x.b)(impl.AddRedundant(x.a, x.b))
		checkRedundant(t, x.want, x.b, x.a)(impl.AddRedundant(x.b, x.a))
	}
}

func TestRedundantSumsThatDoNotExist(t *testing.T) {
	checkRedundant(t, nil, "30 digits")(impl.AddRedundant(repeated(0, 30), repeated(0, 30)))
	checkRedundant(t, nil, "30 digits")(impl.AddRedundant(repeated(2, 30), repeated(-2, 30)))
	for k := 1; k <= impl.MaxWord; k++ {
		for _, other := range []int{1, k - 1, k + 1, 29, impl.MaxWord} {
			if other != k {
				a, b := repeated(2, 64)[:k], repeated(-2, 64)[:other]
				checkRedundant(t, nil, a, b)(impl.AddRedundant(a, b))
			}
		}
	}
}

// noRedundants returns lists that are no redundant numbers: of wrong lengths,
// and with a wrong digit at the first, a middle and the last place.
func noRedundants() [][]int {
	lists := [][]int{nil, {}, make([]int, 0, 5), repeated(0, impl.MaxWord+1), repeated(2, impl.MaxWord+1), repeated(-2, 100)}
	for _, bad := range []int{3, -3, 4, -4, 5, 6, 256, -256, 1 << 32, 1<<32 + 2, math.MinInt, math.MinInt + 1, math.MinInt + 2, math.MaxInt, math.MaxInt - 1} {
		lists = append(lists, []int{bad}, []int{bad, 0, 2}, []int{2, bad, 0, -1}, []int{1, 0, bad}, append(repeated(1, 28), bad), append(repeated(1, 29), bad))
	}
	return lists
}

func TestListsThatAreNoRedundantNumbers(t *testing.T) {
	for _, bad := range noRedundants() {
		if impl.IsRedundant(bad) || impl.ValueRedundant(bad) != 0 {
			t.Errorf("%v passes as a redundant number: %d", bad, impl.ValueRedundant(bad))
		}
		checkWord(t, "NormalRedundant", "", bad)(impl.NormalRedundant(bad))
		for _, other := range [][]int{bad, repeated(0, len(bad)), {1}, {1, 2, 0}} {
			checkRedundant(t, nil, bad, other)(impl.AddRedundant(bad, other))
			checkRedundant(t, nil, other, bad)(impl.AddRedundant(other, bad))
		}
	}
}

// adderFunctions has each function of the chapter that takes lists, with the
// lists that it returns. All arguments have as many trits.
var adderFunctions = map[string]func(a []int, b []int, c []int) [][]int{
	"AddWords":         func(a, b, c []int) [][]int { w, _, _ := impl.AddWords(a, b, 0); return [][]int{w} },
	"AddWords=":        func(a, b, c []int) [][]int { w, _, _ := impl.AddWords(a, a, 1); return [][]int{w} },
	"SubWords":         func(a, b, c []int) [][]int { w, _, _ := impl.SubWords(a, b); return [][]int{w} },
	"CarriesOf":        func(a, b, c []int) [][]int { w, _ := impl.CarriesOf(a, b, 1); return [][]int{w} },
	"AddAhead":         func(a, b, c []int) [][]int { w, _, _ := impl.AddAhead(a, b, -1); return [][]int{w} },
	"IncrementWord":    func(a, b, c []int) [][]int { w, _ := impl.IncrementWord(a); return [][]int{w} },
	"CarrySave":        func(a, b, c []int) [][]int { x, y, _ := impl.CarrySave(a, b, c); return [][]int{x, y} },
	"CarrySave=":       func(a, b, c []int) [][]int { x, y, _ := impl.CarrySave(a, a, a); return [][]int{x, y} },
	"TreeSum 1":        func(a, b, c []int) [][]int { w, _, _ := impl.TreeSum([][]int{a}); return [][]int{w} },
	"TreeSum 2":        func(a, b, c []int) [][]int { w, _, _ := impl.TreeSum([][]int{a, b}); return [][]int{w} },
	"TreeSum 3":        func(a, b, c []int) [][]int { w, _, _ := impl.TreeSum([][]int{a, b, c}); return [][]int{w} },
	"TreeSum 5":        func(a, b, c []int) [][]int { w, _, _ := impl.TreeSum([][]int{a, b, c, a, b}); return [][]int{w} },
	"IsRedundant":      func(a, b, c []int) [][]int { impl.IsRedundant(a); return nil },
	"ValueRedundant":   func(a, b, c []int) [][]int { impl.ValueRedundant(a); return nil },
	"AddRedundant":     func(a, b, c []int) [][]int { d, _ := impl.AddRedundant(a, b); return [][]int{d} },
	"AddRedundant=":    func(a, b, c []int) [][]int { d, _ := impl.AddRedundant(a, a); return [][]int{d} },
	"NormalRedundant":  func(a, b, c []int) [][]int { w, _ := impl.NormalRedundant(a); return [][]int{w} },
	"AddWords, false":  func(a, b, c []int) [][]int { w, _, _ := impl.AddWords(a, b[:2], 0); return [][]int{w} },
	"CarrySave, false": func(a, b, c []int) [][]int { x, y, _ := impl.CarrySave(a, b, c[:3]); return [][]int{x, y} },
	"TreeSum, false":   func(a, b, c []int) [][]int { w, _, _ := impl.TreeSum([][]int{a, b, c, c[:1]}); return [][]int{w} },
}

func TestMemoryOfAdders(t *testing.T) {
	for name, call := range adderFunctions {
		memory := []int{1, 0, -1, 1, 0, -1, -1, 1, 1, -1, 0, 0, 7, 7, 7, 7, 7, 7, 7, 7}
		checkMemory(t, name, memory, func() [][]int { return call(memory[:4], memory[4:8], memory[8:12]) })
	}
}

// TestListsOfWordsStay gives a list that has more words in its spare capacity.
func TestListsOfWordsStay(t *testing.T) {
	for count := 1; count <= impl.MaxTerms; count++ {
		list := make([][]int, 60)
		for i := range list {
			list[i] = []int{i%3 - 1, i%2 - 1, 0, 0, 0}
		}
		kept, words := copyLists(list), slices.Clone(list)
		impl.TreeSum(list[:count])
		for i := range list {
			if !equalLists(list, kept) || &list[i][0] != &words[i][0] {
				t.Fatalf("TreeSum of %d words changes the list to %v", count, list)
			}
		}
	}
}
