package tests

// What chapter 9 specifies for all arguments (promise P11): literal results, edge cases, invalid arguments, and memory that is neither shared nor modified.

import (
	"math"
	"slices"
	"strconv"
	"strings"
	"testing"

	"loop.example/g03225/impl"
)

// pansOf reads the numbers of the left pan, a slash, and those of the right
// one.
func pansOf(text string) impl.Weighing {
	left, right, _ := strings.Cut(text, "/")
	return impl.Weighing{Left: numbersIn(left), Right: numbersIn(right)}
}

func numbersIn(text string) []int {
	var numbers []int
	for _, digits := range strings.Fields(text) {
		n, err := strconv.Atoi(digits)
		if err != nil {
			panic(err)
		}
		numbers = append(numbers, n)
	}
	return numbers
}

// wordsIn reads the words of a text that are separated by spaces. A point
// stands for an empty word.
func wordsIn(text string) [][]int {
	var words [][]int
	for _, part := range strings.Fields(text) {
		words = append(words, wordOfText(strings.Trim(part, ".")))
	}
	return words
}

// extremes has numbers that a careless range check, sum or negation would let
// through.
var extremes = []int{math.MinInt, math.MinInt + 1, math.MinInt + 2, math.MaxInt, math.MaxInt - 1, 1 << 32, 1<<32 + 1, 1<<32 + 3, -1 << 32, 1 << 62, -1 << 62, 256, -256}

func TestWeighingConstants(t *testing.T) {
	if impl.MaxWeighings != 5 {
		t.Errorf("MaxWeighings is %d", impl.MaxWeighings)
	}
}

// allExponents has those of all weights.
const allExponents = "0 1 2 3 4 5 6 7 8 9 10 11 12 13 14 15 16 17 18 19 20 21 22 23 24 25 26 27 28 29"

func TestWeighedThings(t *testing.T) {
	for _, x := range []struct {
		n    int
		pans string
	}{
		{0, "/"}, {1, "/0"}, {2, "0/1"}, {3, "/1"}, {4, "/0 1"}, {5, "0 1/2"}, {6, "1/2"}, {7, "1/0 2"}, {8, "0/2"}, {13, "/0 1 2"}, {14, "0 1 2/3"}, {40, "/0 1 2 3"}, {41, "0 1 2 3/4"}, {100, "2/0 3 4"}, {1000, "/0 3 5 6"}, {1094, "0 1 2 3 4 5 6/7"},
		{limitOfMaxWord, "/" + allExponents}, {limitOfMaxWord - 1, "/" + allExponents[2:]}, {34315188682442, strings.TrimSuffix(allExponents, " 29") + "/29"}, {34315188682441, "/" + strings.TrimSuffix(allExponents, " 29")}, {68630377364883, "/29"},
	} {
		if got, ok := impl.WeighThing(x.n); !ok || !equalWeighings(got, pansOf(x.pans)) {
			t.Errorf("WeighThing(%d) = %v, %v", x.n, got, ok)
		}
		if got, ok := impl.BalanceOf(pansOf(x.pans), x.n); !ok || got != 0 {
			t.Errorf("BalanceOf(%q, %d) = %d, %v", x.pans, x.n, got, ok)
		}
	}
}

func TestThingsThatCannotBeWeighed(t *testing.T) {
	for _, n := range append([]int{-1, -2, -3, -5, -limitOfMaxWord, -100}, append(badNumbers, extremes...)...) {
		if n >= 0 && n <= limitOfMaxWord {
			continue
		}
		if got, ok := impl.WeighThing(n); ok || len(got.Left) != 0 || len(got.Right) != 0 {
			t.Errorf("WeighThing(%d) = %v, %v", n, got, ok)
		}
	}
}

func TestBalances(t *testing.T) {
	for _, x := range []struct {
		pans string
		n    int
		want int
	}{
		{"/", 0, 0}, {"/", 1, 1}, {"/", -1, -1}, {"/", limitOfMaxWord, 1}, {"/", -limitOfMaxWord, -1}, {"0/", 0, 1}, {"/0", 0, -1}, {"0/", -1, 0}, {"/0", 1, 0}, {"0/", -2, -1}, {"/0", 2, 1},
		{"0 1/2", 5, 0}, {"1 0/2", 5, 0}, {"0 1/2", 6, 1}, {"0 1/2", 4, -1}, {"2/0 1", -5, 0}, {"2/1 0", -4, 1}, {"2/0 1", -6, -1}, {"29/", 0, 1}, {"/29", 0, -1}, {"29/28 27 26", 0, 1}, {"28/29", 45753584909921, -1}, {"28/29", 45753584909922, 0}, {"28/29", 45753584909923, 1},
		{allExponents + "/", limitOfMaxWord, 1}, {allExponents + "/", -limitOfMaxWord, 0}, {allExponents + "/", 1 - limitOfMaxWord, 1}, {"/" + allExponents, limitOfMaxWord, 0}, {"/" + allExponents, limitOfMaxWord - 1, -1}, {"/" + allExponents, -limitOfMaxWord, -1}, {"29 28/0 1 2 3", 40, 1},
	} {
		if got, ok := impl.BalanceOf(pansOf(x.pans), x.n); !ok || got != x.want {
			t.Errorf("BalanceOf(%q, %d) = %d, %v", x.pans, x.n, got, ok)
		}
	}
	empty := impl.Weighing{Left: []int{}, Right: make([]int, 0, 5)}
	if got, ok := impl.BalanceOf(empty, -7); !ok || got != -1 {
		t.Errorf("BalanceOf(%v, -7) = %d, %v", empty, got, ok)
	}
}

// checkNoBalance expects that the pans have no balance, also if exchanged.
func checkNoBalance(t *testing.T, pans impl.Weighing, n int) {
	t.Helper()
	for _, w := range []impl.Weighing{pans, {Left: pans.Right, Right: pans.Left}} {
		if got, ok := impl.BalanceOf(w, n); ok || got != 0 {
			t.Errorf("BalanceOf(%v, %d) = %d, %v", w, n, got, ok)
		}
	}
}

func TestBalancesThatDoNotExist(t *testing.T) {
	for _, n := range badNumbers {
		for _, pans := range []string{"/", "0/", "/0", "0 1/2", allExponents + "/", "29/28"} {
			checkNoBalance(t, pansOf(pans), n)
		}
	}
	for _, bad := range append([]int{-1, -2, -29, -30, 30, 31, 32, 60, 64}, extremes...) {
		for _, n := range []int{0, 1, -5, limitOfMaxWord} {
			checkNoBalance(t, impl.Weighing{Left: []int{bad}}, n)
			checkNoBalance(t, impl.Weighing{Left: []int{bad, bad}}, n)
			checkNoBalance(t, impl.Weighing{Left: []int{bad}, Right: []int{bad}}, n)
			checkNoBalance(t, impl.Weighing{Left: []int{bad, 1}, Right: []int{2}}, n)
			checkNoBalance(t, impl.Weighing{Left: []int{0, 1, bad, 3}, Right: []int{4, 5}}, n)
			checkNoBalance(t, impl.Weighing{Left: append(numbersIn(allExponents), bad)}, n)
		}
	}
	for exponent := range impl.MaxWord {
		other := (exponent + 1) % impl.MaxWord
		for _, n := range []int{0, 1, -5} {
			checkNoBalance(t, impl.Weighing{Left: []int{exponent, exponent}}, n)
			checkNoBalance(t, impl.Weighing{Left: []int{exponent}, Right: []int{exponent}}, n)
			checkNoBalance(t, impl.Weighing{Left: []int{exponent, other, exponent}}, n)
			checkNoBalance(t, impl.Weighing{Left: []int{exponent, exponent, exponent}}, n)
			checkNoBalance(t, impl.Weighing{Left: []int{other, exponent}, Right: []int{exponent}}, n)
			checkNoBalance(t, impl.Weighing{Left: []int{exponent, exponent}, Right: []int{exponent}}, n)
			checkNoBalance(t, impl.Weighing{Left: []int{other}, Right: []int{exponent, exponent}}, n)
			checkNoBalance(t, impl.Weighing{Left: numbersIn(allExponents), Right: []int{exponent}}, n)
		}
	}
	checkNoBalance(t, impl.Weighing{Left: repeated(1, 1000)}, 0)
}

// noWeighings has numbers of weighings for which there are no coins.
var noWeighings = append([]int{1, 0, -1, -2, -3, -5, 6, 7, 29, 30, 31, 64}, extremes...)

func TestNumbersOfCoins(t *testing.T) {
	for k, want := range []int{0, 0, 3, 12, 39, 120, 0} {
		if got := impl.CoinsFor(k); got != want {
			t.Errorf("CoinsFor(%d) = %d", k, got)
		}
	}
	for _, k := range noWeighings {
		if got := impl.CoinsFor(k); got != 0 {
			t.Errorf("CoinsFor(%d) = %d", k, got)
		}
	}
}

// turnsForward tells by the letter of the chapter whether a word turns forward.
func turnsForward(w []int) bool {
	for i := range len(w) - 1 {
		if w[i] != w[i+1] {
			return [3]int{0, 1, -1}[w[i]+1] == w[i+1]
		}
	}
	return false
}

func TestWordsThatTurnForward(t *testing.T) {
	for _, x := range []struct {
		text string
		want bool
	}{
		{"0-", true}, {"+0", true}, {"-+", true}, {"-0", false}, {"0+", false}, {"+-", false}, {"+", false}, {"0", false}, {"-", false}, {"++", false}, {"000", false}, {"-----", false},
		{"+-+", true}, {"-+-", false}, {"-+0", true}, {"+-0", false}, {"0--", true}, {"--0", false}, {"00--0-", true}, {"-0+++", false}, {"++0", true}, {"-++", true}, {strings.Repeat("0", 28) + "--", true}, {"0" + strings.Repeat("-", 29), true}, {"+" + strings.Repeat("-", 29), false}, {strings.Repeat("+", 30), false}, {strings.Repeat("-0+", 10), false}, {strings.Repeat("+0-", 10), true},
	} {
		if got := impl.TurnsForward(wordOfText(x.text)); got != x.want {
			t.Errorf("TurnsForward(%q) = %v", x.text, got)
		}
	}
	for _, w := range append(shortWords(7), longWords()...) {
		if got := impl.TurnsForward(w); got != turnsForward(w) {
			t.Errorf("TurnsForward(%v) = %v", w, got)
		}
	}
	for _, bad := range append(noWords(), append(repeated(0, 30), 1), []int{-1, 0, 2}, []int{0, 1, -2}, []int{1, 2}, []int{2, 0}, []int{-2, -1}) {
		if impl.TurnsForward(bad) {
			t.Errorf("TurnsForward(%v) is true", bad)
		}
	}
}

func TestWordsOfCoins(t *testing.T) {
	two := "-+ 0- +0"
	three := "--+ 00- ++0 -0- 0+0 +-+ -+0 0-+ +0- -++ 0-- +00"
	for _, x := range []struct {
		coins, k int
		want     string
	}{
		{3, 2, two}, {3, 3, three[:11]}, {6, 3, three[:23]}, {9, 3, three[:35]}, {12, 3, three}, {3, 4, "---+ 000- +++0"}, {6, 4, "---+ 000- +++0 --0- 00+0 ++-+"}, {3, 5, "----+ 0000- ++++0"},
	} {
		checkList(t, "CoinWords", x.want, x.coins, x.k)(impl.CoinWords(x.coins, x.k))
	}
}

// coinWords goes through the words by the letter of the chapter.
func coinWords(coins int, k int) [][]int {
	var words [][]int
	taken := map[string]bool{}
	for _, w := range allWords(k) {
		if !turnsForward(w) || taken[impl.FormatWord(w)] {
			continue
		}
		for range 3 {
			if len(words) < coins {
				words = append(words, w)
			}
			taken[impl.FormatWord(w)] = true
			w = turned(w)
		}
	}
	return words
}

func TestAllWordsOfCoins(t *testing.T) {
	allCoinWords(t, func(k int, words [][]int) {
		if want := coinWords(len(words), k); !equalLists(words, want) {
			t.Errorf("CoinWords(%d, %d) = %v, not %v", len(words), k, words, want)
		}
	})
}

func TestWordsOfCoinsThatDoNotExist(t *testing.T) {
	for _, k := range noWeighings {
		for _, coins := range append([]int{-3, 0, 1, 2, 3, 6, 12, 39, 120, 123, 363}, extremes...) {
			checkList(t, "CoinWords", "", coins, k)(impl.CoinWords(coins, k))
		}
	}
	for k := 2; k <= impl.MaxWeighings; k++ {
		for coins := -10; coins <= 400; coins++ {
			if coins < 3 || coins%3 != 0 || coins > (powers()[k]-3)/2 {
				checkList(t, "CoinWords", "", coins, k)(impl.CoinWords(coins, k))
			}
		}
		for _, coins := range append([]int{-120, -363, 1 << 33, 3 << 40, 3 << 32, 3 + 3<<32, math.MaxInt - math.MaxInt%3, math.MinInt - math.MinInt%3}, extremes...) {
			checkList(t, "CoinWords", "", coins, k)(impl.CoinWords(coins, k))
		}
	}
}

// formatPans writes weighings as pansOf reads them, separated by commas.
func formatPans(weighings []impl.Weighing) string {
	var texts []string
	for _, w := range weighings {
		var text []string
		for _, coin := range w.Left {
			text = append(text, strconv.Itoa(coin))
		}
		text = append(text, "/")
		for _, coin := range w.Right {
			text = append(text, strconv.Itoa(coin))
		}
		texts = append(texts, strings.Join(text, " "))
	}
	return strings.Join(texts, ", ")
}

func TestWeighingsOfWords(t *testing.T) {
	for _, x := range []struct{ words, want string }{
		{"+", "0 /"}, {"-", "/ 0"}, {"0", "/"}, {"+ + - 0 - +", "0 1 5 / 2 4"}, {"+-0", "/, / 0, 0 /"}, {"+-0 0+- -0+", "2 / 1, 1 / 0, 0 / 2"}, {"0- 00 +0 0+ 0- -+ +0", "3 5 / 0 4, 2 6 / 5"}, {"-+ 0- +0", "0 / 1, 2 / 0"}, {"++ ++ ++", "0 1 2 /, 0 1 2 /"},
		{"-+-0 -+-0", "/, / 0 1, 0 1 /, / 0 1"}, {"+" + strings.Repeat("0", 29), strings.Repeat("/, ", 29) + "0 /"}, {strings.Repeat("- ", 12) + "+", "12 / 0 1 2 3 4 5 6 7 8 9 10 11"},
	} {
		weighings, ok := impl.WeighingsOf(wordsIn(x.words))
		if got := formatPans(weighings); !ok || got != x.want {
			t.Errorf("WeighingsOf(%q) = %q, %v", x.words, got, ok)
		}
	}
	many := make([][]int, 2000)
	for i := range many {
		many[i] = []int{i%3 - 1, 1 - i%3}
	}
	weighings, ok := impl.WeighingsOf(many)
	if !ok || len(weighings) != 2 || len(weighings[0].Left) != 666 || len(weighings[0].Right) != 667 || !slices.Equal(weighings[0].Left, weighings[1].Right) || !slices.Equal(weighings[0].Right, weighings[1].Left) || weighings[0].Left[665] != 1997 {
		t.Errorf("%d weighings of many words, %v", len(weighings), ok)
	}
}

// noCoinWords returns lists that are not of words of the same number of trits:
// each has one list that is none, or is of another number, at the first, a
// middle or the last place.
func noCoinWords() [][][]int {
	lists := [][][]int{nil, {}, make([][]int, 0, 3), {nil}, {{}}, {{}, {}, {}}, make([][]int, 3), {{1}, {1, 0}}, {{1, 0}, {1}}, {{1, 0}, {0, 1}, {}}, {nil, {1}, {0}}, {{0, 1}, nil}}
	for _, bad := range append(noWords(), []int{1}, []int{0, 1}, []int{1, 0, -1, 0}, repeated(0, 30)) {
		if !impl.IsWord(bad) {
			lists = append(lists, [][]int{bad}, [][]int{bad, bad, bad})
		}
		for at := range 4 {
			words := wordsIn("+-0 0+- -0+ 0+-")
			words[at] = bad
			lists = append(lists, words)
		}
		if k := len(bad); k >= 1 && k <= impl.MaxWord && !impl.IsWord(bad) {
			lists = append(lists, [][]int{repeated(1, k), bad}, [][]int{bad, repeated(0, k)})
		}
	}
	// The other words lie in the spare capacity.
	return append(lists, wordsIn("+-0 0+- -0+")[:0])
}

// checkNoGuess expects that no coin is found.
func checkNoGuess(t *testing.T, words [][]int, outcomes []int) {
	t.Helper()
	if coin, kind, ok := impl.GuessOf(words, outcomes); ok || coin != 0 || kind != 0 {
		t.Errorf("GuessOf(%v, %v) = %d, %d, %v", words, outcomes, coin, kind, ok)
	}
}

func TestListsThatAreNoWordsOfCoins(t *testing.T) {
	for _, bad := range noCoinWords() {
		if weighings, ok := impl.WeighingsOf(bad); ok || len(weighings) != 0 {
			t.Errorf("WeighingsOf(%v) = %v, %v", bad, weighings, ok)
		}
		for _, kind := range append([]int{-1, 0, 1, 2}, extremes...) {
			for _, coin := range append([]int{-1, 0, 1, 2, 3, 4}, extremes...) {
				w, ok := impl.OutcomeOf(bad, coin, kind)
				checkNone(t, "OutcomeOf", w, ok, bad, coin, kind)
			}
		}
		for _, outcomes := range append([][]int{nil, {}, {0}, {1}, {0, 0}, {0, 0, 0}, {0, -1, 1}, {0, 0, 0, 0}, repeated(0, 31)}, bad...) {
			checkNoGuess(t, bad, outcomes)
		}
	}
}

func TestOutcomesOfCoins(t *testing.T) {
	words := wordsIn("+-0 0+- -0+ 000 ++- -0+")
	for _, x := range []struct {
		coin, kind int
		want       string
	}{
		{0, 1, "+-0"}, {0, -1, "-+0"}, {0, 0, "000"}, {1, 1, "0+-"}, {1, -1, "0-+"}, {2, 1, "-0+"}, {2, -1, "+0-"}, {3, 1, "000"}, {3, -1, "000"}, {3, 0, "000"}, {4, 1, "++-"}, {4, -1, "--+"}, {4, 0, "000"}, {5, 1, "-0+"}, {5, -1, "+0-"}, {5, 0, "000"}, {-1, 0, "000"}, {6, 0, "000"}, {7, 0, "000"}, {-100, 0, "000"},
		{6, 1, ""}, {6, -1, ""}, {7, 1, ""}, {-1, 1, ""}, {-1, -1, ""}, {-2, 1, ""}, {-6, -1, ""}, {100, 1, ""}, {0, 2, ""}, {0, -2, ""}, {3, 2, ""}, {3, 3, ""}, {-1, 2, ""}, {6, -2, ""},
	} {
		checkWord(t, "OutcomeOf", x.want, x.coin, x.kind)(impl.OutcomeOf(words, x.coin, x.kind))
	}
	for _, bad := range extremes {
		checkWord(t, "OutcomeOf", "000", bad, 0)(impl.OutcomeOf(words, bad, 0))
		for _, kind := range append([]int{-1, 1}, notTrits...) {
			checkWord(t, "OutcomeOf", "", bad, kind)(impl.OutcomeOf(words, bad, kind))
		}
	}
	for _, bad := range notTrits {
		for coin := -1; coin <= 6; coin++ {
			checkWord(t, "OutcomeOf", "", coin, bad)(impl.OutcomeOf(words, coin, bad))
		}
	}
	for k := 1; k <= impl.MaxWord; k++ {
		w := append(repeated(-1, k-1), 1)
		single := [][]int{w}
		checkWord(t, "OutcomeOf", impl.FormatWord(w), k, 0, 1)(impl.OutcomeOf(single, 0, 1))
		checkWord(t, "OutcomeOf", impl.FormatWord(impl.NegateWord(w)), k, 0, -1)(impl.OutcomeOf(single, 0, -1))
		checkWord(t, "OutcomeOf", strings.Repeat("0", k), k, 1, 0)(impl.OutcomeOf(single, 1, 0))
	}
}

// guessOf goes through the coins and kinds by the letter of the chapter.
func guessOf(words [][]int, outcomes []int) (int, int, bool) {
	if slices.Equal(outcomes, make([]int, len(words[0]))) {
		return -1, 0, true
	}
	for coin := range words {
		for _, kind := range []int{1, -1} {
			if got, ok := impl.OutcomeOf(words, coin, kind); ok && slices.Equal(got, outcomes) {
				return coin, kind, true
			}
		}
	}
	return 0, 0, false
}

func TestGuesses(t *testing.T) {
	words := "+-0 0+- -0+ 000 ++- -+0 +-0 --+ +-+"
	for _, x := range []struct {
		outcomes   string
		coin, kind int
		found      bool
	}{
		{"000", -1, 0, true}, {"+-0", 0, 1, true}, {"-+0", 0, -1, true}, {"0+-", 1, 1, true}, {"0-+", 1, -1, true}, {"-0+", 2, 1, true}, {"+0-", 2, -1, true}, {"++-", 4, 1, true}, {"--+", 4, -1, true}, {"+-+", 8, 1, true}, {"-+-", 8, -1, true},
		{"00+", 0, 0, false}, {"+++", 0, 0, false}, {"---", 0, 0, false}, {"0-0", 0, 0, false}, {"0", 0, 0, false}, {"00", 0, 0, false}, {"0000", 0, 0, false}, {"+-", 0, 0, false}, {"-0", 0, 0, false}, {"+-00", 0, 0, false}, {"0+-0", 0, 0, false}, {"", 0, 0, false}, {strings.Repeat("0", 30), 0, 0, false},
	} {
		coin, kind, ok := impl.GuessOf(wordsIn(words), wordOfText(x.outcomes))
		if coin != x.coin || kind != x.kind || ok != x.found {
			t.Errorf("GuessOf(%q, %q) = %d, %d, %v", words, x.outcomes, coin, kind, ok)
		}
	}
	for _, bad := range append(noWords(), []int{2, -2, 0}, []int{-2, 2, 0}, []int{0, 2, -2}, []int{0, 0, 2}, []int{0, 0, 0, 0}, []int{0, 0, math.MinInt}, []int{-1, 1, 1 << 32}) {
		checkNoGuess(t, wordsIn(words), bad)
		checkNoGuess(t, wordsIn("0 + -"), bad)
		if k := len(bad); k >= 1 && k <= impl.MaxWord && !impl.IsWord(bad) {
			checkNoGuess(t, [][]int{repeated(0, k), append(repeated(1, k-1), 0), repeated(1, k)}, bad)
		}
	}
}

func TestGuessesByTheLetter(t *testing.T) {
	maker := numberMaker{3}
	for k := 1; k <= 4; k++ {
		all := allWords(k)
		for range 60 {
			var words [][]int
			for range 1 + maker.number(12) {
				words = append(words, all[maker.number(len(all))])
			}
			for _, outcomes := range all {
				coin, kind, ok := impl.GuessOf(words, outcomes)
				wantCoin, wantKind, found := guessOf(words, outcomes)
				if coin != wantCoin || kind != wantKind || ok != found {
					t.Fatalf("GuessOf(%v, %v) = %d, %d, %v, not %d, %d, %v", words, outcomes, coin, kind, ok, wantCoin, wantKind, found)
				}
			}
		}
	}
}

func TestGuessesAmongLongAndManyWords(t *testing.T) {
	for k := 1; k <= impl.MaxWord; k++ {
		w := append(repeated(0, k-1), 1)
		for _, kind := range trits {
			outcomes, _ := impl.OutcomeOf([][]int{w}, 0, kind)
			if coin, how, ok := impl.GuessOf([][]int{repeated(0, k), w, w}, outcomes); !ok || how != kind || coin != 2*impl.SignOf(kind*kind)-1 {
				t.Errorf("GuessOf(%v) = %d, %d, %v", outcomes, coin, how, ok)
			}
		}
	}
	many := slices.Repeat([][]int{{1, 1, 0}}, 50000)
	many = append(many, []int{0, 1, -1})
	if coin, kind, ok := impl.GuessOf(many, []int{0, -1, 1}); !ok || coin != 50000 || kind != -1 {
		t.Errorf("GuessOf among many words: %d, %d, %v", coin, kind, ok)
	}
	checkNoGuess(t, many[:50000], []int{0, -1, 1})
}

func TestWeighedCoins(t *testing.T) {
	weights := []int{10, 9, 10, 0, 1000000, 11, 1}
	for _, x := range []struct {
		pans string
		want int
	}{
		{"/", 0}, {"0/1", 1}, {"1/0", -1}, {"0/2", 0}, {"0/", 1}, {"/0", -1}, {"3/", 0}, {"/3", 0}, {"3/6", -1}, {"6/3", 1}, {"4/0 1 2 3 5 6", 1}, {"0 1 2 3 5 6/4", -1}, {"1 5/0 2", 0}, {"5 1/2 0", 0}, {"1 5 6/0 2", 1}, {"1 5/0 2 6", -1}, {"0/1 6", 0},
		{"0 0/4", -1}, {"0 0/1 5", 0}, {"0 0/5", 1}, {"1 1/0", 1}, {"0/1 1", -1}, {"6 6/6", 1}, {"6/6 6", -1}, {"0 1/0 1", 0}, {"0 1/1 0", 0}, {"0 1/0", 1}, {"1/0 1", -1}, {"4/4", 0}, {"4 4 4/4 4", 1}, {"6 6 6 6 6 6 6 6 6 6/0", 0}, {"6 6 6 6 6 6 6 6 6/0", -1}, {"3 3/3", 0},
	} {
		if got, ok := impl.WeighCoins(weights, pansOf(x.pans)); !ok || got != x.want {
			t.Errorf("WeighCoins(%v, %q) = %d, %v", weights, x.pans, got, ok)
		}
	}
	for _, none := range [][]int{nil, {}, make([]int, 0, 3)} {
		if got, ok := impl.WeighCoins(none, impl.Weighing{Left: none, Right: none}); !ok || got != 0 {
			t.Errorf("no coins: %d, %v", got, ok)
		}
	}
	many := repeated(1000000, 5000)
	pans := impl.Weighing{Left: repeated(7, 5000), Right: repeated(4999, 4999)}
	if got, ok := impl.WeighCoins(many, pans); !ok || got != 1 {
		t.Errorf("many heavy coins: %d, %v", got, ok)
	}
}

// checkNoWeighing expects that the coins cannot be weighed, also if the pans
// are exchanged.
func checkNoWeighing(t *testing.T, weights []int, pans impl.Weighing) {
	t.Helper()
	for _, w := range []impl.Weighing{pans, {Left: pans.Right, Right: pans.Left}} {
		if got, ok := impl.WeighCoins(weights, w); ok || got != 0 {
			t.Errorf("WeighCoins(%v, %v) = %d, %v", weights, w, got, ok)
		}
	}
}

func TestCoinsWithoutAWeight(t *testing.T) {
	// Further weights lie in the spare capacity.
	weights := []int{5, 6, 7, 8, 8, 8}[:4]
	for _, bad := range append([]int{-1, -2, -4, 4, 5, 6, 100}, extremes...) {
		checkNoWeighing(t, weights, impl.Weighing{Left: []int{bad}})
		checkNoWeighing(t, weights, impl.Weighing{Left: []int{bad}, Right: []int{bad}})
		checkNoWeighing(t, weights, impl.Weighing{Left: []int{0}, Right: []int{bad}})
		checkNoWeighing(t, weights, impl.Weighing{Left: []int{0, bad, 1}, Right: []int{2}})
		checkNoWeighing(t, weights, impl.Weighing{Left: []int{0, 1, bad}})
		checkNoWeighing(t, nil, impl.Weighing{Left: []int{bad}})
	}
	checkNoWeighing(t, nil, pansOf("0/"))
	checkNoWeighing(t, weights[:0], pansOf("0/0"))
	checkNoWeighing(t, weights[:1], pansOf("0/1"))
}

func TestWeightsThatAreNotValid(t *testing.T) {
	for _, bad := range append([]int{-1, -2, -1000000, 1000001, 1000002, 2000000}, extremes...) {
		if bad >= 0 && bad <= 1000000 {
			continue
		}
		for at := range 4 {
			weights := []int{5, 0, 1000000, 8}
			weights[at] = bad
			// The weight is not valid, whether the coin is weighed or not.
			for _, pans := range []string{"/", "0/1", "0 1/2 3", "3/", "0 0/0", "2 1/2", "0 1 2 3/0 1 2 3"} {
				checkNoWeighing(t, weights, pansOf(pans))
			}
		}
		checkNoWeighing(t, []int{bad}, pansOf("/"))
		checkNoWeighing(t, []int{bad, bad}, pansOf("0/1"))
	}
	for at := range 4 {
		for _, edge := range []int{0, 1000000} {
			weights := []int{5, 5, 5, 5}
			weights[at] = edge
			want := impl.SignOf(edge - 5)
			if got, ok := impl.WeighCoins(weights, impl.Weighing{Left: []int{at}, Right: []int{(at + 1) % 4}}); !ok || got != want {
				t.Errorf("WeighCoins(%v) = %d, %v", weights, got, ok)
			}
		}
	}
}

// pansIn returns all pans of weighings.
func pansIn(weighings ...impl.Weighing) [][]int {
	var pans [][]int
	for _, w := range weighings {
		pans = append(pans, w.Left, w.Right)
	}
	return pans
}

// balanceFunctions has each function of the chapter, for lists that are words
// of four trits, coins and weights alike.
var balanceFunctions = map[string]func(a, b, c []int) [][]int{
	"WeighThing":         func(a, b, c []int) [][]int { w, _ := impl.WeighThing(1094); return pansIn(w) },
	"WeighThing, false":  func(a, b, c []int) [][]int { w, _ := impl.WeighThing(-1); return pansIn(w) },
	"BalanceOf":          func(a, b, c []int) [][]int { impl.BalanceOf(impl.Weighing{Left: a[1:2], Right: b[2:3]}, 5); return nil },
	"BalanceOf, false":   func(a, b, c []int) [][]int { impl.BalanceOf(impl.Weighing{Left: a, Right: b}, 5); return nil },
	"TurnsForward":       func(a, b, c []int) [][]int { impl.TurnsForward(a); return nil },
	"CoinWords":          func(a, b, c []int) [][]int { words, _ := impl.CoinWords(12, 3); return words },
	"CoinWords, all":     func(a, b, c []int) [][]int { words, _ := impl.CoinWords(39, 4); return words },
	"WeighingsOf":        func(a, b, c []int) [][]int { w, _ := impl.WeighingsOf([][]int{a, b, c, a}); return pansIn(w...) },
	"WeighingsOf, one":   func(a, b, c []int) [][]int { w, _ := impl.WeighingsOf([][]int{b}); return pansIn(w...) },
	"WeighingsOf, false": func(a, b, c []int) [][]int { w, _ := impl.WeighingsOf([][]int{a, b[:3]}); return pansIn(w...) },
	"OutcomeOf, heavier": func(a, b, c []int) [][]int { w, _ := impl.OutcomeOf([][]int{a, b, c}, 1, 1); return [][]int{w} },
	"OutcomeOf, lighter": func(a, b, c []int) [][]int { w, _ := impl.OutcomeOf([][]int{a, b, c}, 2, -1); return [][]int{w} },
	"OutcomeOf, none":    func(a, b, c []int) [][]int { w, _ := impl.OutcomeOf([][]int{a, b, c}, 7, 0); return [][]int{w} },
	"OutcomeOf, false":   func(a, b, c []int) [][]int { w, _ := impl.OutcomeOf([][]int{a, b, c}, 3, 1); return [][]int{w} },
	"GuessOf":            func(a, b, c []int) [][]int { impl.GuessOf([][]int{a, b}, c); return nil },
	"GuessOf, found":     func(a, b, c []int) [][]int { impl.GuessOf([][]int{a, b}, b); return nil },
	"WeighCoins": func(a, b, c []int) [][]int {
		impl.WeighCoins(b[1:4], impl.Weighing{Left: a[:2], Right: c[1:3]})
		return nil
	},
	"WeighCoins, false": func(a, b, c []int) [][]int { impl.WeighCoins(a, impl.Weighing{Left: b, Right: c}); return nil },
}

func TestMemoryOfBalances(t *testing.T) {
	for name, call := range balanceFunctions {
		memory := []int{1, 0, -1, 1, -1, 1, 1, 1, -1, 0, 0, 1, 7, 7, 7, 7, 7, 7, 7, 7}
		checkMemory(t, name, memory, func() [][]int { return call(memory[:4], memory[4:8], memory[8:12]) })
	}
}

// TestListsOfCoinWordsStay gives lists that have more words in their spare
// capacity.
func TestListsOfCoinWordsStay(t *testing.T) {
	for count := range 60 {
		list := make([][]int, 60)
		for i := range list {
			list[i] = []int{i%3 - 1, i%2 - 1, 0, 0, 0}
		}
		kept, words := copyLists(list), slices.Clone(list)
		impl.WeighingsOf(list[:count])
		impl.OutcomeOf(list[:count], 5, -1)
		impl.GuessOf(list[:count], []int{0, -1, 0, 0, 0})
		for i := range list {
			if !equalLists(list, kept) || &list[i][0] != &words[i][0] {
				t.Fatalf("the list of %d words is changed to %v", count, list)
			}
		}
	}
}
