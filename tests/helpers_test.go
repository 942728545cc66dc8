package tests

import (
	"math"
	"slices"
	"testing"

	"loop.example/g03225/impl"
)

var trits = []int{-1, 0, 1}

// notTrits has numbers that a careless range check, sum or negation would let through.
var notTrits = []int{-2, 2, 3, -3, 4, -4, 5, 100, 256, -256, 1 << 32, 1<<32 + 1, math.MinInt, math.MinInt + 1, math.MaxInt, math.MaxInt - 1}

var tableNames = []string{"min", "max", "agree", "any", "times", "sum", "carry"}

var twoTritFunctions = map[string]func(a int, b int) int{
	"MinTrits":   impl.MinTrits,
	"MaxTrits":   impl.MaxTrits,
	"AgreeTrits": impl.AgreeTrits,
	"AnyTrits":   impl.AnyTrits,
	"TimesTrits": impl.TimesTrits,
}

// allTables returns each of the 3^9 valid tables once.
func allTables() []impl.Table {
	tables := []impl.Table{{}}
	for i := range (impl.Table{}) {
		var longer []impl.Table
		for _, t := range tables {
			for _, v := range trits {
				t[i] = v
				longer = append(longer, t)
			}
		}
		tables = longer
	}
	return tables
}

// invalidTables returns tables that have one number that is no trit, at each
// index in turn, among trits that are not all 0.
func invalidTables() []impl.Table {
	var tables []impl.Table
	for i := range (impl.Table{}) {
		for _, bad := range notTrits {
			t := impl.Table{-1, -1, 0, -1, 1, 1, 0, 1, 1}
			t[i] = bad
			tables = append(tables, t)
		}
	}
	return tables
}

// powers has 3^k at the index k, for all k from 0 to MaxWord.
func powers() []int {
	list := []int{1}
	for range impl.MaxWord {
		list = append(list, 3*list[len(list)-1])
	}
	return list
}

// allWords returns each of the 3^k words of k trits once, by ascending value.
func allWords(k int) [][]int { return allLists(trits, k) }

// allLists returns each list of k of the digits once. Of two lists, the one
// with the earlier digit at the last place where they differ comes first.
func allLists(digits []int, k int) [][]int {
	lists := [][]int{{}}
	for range k {
		var longer [][]int
		for _, digit := range digits {
			for _, list := range lists {
				longer = append(longer, append(slices.Clone(list), digit))
			}
		}
		lists = longer
	}
	return lists
}

// shortWords returns all words of 1 to most trits.
func shortWords(most int) [][]int {
	var words [][]int
	for k := 1; k <= most; k++ {
		words = append(words, allWords(k)...)
	}
	return words
}

// longWords returns words of every number of trits up to MaxWord: with equal
// trits, with one trit that is not 0, and with trits that follow no short rule.
func longWords() [][]int {
	var words [][]int
	seed := 1
	for k := 1; k <= impl.MaxWord; k++ {
		for _, trit := range trits {
			words = append(words, repeated(trit, k))
			high, low := make([]int, k), make([]int, k)
			high[k-1], low[0] = trit, trit
			words = append(words, high, low)
		}
		for range 5 {
			w := make([]int, k)
			for i := range w {
				seed = (seed*1103515245 + 12345) % (1 << 31)
				w[i] = seed/65536%3 - 1
			}
			words = append(words, w)
		}
	}
	return words
}

func repeated(trit int, k int) []int {
	w := make([]int, k)
	for i := range w {
		w[i] = trit
	}
	return w
}

// noWords returns lists that are no words: of wrong lengths, and with a number
// that is no trit at the first, a middle and the last place.
func noWords() [][]int {
	lists := [][]int{nil, {}, make([]int, 0, 5), repeated(0, impl.MaxWord+1), repeated(1, impl.MaxWord+1), repeated(-1, 100)}
	for _, bad := range notTrits {
		lists = append(lists, []int{bad}, []int{bad, 0, 1}, []int{1, bad, 0, -1}, []int{1, 0, bad}, append(repeated(1, impl.MaxWord-1), bad))
	}
	return lists
}

// wrongLengths has numbers that no word has as its number of trits.
var wrongLengths = []int{0, -1, -2, -3, -30, impl.MaxWord + 1, impl.MaxWord + 2, 64, 1 << 32, 1<<32 + 3, math.MaxInt, math.MaxInt - 1, math.MinInt, math.MinInt + 1, math.MinInt + 3}

// numberMaker makes numbers that follow no short rule.
type numberMaker struct{ seed int }

// number returns one from 0 to below - 1, where below is at most 32768.
func (m *numberMaker) number(below int) int {
	m.seed = (m.seed*1103515245 + 12345) % (1 << 31)
	return m.seed / 65536 % below
}

// checkMemory expects that a call changes nothing in the memory where its
// arguments and what is behind them lie, and that its results share memory
// neither with it nor with each other nor with those of another call.
func checkMemory(t *testing.T, name string, memory []int, call func() [][]int) {
	t.Helper()
	before := slices.Clone(memory)
	first := call()
	results := append(slices.Clone(first), call()...)
	if !slices.Equal(memory, before) {
		t.Errorf("%s changes its arguments or what is behind them to %v", name, memory)
	}
	kept := copyLists(results)
	fill(memory, 5)
	if !equalLists(results, kept) {
		t.Errorf("the results of %s change with its arguments to %v", name, results)
	}
	for i, result := range results {
		fill(result[:cap(result)], 100+i)
		for j, other := range results {
			if j != i && slices.Contains(other, 100+i) {
				t.Errorf("the results %d and %d of %s share memory", i, j, name)
			}
		}
	}
	if slices.ContainsFunc(memory, func(n int) bool { return n != 5 }) {
		t.Errorf("the arguments of %s change with its results to %v", name, memory)
	}
	copy(memory, before)
	if again := call(); !equalLists(again, kept[:len(first)]) {
		t.Errorf("later results of %s change with earlier ones to %v", name, again)
	}
}

func fill(list []int, n int) {
	for i := range list {
		list[i] = n
	}
}

func copyLists(lists [][]int) [][]int {
	var copied [][]int
	for _, list := range lists {
		copied = append(copied, slices.Clone(list))
	}
	return copied
}

// equalLists takes nil and empty lists as equal.
func equalLists(a [][]int, b [][]int) bool {
	return slices.EqualFunc(a, b, func(x []int, y []int) bool { return slices.Equal(x, y) })
}
