package tests

import (
	"math"

	"loop.example/g03225/impl"
)

var trits = []int{-1, 0, 1}

// notTrits has numbers that a careless range check, sum or negation would let through.
var notTrits = []int{-2, 2, 3, -3, 4, -4, 5, 100, 256, -256, 1 << 32, 1<<32 + 1, math.MinInt, math.MinInt + 1, math.MaxInt, math.MaxInt - 1}

var tableNames = []string{"min", "max", "agree", "any", "times", "sum", "carry"}

var twoTritFunctions = map[string]func(a int, b int) int{
	"MinTrits":   impl.MinTrits,
	"MaxTrits":   impl.MaxTrits,
	"AgreeTrits": impl.AgreeTrits,
	"AnyTrits":   impl.AnyTrits,
	"TimesTrits": impl.TimesTrits,
}

// allTables returns each of the 3^9 valid tables once.
func allTables() []impl.Table {
	tables := []impl.Table{{}}
	for i := range (impl.Table{}) {
		var longer []impl.Table
		for _, t := range tables {
			for _, v := range trits {
				t[i] = v
				longer = append(longer, t)
			}
		}
		tables = longer
	}
	return tables
}

// invalidTables returns tables that have one number that is no trit, at each
// index in turn, among trits that are not all 0.
func invalidTables() []impl.Table {
	var tables []impl.Table
	for i := range (impl.Table{}) {
		for _, bad := range notTrits {
			t := impl.Table{-1, -1, 0, -1, 1, 1, 0, 1, 1}
			t[i] = bad
			tables = append(tables, t)
		}
	}
	return tables
}

// powers has 3^k at the index k, for all k from 0 to MaxWord.
func powers() []int {
	list := []int{1}
	for range impl.MaxWord {
		list = append(list, 3*list[len(list)-1])
	}
	return list
}

// allWords returns each of the 3^k words of k trits once, by ascending value.
func allWords(k int) [][]int {
	words := [][]int{{}}
	for range k {
		var longer [][]int
		for _, trit := range trits {
			for _, w := range words {
				longer = append(longer, append(append([]int{}, w...), trit))
			}
		}
		words = longer
	}
	return words
}

// shortWords returns all words of 1 to most trits.
func shortWords(most int) [][]int {
	var words [][]int
	for k := 1; k <= most; k++ {
		words = append(words, allWords(k)...)
	}
	return words
}

// longWords returns words of every number of trits up to MaxWord: with equal
// trits, with one trit that is not 0, and with trits that follow no short rule.
func longWords() [][]int {
	var words [][]int
	seed := 1
	for k := 1; k <= impl.MaxWord; k++ {
		for _, trit := range trits {
			words = append(words, repeated(trit, k))
			high, low := make([]int, k), make([]int, k)
			high[k-1], low[0] = trit, trit
			words = append(words, high, low)
		}
		for range 5 {
			w := make([]int, k)
			for i := range w {
				seed = (seed*1103515245 + 12345) % (1 << 31)
				w[i] = seed/65536%3 - 1
			}
			words = append(words, w)
		}
	}
	return words
}

func repeated(trit int, k int) []int {
	w := make([]int, k)
	for i := range w {
		w[i] = trit
	}
	return w
}

// noWords returns lists that are no words: of wrong lengths, and with a number
// that is no trit at the first, a middle and the last place.
func noWords() [][]int {
	lists := [][]int{nil, {}, make([]int, 0, 5), repeated(0, impl.MaxWord+1), repeated(1, impl.MaxWord+1), repeated(-1, 100)}
	for _, bad := range notTrits {
		lists = append(lists, []int{bad}, []int{bad, 0, 1}, []int{1, bad, 0, -1}, []int{1, 0, bad}, append(repeated(1, impl.MaxWord-1), bad))
	}
	return lists
}

// wrongLengths has numbers that no word has as its number of trits.
var wrongLengths = []int{0, -1, -2, -3, -30, impl.MaxWord + 1, impl.MaxWord + 2, 64, 1 << 32, 1<<32 + 3, math.MaxInt, math.MaxInt - 1, math.MinInt, math.MinInt + 1, math.MinInt + 3}
