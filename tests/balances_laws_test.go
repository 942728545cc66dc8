package tests

// The laws of promise P9: weights and coins are weighed: balances are in balance, and the odd coin is found.

import (
	"slices"
	"testing"

	"loop.example/g03225/impl"
)

// equalWeighings takes nil and empty pans as equal.
func equalWeighings(a impl.Weighing, b impl.Weighing) bool {
	return slices.Equal(a.Left, b.Left) && slices.Equal(a.Right, b.Right)
}

// weighingWith returns the weighing with the places of the trit left in the
// left pan and those of the trit right in the right one.
func weighingWith(list []int, left int, right int) impl.Weighing {
	var w impl.Weighing
	for place, trit := range list {
		switch trit {
		case left:
			w.Left = append(w.Left, place)
		case right:
			w.Right = append(w.Right, place)
		}
	}
	return w
}

// things returns weights of things: all small ones, those next to powers and
// limits, and the values of words that follow no short rule.
func things() []int {
	var list []int
	for n := range 5000 {
		list = append(list, n)
	}
	for k := 1; k <= impl.MaxWord; k++ {
		limit := impl.LimitOf(k)
		list = append(list, limit-1, limit, min(limit+1, limitOfMaxWord), min(2*limit+1, limitOfMaxWord))
	}
	for _, w := range longWords() {
		n := impl.ValueOf(w)
		list = append(list, max(n, -n))
	}
	return list
}

func TestThingsAreInBalance(t *testing.T) {
	power := powers()
	for _, n := range things() {
		w, ok := impl.WeighThing(n)
		left, right := n, 0
		for _, exponent := range w.Left {
			left += power[exponent]
		}
		for _, exponent := range w.Right {
			right += power[exponent]
		}
		if !ok || left != right {
			t.Fatalf("WeighThing(%d) = %v, %v: %d and %d", n, w, ok, left, right)
		}
		// Both lists are ascending, and no weight is there twice.
		all := slices.Sorted(slices.Values(append(slices.Clone(w.Left), w.Right...)))
		if !slices.IsSorted(w.Left) || !slices.IsSorted(w.Right) || len(slices.Compact(all)) != len(w.Left)+len(w.Right) {
			t.Fatalf("WeighThing(%d) = %v", n, w)
		}
		for _, by := range trits {
			if sign, fine := impl.BalanceOf(w, n+by); n+by <= limitOfMaxWord && (!fine || sign != by) {
				t.Fatalf("BalanceOf(%v, %d) = %d, %v", w, n+by, sign, fine)
			}
		}
	}
}

func TestThereIsOneWayToWeighAThing(t *testing.T) {
	for _, w := range append(allWords(8), longWords()...) {
		if n := impl.ValueOf(w); n >= 0 {
			want := weighingWith(w, -1, 1)
			if got, ok := impl.WeighThing(n); !ok || !equalWeighings(got, want) {
				t.Fatalf("WeighThing(%d) = %v, %v, not %v", n, got, ok, want)
			}
		}
	}
}

func TestBalancesCompareTheWeights(t *testing.T) {
	limit := limitOfMaxWord
	for _, w := range append(shortWords(5), longWords()...) {
		value := impl.ValueOf(w)
		pans := weighingWith(w, 1, -1)
		for _, n := range []int{0, 1, -1, 5, -5, 121, -121, 1000, -value - 2, -value - 1, -value, -value + 1, value, limit, -limit} {
			if n < -limit || n > limit {
				continue
			}
			if got, ok := impl.BalanceOf(pans, n); !ok || got != impl.SignOf(n+value) {
				t.Fatalf("BalanceOf(%v, %d) = %d, %v", pans, n, got, ok)
			}
			exchanged := impl.Weighing{Left: pans.Right, Right: pans.Left}
			if got, ok := impl.BalanceOf(exchanged, -n); !ok || got != -impl.SignOf(n+value) {
				t.Fatalf("BalanceOf(%v, %d) = %d, %v", exchanged, -n, got, ok)
			}
			mixed := impl.Weighing{Left: slices.Clone(pans.Left), Right: slices.Clone(pans.Right)}
			slices.Reverse(mixed.Left)
			slices.Reverse(mixed.Right)
			if got, ok := impl.BalanceOf(mixed, n); !ok || got != impl.SignOf(n+value) {
				t.Fatalf("BalanceOf(%v, %d) = %d, %v", mixed, n, got, ok)
			}
		}
	}
}

// turned returns the word with the next trit in the circle for each trit.
func turned(w []int) []int {
	var list []int
	for _, trit := range w {
		list = append(list, impl.TurnTrit(trit))
	}
	return list
}

func TestOneOfTwoNegativesTurnsForward(t *testing.T) {
	for k := 1; k <= 8; k++ {
		forward := 0
		for _, w := range allWords(k) {
			turns, opposite := impl.TurnsForward(w), impl.TurnsForward(impl.NegateWord(w))
			if equal := slices.Equal(w, repeated(w[0], k)); equal && (turns || opposite) || !equal && turns == opposite {
				t.Fatalf("TurnsForward(%v) = %v, and %v for its negative", w, turns, opposite)
			}
			if impl.TurnsForward(turned(w)) != turns {
				t.Fatalf("TurnsForward(%v) is not %v, as for %v", turned(w), turns, w)
			}
			if turns {
				forward++
			}
		}
		if k >= 2 && k <= impl.MaxWeighings && impl.CoinsFor(k) != forward || 2*forward != powers()[k]-3 {
			t.Errorf("CoinsFor(%d) = %d, but %d words turn forward", k, impl.CoinsFor(k), forward)
		}
	}
}

// allCoinWords calls check with the words for all numbers of coins and of
// weighings.
func allCoinWords(t *testing.T, check func(k int, words [][]int)) {
	t.Helper()
	for k := 2; k <= impl.MaxWeighings; k++ {
		for coins := 3; coins <= impl.CoinsFor(k); coins += 3 {
			words, ok := impl.CoinWords(coins, k)
			if !ok || len(words) != coins {
				t.Fatalf("CoinWords(%d, %d) = %v, %v", coins, k, words, ok)
			}
			check(k, words)
		}
	}
}

func TestCoinsHaveWordsOfTheirOwn(t *testing.T) {
	allCoinWords(t, func(k int, words [][]int) {
		seen := map[string]bool{}
		for _, w := range words {
			text, opposite := impl.FormatWord(w), impl.FormatWord(impl.NegateWord(w))
			if len(text) != k || !impl.TurnsForward(w) || seen[text] || seen[opposite] {
				t.Fatalf("%v among %d words of %d trits", w, len(words), k)
			}
			seen[text], seen[opposite] = true, true
		}
	})
}

func TestPansHoldAsManyCoins(t *testing.T) {
	allCoinWords(t, func(k int, words [][]int) {
		weighings, ok := impl.WeighingsOf(words)
		if !ok || len(weighings) != k {
			t.Fatalf("%d weighings of %d coins, %v", len(weighings), len(words), ok)
		}
		for place, w := range weighings {
			if len(w.Left) != len(words)/3 || len(w.Right) != len(words)/3 {
				t.Fatalf("the place %d of %d coins: %v", place, len(words), w)
			}
		}
	})
}

// outcomesOf weighs the coins, and expects that each of them has a weight.
func outcomesOf(t *testing.T, weights []int, weighings []impl.Weighing) []int {
	t.Helper()
	var outcomes []int
	for _, w := range weighings {
		x, ok := impl.WeighCoins(weights, w)
		if !ok {
			t.Fatalf("WeighCoins(%v, %v) = %d, %v", weights, w, x, ok)
		}
		outcomes = append(outcomes, x)
	}
	return outcomes
}

// oddCoins calls check with the outcomes of the weighings of the words for
// each coin that may be the odd one, and for none.
func oddCoins(t *testing.T, words [][]int, check func(coin int, kind int, outcomes []int)) {
	t.Helper()
	weighings, ok := impl.WeighingsOf(words)
	if !ok {
		t.Fatalf("no weighings of %v", words)
	}
	for _, x := range []struct{ all, less, more int }{{10, 9, 11}, {1, 0, 2}, {500000, 0, 1000000}, {999999, 999998, 1000000}} {
		weights := repeated(x.all, len(words))
		check(-1, 0, outcomesOf(t, weights, weighings))
		for coin := range words {
			weights[coin] = x.more
			check(coin, 1, outcomesOf(t, weights, weighings))
			weights[coin] = x.less
			check(coin, -1, outcomesOf(t, weights, weighings))
			weights[coin] = x.all
		}
	}
}

func TestTheOddCoinIsFound(t *testing.T) {
	allCoinWords(t, func(k int, words [][]int) {
		oddCoins(t, words, func(coin int, kind int, outcomes []int) {
			if got, how, ok := impl.GuessOf(words, outcomes); !ok || got != coin || how != kind {
				t.Fatalf("the coin %d of kind %d among %d: GuessOf(%v) = %d, %d, %v", coin, kind, len(words), outcomes, got, how, ok)
			}
			if want, ok := impl.OutcomeOf(words, coin, kind); !ok || !slices.Equal(want, outcomes) {
				t.Fatalf("the coin %d of kind %d among %d: %v, but OutcomeOf says %v, %v", coin, kind, len(words), outcomes, want, ok)
			}
		})
	})
}

// TestOutcomesOfOtherWords takes each word together with its negative, so that
// both pans hold as many coins, but no coin has a word of its own.
func TestOutcomesOfOtherWords(t *testing.T) {
	for _, like := range likeWords() {
		var words [][]int
		for _, w := range like[:min(len(like), 12)] {
			words = append(words, w, impl.NegateWord(w))
		}
		oddCoins(t, words, func(coin int, kind int, outcomes []int) {
			if want, ok := impl.OutcomeOf(words, coin, kind); !ok || !slices.Equal(want, outcomes) {
				t.Fatalf("the coin %d of kind %d of %v: %v, but OutcomeOf says %v, %v", coin, kind, words, outcomes, want, ok)
			}
			got, how, ok := impl.GuessOf(words, outcomes)
			want, fine := impl.OutcomeOf(words, got, how)
			if !ok || !fine || got > coin || !slices.Equal(want, outcomes) {
				t.Fatalf("the coin %d of kind %d of %v: GuessOf(%v) = %d, %d, %v", coin, kind, words, outcomes, got, how, ok)
			}
		})
	}
}

// TestAllOutcomesTellACoin takes as many coins as there are words for. Then all
// outcomes belong to a coin, or to none that is odd, but for those that are all
// 1 or all -1.
func TestAllOutcomesTellACoin(t *testing.T) {
	for k := 2; k <= impl.MaxWeighings; k++ {
		words, _ := impl.CoinWords(impl.CoinsFor(k), k)
		for _, outcomes := range allWords(k) {
			coin, kind, ok := impl.GuessOf(words, outcomes)
			if slices.Equal(outcomes, repeated(1, k)) || slices.Equal(outcomes, repeated(-1, k)) {
				if ok || coin != 0 || kind != 0 {
					t.Fatalf("GuessOf(%v) = %d, %d, %v", outcomes, coin, kind, ok)
				}
				continue
			}
			if back, fine := impl.OutcomeOf(words, coin, kind); !ok || !fine || !slices.Equal(back, outcomes) {
				t.Fatalf("GuessOf(%v) = %d, %d, %v, which gives %v", outcomes, coin, kind, ok, back)
			}
		}
	}
}

func TestWeighingsAreWordsReadByPlaces(t *testing.T) {
	for _, words := range likeWords() {
		weighings, ok := impl.WeighingsOf(words)
		if !ok || len(weighings) != len(words[0]) {
			t.Fatalf("WeighingsOf(%v) = %v, %v", words, weighings, ok)
		}
		for place, w := range weighings {
			var column []int
			for _, word := range words {
				column = append(column, word[place])
			}
			if !equalWeighings(w, weighingWith(column, 1, -1)) {
				t.Fatalf("the place %d of %v: %v", place, words, w)
			}
		}
	}
}
