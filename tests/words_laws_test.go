package tests

// The laws of promise P3: words and values correspond to each other; order, signs, parts and texts agree with the values, and to leave trits out is to round to the nearest.

import (
	"slices"
	"testing"

	"loop.example/g03225/impl"
)

func TestWordsAndValuesCorrespond(t *testing.T) {
	for k := 1; k <= 7; k++ {
		n := -impl.LimitOf(k)
		for _, w := range allWords(k) {
			if !impl.IsWord(w) || impl.ValueOf(w) != n {
				t.Fatalf("value of %v is %d, not %d", w, impl.ValueOf(w), n)
			}
			if back, ok := impl.WordOf(n, k); !ok || !slices.Equal(back, w) {
				t.Fatalf("WordOf(%d, %d) = %v, %v", n, k, back, ok)
			}
			n++
		}
		if n != impl.LimitOf(k)+1 {
			t.Errorf("the values of %d trits end at %d", k, n-1)
		}
	}
}

func TestValuesAreSumsOfPowers(t *testing.T) {
	power := powers()
	for _, w := range longWords() {
		value := 0
		for i, trit := range w {
			value += trit * power[i]
		}
		if !impl.IsWord(w) || impl.ValueOf(w) != value {
			t.Errorf("value of %v is %d, not %d", w, impl.ValueOf(w), value)
		}
		if back, ok := impl.WordOf(value, len(w)); !ok || !slices.Equal(back, w) {
			t.Errorf("WordOf(%d, %d) = %v, %v", value, len(w), back, ok)
		}
	}
}

func TestLengthsAreTheLeastOnes(t *testing.T) {
	for _, w := range append(shortWords(6), longWords()...) {
		n := impl.ValueOf(w)
		length := impl.LengthOf(n)
		for k := 1; k <= impl.MaxWord; k++ {
			same, ok := impl.ExtendWord(w, k)
			made, fine := impl.WordOf(n, k)
			if ok != (k >= length) || fine != ok || !slices.Equal(same, made) {
				t.Fatalf("%v in %d trits: %v, %v", w, k, same, ok)
			}
			if ok && (len(same) != k || impl.ValueOf(same) != n) {
				t.Fatalf("%v in %d trits: %v", w, k, same)
			}
		}
	}
}

func TestNegativesSignsAndSums(t *testing.T) {
	for _, w := range append(shortWords(7), longWords()...) {
		value, negative := impl.ValueOf(w), impl.NegateWord(w)
		if len(negative) != len(w) || impl.ValueOf(negative) != -value || !slices.Equal(impl.NegateWord(negative), w) {
			t.Fatalf("negative of %v: %v", w, negative)
		}
		if impl.SignWord(w) != impl.SignOf(value) || impl.SignWord(negative) != -impl.SignWord(w) {
			t.Fatalf("sign of %v: %d", w, impl.SignWord(w))
		}
		weight, sum := impl.WeightOf(w), impl.SumOf(w)
		if (value-sum)%2 != 0 || (weight-sum)%2 != 0 || sum > weight || -sum > weight || weight > len(w) {
			t.Fatalf("%v has the value %d, the weight %d and the sum %d", w, value, weight, sum)
		}
		if impl.WeightOf(negative) != weight || impl.SumOf(negative) != -sum || (weight == 0) != (value == 0) {
			t.Fatalf("weight and sum of the negative of %v", w)
		}
	}
}

func TestOrderAgreesWithTheValues(t *testing.T) {
	short := shortWords(4)
	for _, list := range [][][]int{short, longWords()} {
		for _, a := range list {
			for _, b := range list {
				got := impl.CompareWords(a, b)
				if got != impl.SignOf(impl.ValueOf(a)-impl.ValueOf(b)) || got != -impl.CompareWords(b, a) {
					t.Fatalf("CompareWords(%v, %v) = %d", a, b, got)
				}
			}
		}
	}
}

func TestPartsAgreeWithTheValues(t *testing.T) {
	power := powers()
	for _, w := range append(shortWords(5), longWords()...) {
		for at := 1; at < len(w); at++ {
			low, okLow := impl.SliceWord(w, 0, at)
			high, okHigh := impl.SliceWord(w, at, len(w))
			if !okLow || !okHigh || len(low) != at || impl.ValueOf(low)+power[at]*impl.ValueOf(high) != impl.ValueOf(w) {
				t.Fatalf("%v in parts: %v, %v", w, low, high)
			}
			if joined, ok := impl.JoinWords(low, high); !ok || !slices.Equal(joined, w) {
				t.Fatalf("%v joined again: %v, %v", w, joined, ok)
			}
		}
		if whole, ok := impl.SliceWord(w, 0, len(w)); !ok || !slices.Equal(whole, w) {
			t.Fatalf("the whole of %v: %v, %v", w, whole, ok)
		}
	}
}

func TestReversedWords(t *testing.T) {
	for _, w := range append(shortWords(6), longWords()...) {
		reversed := impl.ReverseWord(w)
		if len(reversed) != len(w) || !slices.Equal(impl.ReverseWord(reversed), w) {
			t.Fatalf("%v reversed: %v", w, reversed)
		}
		for i, trit := range w {
			if reversed[len(w)-1-i] != trit {
				t.Fatalf("%v reversed: %v", w, reversed)
			}
		}
		if impl.WeightOf(reversed) != impl.WeightOf(w) || impl.SumOf(reversed) != impl.SumOf(w) {
			t.Fatalf("weight and sum of %v reversed", w)
		}
	}
}

func TestTextsAgreeWithTheWords(t *testing.T) {
	for _, w := range append(shortWords(6), longWords()...) {
		text := impl.FormatWord(w)
		if len(text) != len(w) {
			t.Fatalf("text %q of %v", text, w)
		}
		for i, trit := range w {
			if text[len(w)-1-i] != "-0+"[trit+1] {
				t.Fatalf("text %q of %v", text, w)
			}
		}
		if back, ok := impl.ParseWord(text); !ok || !slices.Equal(back, w) {
			t.Fatalf("text %q of %v is read as %v, %v", text, w, back, ok)
		}
	}
}

func TestShiftsMultiplyAndRound(t *testing.T) {
	power := powers()
	for _, w := range append(shortWords(5), longWords()...) {
		for by := 0; by <= impl.MaxWord-len(w); by++ {
			up, ok := impl.ShiftWord(w, by)
			if !ok || len(up) != len(w)+by || impl.ValueOf(up) != impl.ValueOf(w)*power[by] {
				t.Fatalf("%v shifted by %d: %v, %v", w, by, up, ok)
			}
			if back, fine := impl.ShiftWord(up, -by); !fine || !slices.Equal(back, w) {
				t.Fatalf("%v shifted by %d and back: %v", w, by, back)
			}
		}
		for by := 0; by <= len(w); by++ {
			down, ok := impl.ShiftWord(w, -by)
			if !ok || len(down) != max(len(w)-by, 1) || !isNearest(impl.ValueOf(w), impl.ValueOf(down)*power[by], power[by]) {
				t.Fatalf("%v shifted by %d: %v, %v", w, -by, down, ok)
			}
		}
	}
}

func TestRoundedWordsAreTheNearestOnes(t *testing.T) {
	power := powers()
	for _, w := range append(shortWords(6), longWords()...) {
		for k := 0; k <= len(w); k++ {
			rounded, ok := impl.RoundWord(w, k)
			n := impl.ValueOf(rounded)
			if !ok || len(rounded) != len(w) || n%power[k] != 0 || !isNearest(impl.ValueOf(w), n, power[k]) {
				t.Fatalf("%v without %d trits: %v, %v", w, k, rounded, ok)
			}
			if again, fine := impl.RoundWord(rounded, k); !fine || !slices.Equal(again, rounded) {
				t.Fatalf("%v without %d trits, twice: %v", w, k, again)
			}
		}
	}
}

// isNearest reports whether no multiple of step is as near to n as this one.
// The step is odd, so there are never two that are nearest.
func isNearest(n int, multiple int, step int) bool {
	return 2*(n-multiple) < step && 2*(multiple-n) < step
}
