package tests

// The laws of promise P10: the sequences have each word once, and no squares, as is said of them.

import (
	"slices"
	"testing"

	"loop.example/g03225/impl"
)

// grayWord expects that there is a word with the index i.
func grayWord(t *testing.T, i int, k int) []int {
	t.Helper()
	w, ok := impl.GrayWord(i, k)
	if !ok || len(w) != k {
		t.Fatalf("GrayWord(%d, %d) = %v, %v", i, k, w, ok)
	}
	return w
}

// stepsBetween returns the sum of the differences at all places.
func stepsBetween(a []int, b []int) int {
	steps := 0
	for i := range a {
		steps += max(a[i]-b[i], b[i]-a[i])
	}
	return steps
}

func TestGraySequencesHaveEachWordOnce(t *testing.T) {
	for k := 1; k <= 9; k++ {
		seen := map[int]bool{}
		for i := range powers()[k] {
			w := grayWord(t, i, k)
			if n := impl.ValueOf(w); !impl.IsWord(w) || seen[n] {
				t.Fatalf("GrayWord(%d, %d) = %v, which is there twice or no word", i, k, w)
			}
			seen[impl.ValueOf(w)] = true
		}
	}
}

// grayIndices returns indices of words of k trits: the first and the last ones,
// those around the limits of the thirds of the sequence, of the sequences that
// it is made of, and some that follow no short rule.
func grayIndices(k int) []int {
	count := powers()[k]
	list := []int{0, 1, count / 2, count - 2, count - 1}
	maker := numberMaker{k}
	for _, third := range powers()[:k] {
		list = append(list, third-1, third, 2*third-1, 2*third, count-third-1, count-third, count-2*third-1, count-2*third)
		list = append(list, maker.number(32768)*32768*32768%count+maker.number(32768)%third)
	}
	return slices.DeleteFunc(list, func(i int) bool { return i < 0 || i >= count })
}

func TestGrayNeighboursDifferByOne(t *testing.T) {
	for k := 1; k <= impl.MaxWord; k++ {
		for _, i := range grayIndices(k) {
			if i+1 == powers()[k] {
				continue
			}
			if w, next := grayWord(t, i, k), grayWord(t, i+1, k); stepsBetween(w, next) != 1 {
				t.Fatalf("the words %d and %d of %d trits: %v, %v", i, i+1, k, w, next)
			}
		}
	}
}

func TestGrayRanksAreTheIndices(t *testing.T) {
	for k := 1; k <= impl.MaxWord; k++ {
		for _, i := range grayIndices(k) {
			if w := grayWord(t, i, k); impl.GrayRank(w) != i {
				t.Fatalf("GrayRank(%v) = %d, not %d", w, impl.GrayRank(w), i)
			}
		}
	}
	for _, w := range append(shortWords(8), longWords()...) {
		if back := grayWord(t, impl.GrayRank(w), len(w)); !slices.Equal(back, w) {
			t.Fatalf("the rank %d of %v is that of %v", impl.GrayRank(w), w, back)
		}
	}
}

func TestGraySequencesAreMadeOfShorterOnes(t *testing.T) {
	for k := 1; k < impl.MaxWord; k++ {
		count := powers()[k]
		for _, i := range grayIndices(k) {
			w := grayWord(t, i, k)
			for _, x := range []struct{ index, highest int }{{i, -1}, {2*count - 1 - i, 0}, {2*count + i, 1}} {
				want := append(slices.Clone(w), x.highest)
				if got := grayWord(t, x.index, k+1); !slices.Equal(got, want) {
					t.Fatalf("GrayWord(%d, %d) = %v, not %v", x.index, k+1, got, want)
				}
			}
		}
	}
}

func TestRotationsAreAddedUp(t *testing.T) {
	for _, w := range append(shortWords(5), longWords()...) {
		k := len(w)
		for by := -2 * k; by <= 2*k; by++ {
			rotated := impl.RotateWord(w, by)
			if !slices.Equal(rotated, impl.RotateWord(w, by+k)) || !slices.Equal(impl.RotateWord(rotated, -by), w) || !slices.Equal(impl.RotateWord(rotated, 1), impl.RotateWord(w, by+1)) {
				t.Fatalf("RotateWord(%v, %d) = %v", w, by, rotated)
			}
			if reversed := impl.ReverseWord(rotated); !slices.Equal(reversed, impl.RotateWord(impl.ReverseWord(w), -by)) {
				t.Fatalf("RotateWord(%v, %d) is backwards %v", w, by, reversed)
			}
		}
		if !slices.Equal(impl.RotateWord(w, 0), w) || !slices.Equal(impl.RotateWord(w, k), w) {
			t.Fatalf("%v is not rotated by 0 or %d to itself", w, k)
		}
	}
}

func TestRotationsShareTheirNecklace(t *testing.T) {
	for _, w := range append(shortWords(6), longWords()...) {
		necklace := impl.NecklaceOf(w)
		isThere := false
		for by := range w {
			rotated := impl.RotateWord(w, by)
			isThere = isThere || slices.Equal(rotated, necklace)
			if slices.Compare(rotated, necklace) < 0 || !slices.Equal(impl.NecklaceOf(rotated), necklace) {
				t.Fatalf("NecklaceOf(%v) = %v, but %v of %v", w, necklace, impl.NecklaceOf(rotated), rotated)
			}
		}
		if !isThere {
			t.Fatalf("NecklaceOf(%v) = %v", w, necklace)
		}
	}
}

// rootOf returns the shortest word that w is, over and over.
func rootOf(w []int) []int {
	for k := 1; k < len(w); k++ {
		if len(w)%k == 0 && slices.Equal(slices.Repeat(w[:k], len(w)/k), w) {
			return w[:k]
		}
	}
	return w
}

func TestNecklacesRepeatOneWord(t *testing.T) {
	for _, w := range append(shortWords(7), longWords()...) {
		root := rootOf(impl.NecklaceOf(w))
		if !impl.IsLyndon(root) {
			t.Fatalf("NecklaceOf(%v) repeats %v", w, root)
		}
		if isRoot := slices.Equal(root, w); impl.IsLyndon(w) != isRoot {
			t.Fatalf("IsLyndon(%v) = %v, where %v is the root", w, impl.IsLyndon(w), root)
		}
	}
}

// lyndonWords expects that there are words for k.
func lyndonWords(t *testing.T, k int) [][]int {
	t.Helper()
	words, ok := impl.LyndonWords(k)
	if !ok || len(words) == 0 {
		t.Fatalf("LyndonWords(%d) = %v, %v", k, words, ok)
	}
	return words
}

// TestEachWordRepeatsOneOfTheLyndonWords goes through the words of k trits, of
// which each is a rotation of just one of the words, over and over.
func TestEachWordRepeatsOneOfTheLyndonWords(t *testing.T) {
	for k := 1; k <= impl.MaxSequence; k++ {
		times := map[int]int{}
		for _, w := range lyndonWords(t, k) {
			if len(w) == 0 || k%len(w) != 0 {
				t.Fatalf("%v in LyndonWords(%d)", w, k)
			}
			long := slices.Repeat(w, k/len(w))
			for by := range w {
				times[impl.ValueOf(impl.RotateWord(long, by))]++
			}
		}
		for _, w := range allWords(k) {
			if n := impl.ValueOf(w); times[n] != 1 {
				t.Fatalf("%v is there %d times among the rotations of LyndonWords(%d)", w, times[n], k)
			}
		}
	}
}

func TestLyndonWordsAscend(t *testing.T) {
	for k := 1; k <= impl.MaxSequence; k++ {
		words := lyndonWords(t, k)
		for i, w := range words {
			if !impl.IsLyndon(w) || i > 0 && slices.Compare(words[i-1], w) >= 0 {
				t.Fatalf("%v in LyndonWords(%d)", w, k)
			}
		}
	}
}

func TestCirclesHaveEachWordOnce(t *testing.T) {
	for k := 1; k <= impl.MaxSequence; k++ {
		circle, ok := impl.CircleOf(k)
		if !ok || len(circle) != powers()[k] {
			t.Fatalf("CircleOf(%d) has %d trits, %v", k, len(circle), ok)
		}
		around := append(slices.Clone(circle), circle[:k-1]...)
		seen := map[int]bool{}
		for i := range circle {
			w := around[i : i+k]
			if n := impl.ValueOf(w); !impl.IsWord(w) || seen[n] {
				t.Fatalf("%v is there twice in CircleOf(%d), or is no word", w, k)
			}
			seen[impl.ValueOf(w)] = true
		}
		if joined := slices.Concat(lyndonWords(t, k)...); !slices.Equal(joined, circle) {
			t.Errorf("CircleOf(%d) = %v, not %v", k, circle, joined)
		}
	}
}

// thueTrits expects that there are n trits.
func thueTrits(t *testing.T, n int) []int {
	t.Helper()
	list, ok := impl.ThueTrits(n)
	if !ok || len(list) != n {
		t.Fatalf("ThueTrits(%d) = %v, %v", n, list, ok)
	}
	return list
}

// replaced returns a list with the trits replaced.
func replaced(list []int) []int {
	var parts []int
	for _, trit := range list {
		parts = append(parts, map[int][]int{1: {1, 0, -1}, 0: {1, -1}, -1: {0}}[trit]...)
	}
	return parts
}

func TestThueTritsAreNotChanged(t *testing.T) {
	long := thueTrits(t, impl.MaxThue)
	for n := range impl.MaxThue + 1 {
		list := thueTrits(t, n)
		if !slices.Equal(list, long[:n]) {
			t.Fatalf("ThueTrits(%d) = %v", n, list)
		}
		if got := replaced(list); !slices.Equal(got[:min(len(got), impl.MaxThue)], long[:min(len(got), impl.MaxThue)]) {
			t.Fatalf("ThueTrits(%d) is replaced by %v", n, got)
		}
	}
}

func TestThueTritsHaveNoSquares(t *testing.T) {
	for n := range impl.MaxThue + 1 {
		if list := thueTrits(t, n); impl.HasSquare(list) {
			t.Fatalf("ThueTrits(%d) = %v", n, list)
		}
	}
	if list := thueTrits(t, impl.MaxThue); hasSquare(list) {
		t.Errorf("ThueTrits(%d) = %v", len(list), list)
	}
}

// hasSquare compares each part with the part behind it.
func hasSquare(list []int) bool {
	for from := range list {
		for size := 1; from+2*size <= len(list); size++ {
			if slices.Equal(list[from:from+size], list[from+size:from+2*size]) {
				return true
			}
		}
	}
	return false
}

func TestSquares(t *testing.T) {
	for k := range 10 {
		for _, list := range allLists(trits, k) {
			if got := impl.HasSquare(list); got != hasSquare(list) {
				t.Fatalf("HasSquare(%v) = %v", list, got)
			}
		}
	}
	// All lists of two numbers that are longer than three have squares.
	for k := range 12 {
		for _, list := range allLists([]int{-1, 1}, k) {
			if got := impl.HasSquare(list); got != hasSquare(list) || k > 3 && !got {
				t.Fatalf("HasSquare(%v) = %v", list, got)
			}
		}
	}
}

// TestSquaresAmongThueTrits puts a square of each size behind, before and
// between numbers that have none.
func TestSquaresAmongThueTrits(t *testing.T) {
	long := thueTrits(t, impl.MaxThue)
	for size := 1; size <= impl.MaxThue/2; size++ {
		part := long[size : 2*size]
		twice := slices.Concat(part, part)
		// Numbers that are nowhere else make the rest have no square.
		var others []int
		for n := range 40 {
			others = append(others, 100+n)
		}
		for _, list := range [][]int{twice, slices.Concat(twice, others), slices.Concat(others, twice), slices.Concat(others, twice, []int{7, 8, 9})} {
			if !impl.HasSquare(list) {
				t.Fatalf("HasSquare(%v) is false", list)
			}
		}
		for _, list := range [][]int{slices.Concat(part, []int{7}, part), slices.Concat(others, part, []int{7}, part), slices.Concat(part, others, part)} {
			if impl.HasSquare(list) {
				t.Fatalf("HasSquare(%v) is true", list)
			}
		}
	}
}
