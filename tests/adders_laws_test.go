package tests

// The laws of promise P4: all ways of adding give the sum of the values; carry maps may be joined in any grouping; redundant numbers are added without a carry that runs.

import (
	"slices"
	"testing"

	"loop.example/g03225/impl"
)

// likeWords returns lists of words that are all of the same number of trits:
// all short ones, and samples of every length.
func likeWords() [][][]int {
	lists := make([][][]int, impl.MaxWord)
	for _, w := range longWords() {
		lists[len(w)-1] = append(lists[len(w)-1], w)
	}
	for k := 1; k <= 4; k++ {
		lists[k-1] = allWords(k)
	}
	return lists
}

func TestSumsHaveTheSumOfTheValues(t *testing.T) {
	power := powers()
	for _, words := range likeWords() {
		for _, a := range words {
			for _, b := range words {
				for _, c := range trits {
					sum, carry, ok := impl.AddWords(a, b, c)
					if !ok || !impl.IsWord(sum) || len(sum) != len(a) || !impl.IsTrit(carry) {
						t.Fatalf("AddWords(%v, %v, %d) = %v, %d, %v", a, b, c, sum, carry, ok)
					}
					if impl.ValueOf(sum)+power[len(a)]*carry != impl.ValueOf(a)+impl.ValueOf(b)+c {
						t.Fatalf("AddWords(%v, %v, %d) = %v, %d", a, b, c, sum, carry)
					}
					ahead, last, fine := impl.AddAhead(a, b, c)
					if !fine || last != carry || !slices.Equal(ahead, sum) {
						t.Fatalf("AddAhead(%v, %v, %d) = %v, %d, %v", a, b, c, ahead, last, fine)
					}
				}
			}
		}
	}
}

func TestDifferencesHaveTheDifferenceOfTheValues(t *testing.T) {
	power := powers()
	for _, words := range likeWords() {
		for _, a := range words {
			for _, b := range words {
				rest, carry, ok := impl.SubWords(a, b)
				if !ok || !impl.IsWord(rest) || len(rest) != len(a) || !impl.IsTrit(carry) {
					t.Fatalf("SubWords(%v, %v) = %v, %d, %v", a, b, rest, carry, ok)
				}
				if impl.ValueOf(rest)+power[len(a)]*carry != impl.ValueOf(a)-impl.ValueOf(b) {
					t.Fatalf("SubWords(%v, %v) = %v, %d", a, b, rest, carry)
				}
			}
		}
	}
}

// TestCarriesJoinTheLowerPlaces expects in each place the carry of the sum of
// the places below it.
func TestCarriesJoinTheLowerPlaces(t *testing.T) {
	for _, words := range likeWords() {
		for _, a := range words {
			for _, b := range words {
				for _, c := range trits {
					carries, ok := impl.CarriesOf(a, b, c)
					if !ok || len(carries) != len(a) || carries[0] != c {
						t.Fatalf("CarriesOf(%v, %v, %d) = %v, %v", a, b, c, carries, ok)
					}
					for i := 1; i < len(a); i++ {
						if _, carry, _ := impl.AddWords(a[:i], b[:i], c); carries[i] != carry {
							t.Fatalf("CarriesOf(%v, %v, %d) = %v", a, b, c, carries)
						}
					}
				}
			}
		}
	}
}

func TestIncrementsReachAllWords(t *testing.T) {
	for k := 1; k <= 7; k++ {
		words := allWords(k)
		for i, w := range words {
			next, ok := impl.IncrementWord(w)
			last := i == len(words)-1
			if ok == last || !last && !slices.Equal(next, words[i+1]) || last && len(next) != 0 {
				t.Fatalf("IncrementWord(%v) = %v, %v", w, next, ok)
			}
		}
	}
	for _, w := range longWords() {
		want, fine := impl.WordOf(impl.ValueOf(w)+1, len(w))
		if next, ok := impl.IncrementWord(w); ok != fine || !slices.Equal(next, want) {
			t.Fatalf("IncrementWord(%v) = %v, %v", w, next, ok)
		}
	}
}

func TestTwoWordsForThree(t *testing.T) {
	for _, words := range likeWords() {
		words = words[:min(len(words), 27)]
		for _, a := range words {
			for _, b := range words {
				for _, c := range words {
					first, second, ok := impl.CarrySave(a, b, c)
					if !ok || len(first) != len(a) || len(second) != len(a) || second[0] != 0 {
						t.Fatalf("CarrySave(%v, %v, %v) = %v, %v, %v", a, b, c, first, second, ok)
					}
					checkPlaces(t, a, b, c, first, second)
					if total := valueOfAll(a, b, c); wrapped(total, len(a)) != wrapped(valueOfAll(first, second), len(a)) {
						t.Fatalf("CarrySave(%v, %v, %v) = %v, %v", a, b, c, first, second)
					}
				}
			}
		}
	}
}

// checkPlaces expects at each place what FullAdd gives for the three trits.
func checkPlaces(t *testing.T, a, b, c, first, second []int) {
	t.Helper()
	for i := range a {
		trit, carry := impl.FullAdd(a[i], b[i], c[i])
		if first[i] != trit || i+1 < len(a) && second[i+1] != carry {
			t.Fatalf("CarrySave(%v, %v, %v) = %v, %v", a, b, c, first, second)
		}
	}
}

func valueOfAll(words ...[]int) int {
	total := 0
	for _, w := range words {
		total += impl.ValueOf(w)
	}
	return total
}

// wrapped returns the value of a word of k trits that differs from n by a
// multiple of 3^k.
func wrapped(n int, k int) int {
	power := powers()[k]
	n %= power
	switch {
	case n > power/2:
		return n - power
	case n < -(power / 2):
		return n + power
	}
	return n
}

func TestTreesHaveTheSumOfTheValues(t *testing.T) {
	rounds := roundsOfTrees()
	for _, words := range likeWords() {
		for count := 1; count <= impl.MaxTerms; count++ {
			for shift := range 3 {
				var list [][]int
				for i := range count {
					list = append(list, words[(i*(shift+1)+shift*count)%len(words)])
				}
				sum, n, ok := impl.TreeSum(list)
				want, _ := impl.WordOf(wrapped(valueOfAll(list...), len(words[0])), len(words[0]))
				if !ok || !slices.Equal(sum, want) || n != rounds[count] {
					t.Fatalf("TreeSum(%v) = %v, %d, %v", list, sum, n, ok)
				}
			}
		}
	}
}

// roundsOfTrees has the number of rounds at the number of words.
func roundsOfTrees() []int {
	rounds := make([]int, impl.MaxTerms+1)
	for count := 3; count <= impl.MaxTerms; count++ {
		rounds[count] = 1 + rounds[count/3*2+count%3]
	}
	return rounds
}

// allCarryMaps returns each of the 27 carry maps once.
func allCarryMaps() []impl.CarryMap {
	var maps []impl.CarryMap
	for _, w := range allWords(3) {
		maps = append(maps, impl.CarryMap(w))
	}
	return maps
}

func TestCarryMapsTellTheCarries(t *testing.T) {
	for _, a := range trits {
		for _, b := range trits {
			f := impl.MapOf(a, b)
			for _, c := range trits {
				if _, carry := impl.FullAdd(a, b, c); f[c+1] != carry {
					t.Errorf("MapOf(%d, %d) = %v", a, b, f)
				}
			}
			if f != impl.MapOf(b, a) {
				t.Errorf("MapOf(%d, %d) differs from MapOf(%d, %d)", a, b, b, a)
			}
		}
	}
}

func TestCarryMapsAreJoinedInAnyGrouping(t *testing.T) {
	straight := impl.CarryMap{-1, 0, 1}
	maps := allCarryMaps()
	for _, f := range maps {
		if impl.ThenMap(f, straight) != f || impl.ThenMap(straight, f) != f {
			t.Errorf("%v changes if it is joined with %v", f, straight)
		}
		for _, g := range maps {
			both := impl.ThenMap(f, g)
			for _, c := range trits {
				if both[c+1] != g[f[c+1]+1] {
					t.Fatalf("ThenMap(%v, %v) = %v", f, g, both)
				}
			}
			for _, h := range maps {
				if impl.ThenMap(both, h) != impl.ThenMap(f, impl.ThenMap(g, h)) {
					t.Fatalf("grouping of %v, %v and %v", f, g, h)
				}
			}
		}
	}
}

// TestJoinedMapsGiveTheCarryOfTheSum cuts the places in two in each possible
// way, and each of both parts in halves, again and again.
func TestJoinedMapsGiveTheCarryOfTheSum(t *testing.T) {
	for _, words := range likeWords() {
		for i, a := range words {
			b := words[(7*i+3)%len(words)]
			whole := joinMaps(a, b)
			for _, c := range trits {
				if _, carry, _ := impl.AddWords(a, b, c); whole[c+1] != carry {
					t.Fatalf("carry map %v of %v and %v", whole, a, b)
				}
			}
			for at := 1; at < len(a); at++ {
				if impl.ThenMap(joinMaps(a[:at], b[:at]), joinMaps(a[at:], b[at:])) != whole {
					t.Fatalf("carry maps of %v and %v in two parts at %d", a, b, at)
				}
			}
		}
	}
}

func joinMaps(a []int, b []int) impl.CarryMap {
	if len(a) == 1 {
		return impl.MapOf(a[0], b[0])
	}
	at := len(a) / 2
	return impl.ThenMap(joinMaps(a[:at], b[:at]), joinMaps(a[at:], b[at:]))
}

// likeRedundants returns lists of redundant numbers that are all of the same
// number of digits: all short ones, and samples of every length. The longest
// ones can't be added.
func likeRedundants() [][][]int {
	lists := make([][][]int, impl.MaxWord)
	for k := 1; k <= impl.MaxWord; k++ {
		lists[k-1] = [][]int{repeated(2, k), repeated(-2, k)}
		if k <= 3 {
			lists[k-1] = allLists([]int{-2, -1, 0, 1, 2}, k)
		}
	}
	for i, w := range longWords() {
		d := slices.Clone(w)
		for at := i % 2; at < len(d); at += 2 {
			d[at] *= 2
		}
		lists[len(w)-1] = append(lists[len(w)-1], d, w)
	}
	return lists
}

// redundantValue adds up powers.
func redundantValue(d []int) int {
	power := powers()
	total := 0
	for i, digit := range d {
		total += digit * power[i]
	}
	return total
}

func TestRedundantNumbersHaveValues(t *testing.T) {
	for _, list := range likeRedundants() {
		for _, d := range list {
			n := redundantValue(d)
			if !impl.IsRedundant(d) || impl.ValueRedundant(d) != n {
				t.Fatalf("value of %v is %d, not %d", d, impl.ValueRedundant(d), n)
			}
			want, fine := impl.WordOf(n, len(d))
			if w, ok := impl.NormalRedundant(d); ok != fine || !slices.Equal(w, want) {
				t.Fatalf("NormalRedundant(%v) = %v, %v", d, w, ok)
			}
		}
	}
	for _, w := range longWords() {
		if same, ok := impl.NormalRedundant(w); !ok || !slices.Equal(same, w) || impl.ValueRedundant(w) != impl.ValueOf(w) {
			t.Fatalf("the word %v as a redundant number: %v, %v", w, same, ok)
		}
	}
}

func TestRedundantSumsHaveTheSumOfTheValues(t *testing.T) {
	for _, list := range likeRedundants()[:impl.MaxWord-1] {
		for _, a := range list {
			for _, b := range list {
				sum, ok := impl.AddRedundant(a, b)
				if !ok || !impl.IsRedundant(sum) || len(sum) != len(a)+1 || impl.ValueRedundant(sum) != redundantValue(a)+redundantValue(b) {
					t.Fatalf("AddRedundant(%v, %v) = %v, %v", a, b, sum, ok)
				}
			}
		}
	}
}

// TestNoCarryRuns changes the digits below a place and the next lower one, and
// those above it: the digit of the sum stays.
func TestNoCarryRuns(t *testing.T) {
	const k = 6
	for i := range k {
		for _, low := range []int{-2, 0, 1, 2} {
			for here := -2; here <= 2; here++ {
				a, b := repeated(low, k), repeated(low, k)
				a[i], b[i] = here, low
				if i > 0 {
					a[i-1], b[i-1] = here, -low
				}
				sum, _ := impl.AddRedundant(a, b)
				for other := -2; other <= 2; other++ {
					for at := range k {
						if at != i && at != i-1 {
							a[at], b[at] = other, 2
						}
					}
					changed, ok := impl.AddRedundant(a, b)
					if !ok || changed[i] != sum[i] {
						t.Fatalf("the digit %d of %v and %v is %d, not %d", i, a, b, changed[i], sum[i])
					}
				}
			}
		}
	}
}

// TestAllWaysOfAddingAgree adds four words in each way that the chapter has.
func TestAllWaysOfAddingAgree(t *testing.T) {
	for _, words := range likeWords()[:impl.MaxWord-2] {
		for i := range words {
			var wide [][]int
			for j := range 4 {
				w, _ := impl.ExtendWord(words[(i*(j+1)+j)%len(words)], len(words[0])+2)
				wide = append(wide, w)
			}
			total := valueOfAll(wide...)
			tree, _, ok := impl.TreeSum(wide)
			if !ok || impl.ValueOf(tree) != total {
				t.Fatalf("TreeSum(%v) = %v, %v", wide, tree, ok)
			}
			step, _, _ := impl.AddWords(wide[0], wide[1], 0)
			ahead, _, _ := impl.AddAhead(wide[2], wide[3], 0)
			last, carry, ok := impl.AddWords(step, ahead, 0)
			if !ok || carry != 0 || !slices.Equal(last, tree) {
				t.Fatalf("the words %v added in pairs: %v, %d, %v", wide, last, carry, ok)
			}
			if redundant := redundantSum(wide); impl.ValueRedundant(redundant) != total {
				t.Fatalf("the words %v as redundant numbers: %v", wide, redundant)
			}
		}
	}
}

// redundantSum adds the lowest digits of words that have two zeros on top.
func redundantSum(wide [][]int) []int {
	k := len(wide[0]) - 2
	left, _ := impl.AddRedundant(wide[0][:k], wide[1][:k])
	right, _ := impl.AddRedundant(wide[2][:k], wide[3][:k])
	sum, _ := impl.AddRedundant(left, right)
	return sum
}
