package tests

// What chapter 2 specifies for all arguments (promise P11): literal results, edge cases and invalid arguments.

import (
	"math"
	"strings"
	"testing"

	"loop.example/g03225/impl"
)

func TestSingleTrits(t *testing.T) {
	for _, x := range []struct{ a, not, turn int }{{-1, 1, 0}, {0, 0, 1}, {1, -1, -1}} {
		if !impl.IsTrit(x.a) || impl.NotTrit(x.a) != x.not || impl.TurnTrit(x.a) != x.turn {
			t.Errorf("the trit %d: %v, %d, %d", x.a, impl.IsTrit(x.a), impl.NotTrit(x.a), impl.TurnTrit(x.a))
		}
	}
	for _, bad := range notTrits {
		if impl.IsTrit(bad) || impl.NotTrit(bad) != 0 || impl.TurnTrit(bad) != 0 {
			t.Errorf("%d is no trit: %v, %d, %d", bad, impl.IsTrit(bad), impl.NotTrit(bad), impl.TurnTrit(bad))
		}
	}
}

func TestSignOfAllNumbers(t *testing.T) {
	for _, x := range []struct{ n, sign int }{
		{0, 0}, {1, 1}, {-1, -1}, {2, 1}, {-2, -1}, {3, 1}, {-3, -1}, {1 << 32, 1}, {-1 << 32, -1},
		{math.MaxInt, 1}, {math.MinInt, -1}, {math.MinInt + 1, -1},
	} {
		if got := impl.SignOf(x.n); got != x.sign {
			t.Errorf("SignOf(%d) = %d", x.n, got)
		}
	}
}

func TestTablesOfNames(t *testing.T) {
	for _, x := range []struct{ name, text string }{
		{"min", "----00-0+"},
		{"max", "-0+00++++"},
		{"agree", "-0000000+"},
		{"any", "--0-0+0++"},
		{"times", "+0-000-0+"},
		{"sum", "+-0-0+0+-"},
		{"carry", "-0000000+"},
	} {
		if got := impl.FormatTable(impl.TableOf(x.name)); got != x.text {
			t.Errorf("table %s is %q", x.name, got)
		}
	}
	for _, name := range []string{"", "Min", "MAX", "min ", " min", "mi", "mini", "not", "turn", "half", "minmax", "min\x00", "s\xffm"} {
		if impl.TableOf(name) != (impl.Table{}) {
			t.Errorf("TableOf(%q) is not the zero value", name)
		}
	}
}

func TestTablesHaveTheFunctions(t *testing.T) {
	functions := map[string]func(a int, b int) int{
		"min":   impl.MinTrits,
		"max":   impl.MaxTrits,
		"agree": impl.AgreeTrits,
		"any":   impl.AnyTrits,
		"times": impl.TimesTrits,
		"sum":   func(a int, b int) int { s, _ := impl.HalfAdd(a, b); return s },
		"carry": func(a int, b int) int { _, k := impl.HalfAdd(a, b); return k },
	}
	for _, name := range tableNames {
		table := impl.TableOf(name)
		for _, a := range trits {
			for _, b := range trits {
				want := functions[name](a, b)
				if impl.LookUp(table, a, b) != want || table[3*(a+1)+b+1] != want {
					t.Errorf("table %s at %d, %d", name, a, b)
				}
			}
		}
	}
}

func TestLookUpInAllTables(t *testing.T) {
	for _, table := range allTables() {
		for _, a := range trits {
			for _, b := range trits {
				if got := impl.LookUp(table, a, b); got != table[3*(a+1)+b+1] {
					t.Fatalf("LookUp(%v, %d, %d) = %d", table, a, b, got)
				}
			}
		}
	}
}

func TestFullAddResults(t *testing.T) {
	for _, x := range []struct{ a, b, c, s, k int }{
		{0, 0, 0, 0, 0}, {1, 0, 0, 1, 0}, {1, 1, 0, -1, 1}, {1, 1, 1, 0, 1}, {-1, -1, -1, 0, -1},
		{-1, 0, -1, 1, -1}, {-1, 1, 0, 0, 0}, {1, -1, 1, 1, 0}, {-1, -1, 1, -1, 0},
	} {
		if s, k := impl.FullAdd(x.a, x.b, x.c); s != x.s || k != x.k {
			t.Errorf("FullAdd(%d, %d, %d) = %d, %d", x.a, x.b, x.c, s, k)
		}
	}
}

func TestNumbersThatAreNoTritsGiveZero(t *testing.T) {
	others := append([]int{-1, 0, 1}, notTrits...)
	for _, bad := range notTrits {
		for _, x := range others {
			for name, f := range twoTritFunctions {
				if f(bad, x) != 0 || f(x, bad) != 0 {
					t.Errorf("%s of %d and %d is not 0", name, bad, x)
				}
			}
			checkNoSum(t, bad, x)
			for _, name := range tableNames {
				table := impl.TableOf(name)
				if impl.LookUp(table, bad, x) != 0 || impl.LookUp(table, x, bad) != 0 {
					t.Errorf("LookUp in %s at %d and %d is not 0", name, bad, x)
				}
			}
		}
	}
}

func checkNoSum(t *testing.T, bad int, x int) {
	for _, pair := range [][2]int{{bad, x}, {x, bad}} {
		if s, k := impl.HalfAdd(pair[0], pair[1]); s != 0 || k != 0 {
			t.Errorf("HalfAdd(%d, %d) = %d, %d", pair[0], pair[1], s, k)
		}
	}
	for _, y := range trits {
		for _, list := range [][3]int{{bad, x, y}, {x, bad, y}, {x, y, bad}} {
			if s, k := impl.FullAdd(list[0], list[1], list[2]); s != 0 || k != 0 {
				t.Errorf("FullAdd(%d, %d, %d) = %d, %d", list[0], list[1], list[2], s, k)
			}
		}
	}
}

func TestTablesThatAreNotValidGiveZero(t *testing.T) {
	for _, table := range invalidTables() {
		if impl.IsTable(table) || impl.IsMonotone(table) || impl.FormatTable(table) != "" {
			t.Errorf("%v passes as a table", table)
		}
		if impl.SwapTable(table) != (impl.Table{}) || impl.DualTable(table) != (impl.Table{}) {
			t.Errorf("%v is swapped or has a dual table", table)
		}
		for _, a := range trits {
			for _, b := range trits {
				if impl.LookUp(table, a, b) != 0 {
					t.Errorf("LookUp in %v at %d, %d", table, a, b)
				}
			}
		}
	}
}

func TestSwappedAndDualTables(t *testing.T) {
	for _, x := range []struct{ text, swapped, dual string }{
		{"---000+++", "-0+-0+-0+", "---000+++"},
		{"+0-+0-+0-", "+++000---", "+0-+0-+0-"},
		{"0+-------", "0--+-----", "+++++++-0"},
		{"---------", "---------", "+++++++++"},
	} {
		table, ok := impl.ParseTable(x.text)
		if !ok || impl.FormatTable(impl.SwapTable(table)) != x.swapped || impl.FormatTable(impl.DualTable(table)) != x.dual {
			t.Errorf("%s: %s, %s", x.text, impl.FormatTable(impl.SwapTable(table)), impl.FormatTable(impl.DualTable(table)))
		}
	}
}

func TestIsMonotoneComparesAllPlaces(t *testing.T) {
	for _, table := range allTables() {
		if impl.IsMonotone(table) != neverLess(table) {
			t.Fatalf("IsMonotone(%v) = %v", table, impl.IsMonotone(table))
		}
	}
}

// neverLess asks all pairs of places, one of which is at or above the other in both a and b.
func neverLess(table impl.Table) bool {
	for low, v := range table {
		for high, w := range table {
			if low/3 <= high/3 && low%3 <= high%3 && w < v {
				return false
			}
		}
	}
	return true
}

func TestTextsOfTables(t *testing.T) {
	table := impl.Table{-1, 0, 1, 1, 0, -1, 0, 1, -1}
	if got := impl.FormatTable(table); got != "-0++0-0+-" {
		t.Errorf("FormatTable = %q", got)
	}
	if got, ok := impl.ParseTable("-0++0-0+-"); !ok || got != table {
		t.Errorf("ParseTable = %v, %v", got, ok)
	}
	if got := impl.FormatTable(impl.Table{}); got != "000000000" {
		t.Errorf("the zero table is %q", got)
	}
	if got, ok := impl.ParseTable("000000000"); !ok || got != (impl.Table{}) {
		t.Errorf("ParseTable of zeros = %v, %v", got, ok)
	}
}

func TestTextsThatAreNoTables(t *testing.T) {
	texts := []string{
		"", "+", "++++++++", "++++++++++", " +++++++++", "+++++++++ ", "+++++++++\n", "+++\n+++\n+++",
		strings.Repeat("+", 18), strings.Repeat("0", 1000), "++++\u2212++", "+\u2212+\u2212+", "+++++\xff\xfe++",
	}
	for i := range 9 {
		for _, bad := range []byte{'1', '2', 'T', 'O', 'o', ' ', ',', '.', '*', '/', 0, '\n', 0x80, 0xff, '+' + 128, '-' + 128} {
			text := []byte("+0-+0-+0-")
			text[i] = bad
			texts = append(texts, string(text))
		}
	}
	for _, text := range texts {
		if table, ok := impl.ParseTable(text); ok || table != (impl.Table{}) {
			t.Errorf("ParseTable(%q) = %v, %v", text, table, ok)
		}
	}
}
