package tests

// The laws of promise P2: trits are an ordered set with negation, and their sums and tables go along with it.

import (
	"testing"

	"loop.example/g03225/impl"
)

func TestNegationAndTurningAreCircles(t *testing.T) {
	for _, a := range trits {
		if impl.NotTrit(impl.NotTrit(a)) != a {
			t.Errorf("NotTrit twice changes %d", a)
		}
		if impl.SignOf(a) != a || impl.SignOf(impl.NotTrit(a)) != -impl.SignOf(a) {
			t.Errorf("SignOf does not keep the trit %d", a)
		}
		once := impl.TurnTrit(a)
		if once == a || impl.TurnTrit(once) == a || impl.TurnTrit(impl.TurnTrit(once)) != a {
			t.Errorf("TurnTrit from %d is no circle of three", a)
		}
		if impl.NotTrit(impl.TurnTrit(impl.NotTrit(impl.TurnTrit(a)))) != a {
			t.Errorf("NotTrit does not turn TurnTrit around at %d", a)
		}
	}
}

func TestOrderIsALattice(t *testing.T) {
	for _, a := range trits {
		if impl.MinTrits(a, a) != a || impl.MaxTrits(a, a) != a {
			t.Errorf("min or max of %d and itself", a)
		}
		if impl.MinTrits(a, 1) != a || impl.MaxTrits(a, -1) != a || impl.MinTrits(a, -1) != -1 || impl.MaxTrits(a, 1) != 1 {
			t.Errorf("bounds of the order at %d", a)
		}
		for _, b := range trits {
			low, high := impl.MinTrits(a, b), impl.MaxTrits(a, b)
			if low > high || low+high != a+b || low != a && low != b {
				t.Errorf("min %d and max %d of %d and %d", low, high, a, b)
			}
			if impl.MaxTrits(a, low) != a || impl.MinTrits(a, high) != a {
				t.Errorf("absorption at %d, %d", a, b)
			}
			if impl.NotTrit(low) != impl.MaxTrits(impl.NotTrit(a), impl.NotTrit(b)) {
				t.Errorf("negation does not turn the order around at %d, %d", a, b)
			}
			for _, c := range trits {
				if impl.MinTrits(low, c) != impl.MinTrits(a, impl.MinTrits(b, c)) || impl.MaxTrits(high, c) != impl.MaxTrits(a, impl.MaxTrits(b, c)) {
					t.Errorf("grouping at %d, %d, %d", a, b, c)
				}
				if impl.MinTrits(a, impl.MaxTrits(b, c)) != impl.MaxTrits(low, impl.MinTrits(a, c)) {
					t.Errorf("distribution at %d, %d, %d", a, b, c)
				}
			}
		}
	}
}

func TestTwoTritFunctionsAreSymmetricTrits(t *testing.T) {
	for name, f := range twoTritFunctions {
		for _, a := range trits {
			for _, b := range trits {
				if f(a, b) != f(b, a) || !impl.IsTrit(f(a, b)) {
					t.Errorf("%s of %d and %d", name, a, b)
				}
			}
		}
	}
}

func TestNegationGoesThroughAgreeAnyAndTimes(t *testing.T) {
	for _, a := range trits {
		if impl.AgreeTrits(a, a) != a || impl.AnyTrits(a, 0) != a || impl.AnyTrits(a, -a) != 0 || impl.TimesTrits(a, 1) != a || impl.TimesTrits(a, 0) != 0 || impl.TimesTrits(a, -1) != impl.NotTrit(a) {
			t.Errorf("neutral trits at %d", a)
		}
		for _, b := range trits {
			if impl.AgreeTrits(-a, -b) != -impl.AgreeTrits(a, b) || impl.AnyTrits(-a, -b) != -impl.AnyTrits(a, b) {
				t.Errorf("negatives of both at %d, %d", a, b)
			}
			if impl.TimesTrits(-a, b) != -impl.TimesTrits(a, b) || impl.TimesTrits(-a, -b) != impl.TimesTrits(a, b) {
				t.Errorf("signs of the product at %d, %d", a, b)
			}
		}
	}
}

func TestSumsAreSplitIntoTritAndCarry(t *testing.T) {
	for _, a := range trits {
		for _, b := range trits {
			s, k := impl.HalfAdd(a, b)
			if !impl.IsTrit(s) || !impl.IsTrit(k) || s+3*k != a+b {
				t.Errorf("HalfAdd(%d, %d) = %d, %d", a, b, s, k)
			}
			if k != impl.AgreeTrits(a, b) {
				t.Errorf("carry of %d and %d is %d", a, b, k)
			}
			for _, c := range trits {
				checkFullAdd(t, a, b, c)
			}
		}
	}
}

func checkFullAdd(t *testing.T, a int, b int, c int) {
	s, k := impl.FullAdd(a, b, c)
	if !impl.IsTrit(s) || !impl.IsTrit(k) || s+3*k != a+b+c {
		t.Errorf("FullAdd(%d, %d, %d) = %d, %d", a, b, c, s, k)
	}
	if sn, kn := impl.FullAdd(-a, -b, -c); sn != -s || kn != -k {
		t.Errorf("FullAdd of the negatives of %d, %d, %d", a, b, c)
	}
	if s1, k1 := impl.FullAdd(c, a, b); s1 != s || k1 != k {
		t.Errorf("FullAdd of %d, %d, %d in another order", a, b, c)
	}
	s1, k1 := impl.HalfAdd(a, b)
	s2, k2 := impl.HalfAdd(s1, c)
	if s2 != s || impl.AnyTrits(k1, k2) != k {
		t.Errorf("two HalfAdd do not give FullAdd(%d, %d, %d)", a, b, c)
	}
}

func TestNamedTablesAreOrderedAndDual(t *testing.T) {
	duals := map[string]string{"min": "max", "max": "min", "agree": "agree", "any": "any", "sum": "sum", "carry": "carry"}
	monotone := map[string]bool{"min": true, "max": true, "agree": true, "any": true, "carry": true}
	for _, name := range tableNames {
		table := impl.TableOf(name)
		if !impl.IsTable(table) || impl.SwapTable(table) != table {
			t.Errorf("table %s is not a symmetric one", name)
		}
		if impl.IsMonotone(table) != monotone[name] {
			t.Errorf("IsMonotone of %s is %v", name, !monotone[name])
		}
		if dual, ok := duals[name]; ok && impl.DualTable(table) != impl.TableOf(dual) {
			t.Errorf("dual of %s is not %s", name, dual)
		}
	}
	if impl.DualTable(impl.TableOf("times")) == impl.TableOf("times") {
		t.Error("the product has negatives for negatives")
	}
}

func TestLawsOfAllTables(t *testing.T) {
	texts := map[string]bool{}
	monotone := 0
	for _, table := range allTables() {
		swapped, dual, ordered := impl.SwapTable(table), impl.DualTable(table), impl.IsMonotone(table)
		if !impl.IsTable(table) || impl.SwapTable(swapped) != table || impl.DualTable(dual) != table {
			t.Fatalf("swapping or dual twice changes %v", table)
		}
		if impl.DualTable(swapped) != impl.SwapTable(dual) {
			t.Fatalf("swapped dual of %v", table)
		}
		if impl.IsMonotone(swapped) != ordered || impl.IsMonotone(dual) != ordered {
			t.Fatalf("order of the swapped and the dual table of %v", table)
		}
		text := impl.FormatTable(table)
		back, ok := impl.ParseTable(text)
		if !ok || back != table || texts[text] {
			t.Fatalf("text %q of %v", text, table)
		}
		texts[text] = true
		if ordered {
			monotone++
		}
	}
	// 175 is the number of plane partitions in a box of 3 by 3 by 2.
	if len(texts) != 19683 || monotone != 175 {
		t.Errorf("%d texts, %d monotone tables", len(texts), monotone)
	}
}
