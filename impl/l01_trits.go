package impl

import "strings"

// Table has the trit for a and b at the index 3 (a + 1) + b + 1.
type Table [9]int

// tritSigns has the sign of the trit a at the index a + 1.
const tritSigns = "-0+"

func IsTrit(a int) bool { return a >= -1 && a <= 1 }

func areTrits(a int, b int) bool { return IsTrit(a) && IsTrit(b) }

func SignOf(n int) int {
	switch {
	case n < 0:
		return -1
	case n > 0:
		return 1
	}
	return 0
}

func NotTrit(a int) int {
	if !IsTrit(a) {
		return 0
	}
	return -a
}

func TurnTrit(a int) int {
	switch a {
	case -1:
		return 0
	case 0:
		return 1
	case 1:
		return -1
	}
	return 0
}

func MinTrits(a int, b int) int {
	if !areTrits(a, b) {
		return 0
	}
	return min(a, b)
}

func MaxTrits(a int, b int) int {
	if !areTrits(a, b) {
		return 0
	}
	return max(a, b)
}

func AgreeTrits(a int, b int) int {
	if !areTrits(a, b) || a != b {
		return 0
	}
	return a
}

func AnyTrits(a int, b int) int {
	if !areTrits(a, b) {
		return 0
	}
	return SignOf(a + b)
}

func TimesTrits(a int, b int) int {
	if !areTrits(a, b) {
		return 0
	}
	return a * b
}

func HalfAdd(a int, b int) (int, int) {
	if !areTrits(a, b) {
		return 0, 0
	}
	return splitSum(a + b)
}

func FullAdd(a int, b int, c int) (int, int) {
	if !areTrits(a, b) || !IsTrit(c) {
		return 0, 0
	}
	return splitSum(a + b + c)
}

// splitSum returns the trits s and k with n = s + 3 k. There are such trits
// for all n from -4 to 4, which is more than three trits can add up to.
func splitSum(n int) (int, int) {
	k := 0
	switch {
	case n > 1:
		k = 1
	case n < -1:
		k = -1
	}
	return n - 3*k, k
}

// IsTable compares t with its own signs, because trits, and no other numbers,
// are their own signs.
func IsTable(t Table) bool { return t == signTable(t) }

func signTable(t Table) Table {
	for i, v := range t {
		t[i] = SignOf(v)
	}
	return t
}

func LookUp(t Table, a int, b int) int {
	if !IsTable(t) || !areTrits(a, b) {
		return 0
	}
	return t[tableIndex(a, b)]
}

func tableIndex(a int, b int) int { return 3*(a+1) + b + 1 }

func TableOf(name string) Table {
	switch name {
	case "min":
		return fillTable(MinTrits)
	case "max":
		return fillTable(MaxTrits)
	case "agree":
		return fillTable(AgreeTrits)
	case "any":
		return fillTable(AnyTrits)
	case "times":
		return fillTable(TimesTrits)
	case "sum":
		return fillTable(sumTrit)
	case "carry":
		return fillTable(carryTrit)
	}
	return Table{}
}

func sumTrit(a int, b int) int {
	s, _ := HalfAdd(a, b)
	return s
}

func carryTrit(a int, b int) int {
	_, k := HalfAdd(a, b)
	return k
}

// fillTable returns the table of a function of two trits.
func fillTable(trit func(a int, b int) int) Table {
	var t Table
	for a := -1; a <= 1; a++ {
		for b := -1; b <= 1; b++ {
			t[tableIndex(a, b)] = trit(a, b)
		}
	}
	return t
}

// SwapTable needs no test whether t is valid: LookUp gives 0 everywhere in a
// table that is not, and so the result is the zero value.
func SwapTable(t Table) Table {
	return fillTable(func(a int, b int) int { return LookUp(t, b, a) })
}

// DualTable needs no test whether t is valid either, as SwapTable.
func DualTable(t Table) Table {
	return fillTable(func(a int, b int) int { return NotTrit(LookUp(t, -a, -b)) })
}

// IsMonotone compares neighbours only: to make a or b greater by more than 1
// is to do several such steps.
func IsMonotone(t Table) bool {
	if !IsTable(t) {
		return false
	}
	for low := -1; low < 1; low++ {
		for other := -1; other <= 1; other++ {
			if LookUp(t, low+1, other) < LookUp(t, low, other) {
				return false
			}
			if LookUp(t, other, low+1) < LookUp(t, other, low) {
				return false
			}
		}
	}
	return true
}

func FormatTable(t Table) string {
	if !IsTable(t) {
		return ""
	}
	var text []byte
	for _, v := range t {
		text = append(text, tritSigns[v+1])
	}
	return string(text)
}

func ParseTable(s string) (Table, bool) {
	var t Table
	if len(s) != len(t) {
		return Table{}, false
	}
	for i := range t {
		v, ok := readTrit(s[i])
		if !ok {
			return Table{}, false
		}
		t[i] = v
	}
	return t, true
}

// readTrit returns the trit with the given sign, and true; false for another
// byte.
func readTrit(sign byte) (int, bool) {
	at := strings.IndexByte(tritSigns, sign)
	if at < 0 {
		return 0, false
	}
	return at - 1, true
}
