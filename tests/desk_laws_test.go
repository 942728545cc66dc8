package tests

// The laws of promise P1: expressions are read back from their text; what the machine computes of them, what the desk says, and their values agree; negatives have negative values.

import (
	"fmt"
	"math/big"
	"slices"
	"strings"
	"testing"

	"loop.example/g03225/impl"
)

func num(n int) impl.Expr { return impl.Expr{Kind: impl.ExprNumber, Number: n} }

func node(kind int, kids ...impl.Expr) impl.Expr { return impl.Expr{Kind: kind, Kids: kids} }

var (
	allKinds = []int{impl.ExprPlus, impl.ExprMinus, impl.ExprAdd, impl.ExprSub, impl.ExprMul, impl.ExprDiv, impl.ExprRest}
	// runKinds has the kinds that the machine can compute.
	runKinds = []int{impl.ExprPlus, impl.ExprMinus, impl.ExprAdd, impl.ExprSub, impl.ExprMul}
)

// exprMaker makes expressions that follow no short rule, of the given kinds.
type exprMaker struct {
	numberMaker
	kinds []int
}

// operand returns a small number, one that the machine wraps, or one near the
// greatest.
func (m *exprMaker) operand() int {
	switch m.number(12) {
	case 0:
		return m.number(32768)
	case 1:
		return cellLimit + m.number(3) - 1
	case 2:
		return m.number(32768) * 3141592653
	case 3:
		return limitOfMaxWord - m.number(3)
	}
	return m.number(8)
}

// expr returns a valid expression that has just as many nodes, at most 2^nest -
// 1, and a depth of at most nest.
func (m *exprMaker) expr(nodes int, nest int) impl.Expr {
	if nodes == 1 {
		return num(m.operand())
	}
	room := 1<<(nest-1) - 1
	kind := m.kinds[m.number(len(m.kinds))]
	for kind <= impl.ExprMinus && nodes-1 > room || kind > impl.ExprMinus && nodes == 2 {
		kind = m.kinds[m.number(len(m.kinds))]
	}
	if kind <= impl.ExprMinus {
		return node(kind, m.expr(nodes-1, nest-1))
	}
	least, most := max(1, nodes-1-room), min(room, nodes-2)
	left := least + m.number(most-least+1)
	return node(kind, m.expr(left, nest-1), m.expr(nodes-1-left, nest-1))
}

// sampleExprs returns expressions of all sizes: with small depths, and with
// great ones.
func sampleExprs(kinds []int) []impl.Expr {
	var list []impl.Expr
	maker := exprMaker{numberMaker{3}, kinds}
	for nodes := 1; nodes <= impl.MaxExpr; nodes++ {
		for nest := 1; nest <= impl.MaxNest; nest++ {
			for n := 0; n < 12 && nodes < 1<<nest; n++ {
				list = append(list, maker.expr(nodes, nest))
			}
		}
	}
	return list
}

// sameExpr takes nil and empty lists as equal.
func sameExpr(a impl.Expr, b impl.Expr) bool {
	return a.Kind == b.Kind && a.Number == b.Number && slices.EqualFunc(a.Kids, b.Kids, sameExpr)
}

func isNoExpr(e impl.Expr) bool { return sameExpr(e, impl.Expr{}) }

func TestExpressionsAreReadBack(t *testing.T) {
	for _, e := range sampleExprs(allKinds) {
		text := impl.FormatExpr(e)
		if !impl.IsExpr(e) || text == "" || len(text) > impl.MaxText {
			t.Fatalf("%v has the text %q, IsExpr is %v", e, text, impl.IsExpr(e))
		}
		if back, ok := impl.ParseExpr(text); !ok || !impl.EqualExprs(back, e) || !sameExpr(back, e) {
			t.Fatalf("%q is read as %v, %v", text, back, ok)
		}
	}
}

func TestSmallExpressionsAreReadBack(t *testing.T) {
	list := []impl.Expr{num(0), num(1), num(limitOfMaxWord)}
	for range 2 {
		shorter := slices.Clone(list)
		for _, kind := range allKinds {
			for i, kid := range shorter {
				if kind <= impl.ExprMinus {
					list = append(list, node(kind, kid))
					continue
				}
				for k := i % 3; k < len(shorter); k += 3 {
					list = append(list, node(kind, kid, shorter[k]))
				}
			}
		}
	}
	for _, e := range list {
		text := impl.FormatExpr(e)
		if back, ok := impl.ParseExpr(text); !ok || !sameExpr(back, e) {
			t.Fatalf("%q is read as %v, %v", text, back, ok)
		}
	}
}

// wordyText puts spaces and parentheses at places where they are not needed,
// and writes some numbers in trits.
func (m *exprMaker) wordyText(e impl.Expr) string {
	space := func() string { return "   "[:m.number(3)] }
	text := ""
	switch len(e.Kids) {
	case 0:
		text = fmt.Sprint(e.Number)
		if m.number(2) == 0 {
			w, _ := impl.WordOf(e.Number, impl.LengthOf(e.Number))
			// What comes next may be a sign, which would be read as a trit.
			text = "t" + impl.FormatWord(w) + " "
		}
		if m.number(2) == 0 {
			return space() + text
		}
	case 1:
		text = exprMarks[e.Kind] + m.wordyText(e.Kids[0])
	case 2:
		text = m.wordyText(e.Kids[0]) + space() + exprMarks[e.Kind] + m.wordyText(e.Kids[1])
	}
	return space() + "(" + space() + text + space() + ")" + space()
}

var exprMarks = map[int]string{impl.ExprPlus: "+", impl.ExprMinus: "-", impl.ExprAdd: "+", impl.ExprSub: "-", impl.ExprMul: "*", impl.ExprDiv: "/", impl.ExprRest: "%"}

func TestOtherTextsAreReadAsTheSame(t *testing.T) {
	maker := exprMaker{numberMaker{7}, allKinds}
	read := 0
	for _, e := range sampleExprs(allKinds) {
		text := maker.wordyText(e)
		if len(text) > impl.MaxText {
			continue
		}
		read++
		if back, ok := impl.ParseExpr(text); !ok || !sameExpr(back, e) {
			t.Fatalf("%q is read as %v, %v", text, back, ok)
		}
	}
	if read < 1000 {
		t.Errorf("only %d texts are read", read)
	}
}

// exactValue returns the value by whole numbers that don't overflow; nil if
// something is divided by 0. It takes values with more than MaxWord trits too.
func exactValue(e impl.Expr) *big.Int {
	if e.Kind == impl.ExprNumber {
		return big.NewInt(int64(e.Number))
	}
	x := exactValue(e.Kids[0])
	y := exactValue(e.Kids[len(e.Kids)-1])
	if x == nil || y == nil {
		return nil
	}
	n := new(big.Int)
	switch e.Kind {
	case impl.ExprPlus:
		return x
	case impl.ExprMinus:
		return n.Neg(x)
	case impl.ExprAdd:
		return n.Add(x, y)
	case impl.ExprSub:
		return n.Sub(x, y)
	case impl.ExprMul:
		return n.Mul(x, y)
	}
	if y.Sign() == 0 {
		return nil
	}
	size := new(big.Int).Abs(y)
	rest := new(big.Int).Mod(x, size)
	if new(big.Int).Add(rest, rest).Cmp(size) > 0 {
		rest.Sub(rest, size)
	}
	if e.Kind == impl.ExprRest {
		return rest
	}
	return n.Quo(n.Sub(x, rest), y)
}

// hasValue reports whether all nodes have values with at most MaxWord trits.
func hasValue(e impl.Expr) bool {
	for _, kid := range e.Kids {
		if !hasValue(kid) {
			return false
		}
	}
	n := exactValue(e)
	return n != nil && n.CmpAbs(big.NewInt(limitOfMaxWord)) <= 0
}

func TestValuesAreExact(t *testing.T) {
	counts := map[bool]int{}
	for _, e := range sampleExprs(allKinds) {
		n, ok := impl.EvalExpr(e)
		counts[ok]++
		if ok != hasValue(e) || !ok && n != 0 {
			t.Fatalf("%s has the value %d, %v", impl.FormatExpr(e), n, ok)
		}
		if ok && exactValue(e).Cmp(big.NewInt(int64(n))) != 0 {
			t.Fatalf("%s has the value %d, not %v", impl.FormatExpr(e), n, exactValue(e))
		}
	}
	if counts[true] < 1000 || counts[false] < 1000 {
		t.Errorf("values: %v", counts)
	}
}

// computed expects that the machine computes an expression, and returns what.
func computed(t *testing.T, e impl.Expr) int {
	t.Helper()
	code, ok := impl.CompileExpr(e)
	if !ok || !impl.IsCode(code) {
		t.Fatalf("%s has the program %v, %v", impl.FormatExpr(e), code, ok)
	}
	m, end := impl.RunMachine(code, impl.NewMachine(), impl.MaxFuel)
	if end != impl.RunEnded || len(m.Stack) != 1 || m.Pc != len(code) || slices.ContainsFunc(m.Cells, func(n int) bool { return n != 0 }) {
		t.Fatalf("%s ends with %v, %d", impl.FormatExpr(e), m, end)
	}
	return m.Stack[0]
}

func TestTheMachineComputesTheValues(t *testing.T) {
	wraps := 0
	for _, e := range sampleExprs(runKinds) {
		rest := new(big.Int).Mod(exactValue(e), big.NewInt(19683))
		want := impl.WrapCell(int(rest.Int64()))
		if got := computed(t, e); got != want {
			t.Fatalf("the machine computes %d of %s, not %d", got, impl.FormatExpr(e), want)
		}
		if n, ok := impl.EvalExpr(e); ok && impl.WrapCell(n) != want {
			t.Fatalf("%s has the value %d, but the machine computes %d", impl.FormatExpr(e), n, want)
		} else if !ok || n != want {
			wraps++
		}
	}
	if wraps < 100 {
		t.Errorf("only %d values are wrapped", wraps)
	}
}

// checkDesk holds what the desk says to the text of an expression against what
// the functions return.
func checkDesk(t *testing.T, text string, e impl.Expr) {
	t.Helper()
	want := []string{"what", impl.FormatExpr(e), "what", "what"}
	if n, ok := impl.EvalExpr(e); ok {
		w, _ := impl.WordOf(n, impl.LengthOf(n))
		want[0] = fmt.Sprintf("%d %s", n, impl.FormatWord(w))
	}
	if code, ok := impl.CompileExpr(e); ok {
		want[2] = impl.FormatCode(code)
		want[3] = fmt.Sprint(computed(t, e))
	}
	out, ok := impl.RunDesk(text + "\nshow " + text + "\ncode " + text + "\nrun " + text)
	if !ok || !slices.Equal(out, want) {
		t.Fatalf("the desk says %q, %v to %q, not %q", out, ok, text, want)
	}
}

func TestTheDeskSaysWhatTheFunctionsReturn(t *testing.T) {
	maker := exprMaker{numberMaker{11}, nil}
	for _, kinds := range [][]int{allKinds, runKinds} {
		for _, e := range sampleExprs(kinds) {
			for _, text := range []string{impl.FormatExpr(e), maker.wordyText(e)} {
				if len(text) <= impl.MaxText {
					checkDesk(t, text, e)
				}
			}
		}
	}
}

// TestTheDeskIsReadBack gives the desk what it said: what it shows it shows
// again, the trits of a value are those of the number, and what runs gives what
// the program gives.
func TestTheDeskIsReadBack(t *testing.T) {
	for _, e := range sampleExprs(runKinds) {
		text := impl.FormatExpr(e)
		out, _ := impl.RunDesk("show " + text + "\n" + text + "\nrun " + text + "\ncode " + text)
		if again, _ := impl.RunDesk("show " + out[0]); again[0] != out[0] {
			t.Fatalf("%q is shown as %q", out[0], again[0])
		}
		if number, word, ok := strings.Cut(out[1], " "); ok {
			again, _ := impl.RunDesk(number + "\nt" + word + "\nrun t" + word)
			if again[0] != out[1] || again[1] != out[1] || again[2] != out[2] {
				t.Fatalf("%q gives %q, and then %q", text, out, again)
			}
		}
		code, ok := impl.ParseCode(out[3])
		if m, _ := impl.RunMachine(code, impl.NewMachine(), impl.MaxFuel); !ok || fmt.Sprint(m.Stack) != "["+out[2]+"]" {
			t.Fatalf("%q runs to %v, but gives %q", out[3], m.Stack, out[2])
		}
	}
}

func TestNegativesHaveNegativeValues(t *testing.T) {
	counts := map[bool]int{}
	for _, e := range sampleExprs(allKinds) {
		negative, ok := impl.NegateExpr(e)
		counts[ok]++
		if ok != impl.IsExpr(negative) {
			t.Fatalf("the negative of %s is %v, %v", impl.FormatExpr(e), negative, ok)
		}
		if !ok {
			continue
		}
		n, fine := impl.EvalExpr(e)
		if minus, isThere := impl.EvalExpr(negative); isThere != fine || minus != -n {
			t.Fatalf("%s has the value %d, %v, but %s has %d, %v", impl.FormatExpr(e), n, fine, impl.FormatExpr(negative), minus, isThere)
		}
		again, ok := impl.NegateExpr(negative)
		if plus, isThere := impl.EvalExpr(again); ok && (isThere != fine || plus != n) {
			t.Fatalf("%s has the value %d, but %s has %d", impl.FormatExpr(e), n, impl.FormatExpr(again), plus)
		}
	}
	if counts[true] < 1000 || counts[false] < 100 {
		t.Errorf("negatives: %v", counts)
	}
}

func TestTheMachineComputesNegatives(t *testing.T) {
	for _, e := range sampleExprs(runKinds) {
		if negative, ok := impl.NegateExpr(e); ok && computed(t, negative) != -computed(t, e) {
			t.Fatalf("the machine computes %d of %s, but %d of %s", computed(t, e), impl.FormatExpr(e), computed(t, negative), impl.FormatExpr(negative))
		}
	}
}
