package tests

// What chapter 11 specifies for all arguments (promise P11): literal results, edge cases, invalid arguments, and memory that is neither shared nor modified.

import (
	"fmt"
	"math"
	"regexp"
	"slices"
	"strconv"
	"strings"
	"testing"

	"loop.example/g03225/impl"
)

func TestDeskConstants(t *testing.T) {
	sizes := []int{impl.MaxExpr, impl.MaxNest, impl.MaxText, impl.MaxScript}
	if !slices.Equal(sizes, []int{60, 12, 400, 40}) {
		t.Errorf("the sizes are %v", sizes)
	}
	kinds := []int{impl.ExprNumber, impl.ExprPlus, impl.ExprMinus, impl.ExprAdd, impl.ExprSub, impl.ExprMul, impl.ExprDiv, impl.ExprRest}
	if !slices.Equal(kinds, []int{1, 2, 3, 4, 5, 6, 7, 8}) {
		t.Errorf("the kinds are %v", kinds)
	}
}

// signs returns an expression with as many signs before a number.
func signs(count int, kind int, e impl.Expr) impl.Expr {
	for range count {
		e = node(kind, e)
	}
	return e
}

// tree returns an operation with 2^nest - 1 nodes, all of the same depth.
func tree(kind int, nest int, n int) impl.Expr {
	if nest == 1 {
		return num(n)
	}
	return node(kind, tree(kind, nest-1, n), tree(kind, nest-1, n))
}

// sixty returns an expression of 60 nodes with the depth nest, which is at least
// 7: signs that are as deep, and an expression with all other nodes.
func sixty(nest int) impl.Expr {
	maker := exprMaker{numberMaker{nest}, []int{impl.ExprAdd, impl.ExprSub, impl.ExprMinus}}
	return node(impl.ExprAdd, signs(nest-2, impl.ExprMinus, num(1)), maker.expr(impl.MaxExpr-nest, nest-1))
}

// nodesOf and depthOf count by the letter of the chapter.
func nodesOf(e impl.Expr) int {
	count := 1
	for _, kid := range e.Kids {
		count += nodesOf(kid)
	}
	return count
}

func depthOf(e impl.Expr) int {
	depth := 0
	for _, kid := range e.Kids {
		depth = max(depth, depthOf(kid))
	}
	return depth + 1
}

func withKids(e impl.Expr, kids ...impl.Expr) impl.Expr {
	e.Kids = kids
	return e
}

func withNumber(e impl.Expr, n int) impl.Expr {
	e.Number = n
	return e
}

// noNodes returns expressions that are not valid, of which nothing but the first
// node, or its first kids, is wrong.
func noNodes() []impl.Expr {
	list := []impl.Expr{
		{}, {Kids: []impl.Expr{num(1)}}, {Number: 5}, withKids(num(1), num(1)), withKids(num(0), num(1), num(2)), withKids(num(1), impl.Expr{}), withKids(num(0), make([]impl.Expr, 3)...),
	}
	for _, n := range append([]int{-1, -2, -100, limitOfMaxWord + 1, limitOfMaxWord + 2, -limitOfMaxWord, 2*limitOfMaxWord + 1, 999999999999999, 1e15}, badNumbers...) {
		list = append(list, num(n))
	}
	for _, kind := range append([]int{0, 9, 10, -1, -2, -8, 15, 256, 257, 1<<32 + 1, 1<<32 + 4}, extremes...) {
		list = append(list, impl.Expr{Kind: kind, Number: 1}, node(kind), node(kind, num(1)), node(kind, num(1), num(2)), node(kind, num(1), num(2), num(3)))
	}
	for _, kind := range allKinds {
		kids := []impl.Expr{num(1), num(2), num(3), num(4)}
		right := kids[:1]
		if kind > impl.ExprMinus {
			right = kids[:2]
		}
		for count := range kids {
			if count != len(right) {
				list = append(list, node(kind, kids[:count]...))
			}
		}
		for _, n := range append([]int{1, -1, 2, 3, 100}, extremes...) {
			list = append(list, withNumber(node(kind, right...), n))
		}
		list = append(list, impl.Expr{Kind: kind}, impl.Expr{Kind: kind, Number: 1}, impl.Expr{Kind: kind, Kids: kids[:0]})
	}
	return list
}

// loops returns expressions that have themselves among their kids.
func loops() []impl.Expr {
	var list []impl.Expr
	for _, kind := range append([]int{impl.ExprNumber, 0, 9}, allKinds...) {
		for count := 1; count <= 3; count++ {
			kids := make([]impl.Expr, count)
			for i := range kids {
				kids[i] = node(kind, kids...)
			}
			list = append(list, kids[0])
		}
	}
	return list
}

// noExprs returns expressions that are not valid: nodes that are not, those with
// one deep within, too many nodes, too great a depth, and loops.
func noExprs() []impl.Expr {
	list := noNodes()
	for _, bad := range noNodes() {
		list = append(list, node(impl.ExprMinus, bad), node(impl.ExprAdd, bad, num(1)), node(impl.ExprMul, num(1), bad), signs(11, impl.ExprPlus, bad), node(impl.ExprSub, num(1), node(impl.ExprRest, node(impl.ExprDiv, num(1), bad), num(2))))
	}
	for _, kind := range allKinds[2:] {
		list = append(list, tree(kind, 6, 0), tree(kind, 7, 1), tree(kind, 12, 1), tree(kind, 13, 1))
	}
	for _, kind := range allKinds[:2] {
		for _, count := range []int{12, 13, 59, 60, 61, 1000, 60000} {
			list = append(list, signs(count, kind, num(1)))
		}
	}
	for nest := 7; nest <= impl.MaxNest; nest++ {
		list = append(list, node(impl.ExprMinus, sixty(nest)), node(impl.ExprAdd, sixty(nest), num(1)), node(impl.ExprMul, sixty(nest), sixty(nest)))
	}
	deep := signs(10, impl.ExprMinus, node(impl.ExprAdd, num(1), num(2)))
	list = append(list, node(impl.ExprAdd, num(1), deep), node(impl.ExprAdd, deep, num(1)), node(impl.ExprPlus, deep), node(impl.ExprMul, num(1), node(impl.ExprMul, num(1), deep)))
	wide := make([]impl.Expr, 100000)
	return append(append(list, node(impl.ExprAdd, wide...), node(impl.ExprMinus, node(impl.ExprNumber, wide...))), loops()...)
}

func TestExpressionsThatAreValid(t *testing.T) {
	list := []impl.Expr{num(0), num(1), num(limitOfMaxWord), num(limitOfMaxWord - 1), withKids(num(7), []impl.Expr{}...), {Kind: impl.ExprNumber, Kids: []impl.Expr{}}, {Kind: impl.ExprNumber, Number: 3, Kids: make([]impl.Expr, 0, 5)}}
	for _, kind := range allKinds {
		if kind <= impl.ExprMinus {
			list = append(list, node(kind, num(1)), signs(11, kind, num(limitOfMaxWord)))
			continue
		}
		list = append(list, node(kind, num(0), num(limitOfMaxWord)), node(kind, num(0), num(0)), tree(kind, 5, 1), node(kind, tree(kind, 5, 1), tree(kind, 4, 1)))
	}
	for nest := 7; nest <= impl.MaxNest; nest++ {
		e := sixty(nest)
		if nodesOf(e) != 60 || depthOf(e) != nest {
			t.Fatalf("%d nodes, depth %d, not %d", nodesOf(e), depthOf(e), nest)
		}
		list = append(list, e)
	}
	deep := signs(9, impl.ExprMinus, node(impl.ExprAdd, num(1), num(2)))
	list = append(list, node(impl.ExprAdd, num(1), deep), node(impl.ExprAdd, deep, num(1)))
	for _, e := range list {
		if !impl.IsExpr(e) || impl.FormatExpr(e) == "" {
			t.Errorf("IsExpr(%v) is false, or it has no text", e)
		}
	}
}

func TestExpressionsThatAreNotValid(t *testing.T) {
	for i, e := range noExprs() {
		if impl.IsExpr(e) {
			t.Errorf("expression %d is valid", i)
		}
		if text := impl.FormatExpr(e); text != "" {
			t.Errorf("expression %d has the text %q", i, text)
		}
		if n, ok := impl.EvalExpr(e); n != 0 || ok {
			t.Errorf("expression %d has the value %d, %v", i, n, ok)
		}
		if code, ok := impl.CompileExpr(e); len(code) != 0 || ok {
			t.Errorf("expression %d has the program %v, %v", i, code, ok)
		}
		if negative, ok := impl.NegateExpr(e); !isNoExpr(negative) || ok {
			t.Errorf("expression %d has the negative %v, %v", i, negative, ok)
		}
	}
}

func TestEqualExpressions(t *testing.T) {
	fields := []impl.Expr{{}, {Number: 1}, {Kind: 1}, {Kind: math.MinInt}, {Kind: math.MaxInt}, {Number: math.MinInt}, {Number: math.MaxInt}, {Kind: 1 << 32}, {Number: 1 << 32}, num(1), node(1, num(1)), node(0, impl.Expr{}), node(0, impl.Expr{}, impl.Expr{}), node(4, num(1), num(2)), node(4, num(2), num(1)), node(4, num(1), num(1)), node(4, num(2), num(2)), node(5, num(1), num(2)), node(4, num(1), num(2), num(3)), node(4, num(1)), {Kind: 4, Number: 1, Kids: []impl.Expr{num(1), num(2)}}}
	for _, e := range fields {
		fields = append(fields, node(0, e), node(3, e), node(-1, num(1), e), node(4, e, num(1)), node(9, node(2, e), num(1), node(2, e)))
	}
	for i, a := range fields {
		for k, b := range fields {
			if got := impl.EqualExprs(a, copyOf(b)); got != sameExpr(a, b) || i == k && !got {
				t.Errorf("EqualExprs(%v, %v) = %v", a, b, got)
			}
		}
	}
}

func copyOf(e impl.Expr) impl.Expr {
	var kids []impl.Expr
	for _, kid := range e.Kids {
		kids = append(kids, copyOf(kid))
	}
	return impl.Expr{Kind: e.Kind, Number: e.Number, Kids: kids}
}

func TestEqualExpressionsWithNoKids(t *testing.T) {
	spare := []impl.Expr{num(1), num(2)}
	empty := []impl.Expr{num(1), {Kind: 1, Number: 1, Kids: []impl.Expr{}}, {Kind: 1, Number: 1, Kids: spare[:0]}, {Kind: 1, Number: 1, Kids: spare[1:1]}}
	for _, a := range empty {
		for _, b := range empty {
			if !impl.EqualExprs(a, b) || !impl.EqualExprs(node(3, a), node(3, b)) || !impl.EqualExprs(node(4, num(2), a), node(4, num(2), b)) || impl.EqualExprs(a, withNumber(b, 2)) {
				t.Errorf("EqualExprs of %v and %v", a, b)
			}
		}
	}
	if impl.EqualExprs(impl.Expr{Kids: spare[:1]}, impl.Expr{Kids: spare}) || impl.EqualExprs(impl.Expr{Kids: spare}, impl.Expr{Kids: spare[:1]}) || impl.EqualExprs(impl.Expr{Kids: spare[:1]}, impl.Expr{Kids: spare[1:]}) {
		t.Error("lists of kids in the same memory are taken as equal")
	}
}

// TestEqualExpressionsOfAllShapes takes deep and wide ones, some in which a kid
// has the same memory as another one, and loops.
func TestEqualExpressionsOfAllShapes(t *testing.T) {
	deep := func(last int) impl.Expr { return signs(60000, impl.ExprMinus, num(last)) }
	wide := func(last int) impl.Expr { return node(7, append(make([]impl.Expr, 60000), num(last))...) }
	shared := func(last int) impl.Expr {
		e := num(last)
		for range 60 {
			e = node(impl.ExprAdd, e, e)
		}
		return e
	}
	for i, make := range []func(last int) impl.Expr{deep, wide, shared} {
		a := make(1)
		if !impl.EqualExprs(a, a) || !impl.EqualExprs(a, make(1)) || impl.EqualExprs(a, make(2)) || impl.EqualExprs(make(2), a) {
			t.Errorf("EqualExprs of the shape %d", i)
		}
	}
	for i, a := range loops() {
		for k, b := range loops() {
			if got := impl.EqualExprs(a, b); got != (i == k) {
				t.Errorf("EqualExprs of the loops %d and %d is %v", i, k, got)
			}
		}
		if impl.EqualExprs(a, num(1)) || impl.EqualExprs(num(1), a) || !impl.EqualExprs(a, a) {
			t.Errorf("EqualExprs of the loop %d", i)
		}
	}
}

func TestTextsOfExpressions(t *testing.T) {
	one, two, three := num(1), num(2), num(3)
	for _, x := range []struct {
		e    impl.Expr
		want string
	}{
		{num(0), "0"}, {num(10), "10"}, {num(limitOfMaxWord), "102945566047324"}, {node(2, one), "+1"}, {node(3, one), "-1"}, {node(3, num(0)), "-0"}, {node(3, node(2, node(3, one))), "-+-1"},
		{node(4, one, two), "1 + 2"}, {node(5, one, two), "1 - 2"}, {node(6, one, two), "1 * 2"}, {node(7, one, two), "1 / 2"}, {node(8, one, two), "1 % 2"},
		{node(3, node(4, one, two)), "-(1 + 2)"}, {node(2, node(6, one, two)), "+(1 * 2)"}, {node(3, node(8, one, two)), "-(1 % 2)"}, {node(2, node(5, one, two)), "+(1 - 2)"}, {node(3, node(7, one, two)), "-(1 / 2)"}, {node(2, node(3, node(4, one, two))), "+-(1 + 2)"},
		{node(4, node(3, one), node(3, two)), "-1 + -2"}, {node(5, node(2, one), node(2, two)), "+1 - +2"}, {node(6, node(3, one), node(3, two)), "-1 * -2"}, {node(7, one, node(3, node(4, two, three))), "1 / -(2 + 3)"},
		{node(5, node(5, one, two), three), "1 - 2 - 3"}, {node(5, one, node(5, two, three)), "1 - (2 - 3)"}, {node(4, one, node(4, two, three)), "1 + (2 + 3)"}, {node(4, node(5, one, two), three), "1 - 2 + 3"}, {node(5, one, node(4, two, three)), "1 - (2 + 3)"},
		{node(6, node(6, one, two), three), "1 * 2 * 3"}, {node(6, one, node(6, two, three)), "1 * (2 * 3)"}, {node(7, node(8, one, two), three), "1 % 2 / 3"}, {node(8, one, node(7, two, three)), "1 % (2 / 3)"}, {node(7, one, node(6, two, three)), "1 / (2 * 3)"}, {node(6, node(7, one, two), three), "1 / 2 * 3"},
		{node(4, node(6, one, two), three), "1 * 2 + 3"}, {node(4, one, node(6, two, three)), "1 + 2 * 3"}, {node(5, node(7, one, two), node(8, two, three)), "1 / 2 - 2 % 3"}, {node(5, one, node(7, two, three)), "1 - 2 / 3"}, {node(6, node(4, one, two), three), "(1 + 2) * 3"}, {node(6, one, node(4, two, three)), "1 * (2 + 3)"}, {node(7, node(5, one, two), node(5, two, three)), "(1 - 2) / (2 - 3)"}, {node(8, node(4, one, two), node(6, two, three)), "(1 + 2) % (2 * 3)"},
	} {
		if got := impl.FormatExpr(x.e); got != x.want || got != textOf(x.e) {
			t.Errorf("FormatExpr(%v) = %q, not %q", x.e, got, x.want)
		}
		if back, ok := impl.ParseExpr(x.want); !ok || !sameExpr(back, x.e) {
			t.Errorf("ParseExpr(%q) = %v, %v", x.want, back, ok)
		}
	}
}

// textOf writes an expression by the letter of the chapter.
func textOf(e impl.Expr) string {
	if e.Kind == impl.ExprNumber {
		return strconv.Itoa(e.Number)
	}
	isSum := func(e impl.Expr) bool { return e.Kind == impl.ExprAdd || e.Kind == impl.ExprSub }
	isProduct := func(e impl.Expr) bool {
		return e.Kind == impl.ExprMul || e.Kind == impl.ExprDiv || e.Kind == impl.ExprRest
	}
	text := func(kid impl.Expr, isRight bool) string {
		isOperation := isSum(kid) || isProduct(kid)
		switch {
		case isOperation && len(e.Kids) == 1,
			isOperation && isProduct(e) && isRight,
			isSum(kid) && isProduct(e) && !isRight,
			isSum(kid) && isSum(e) && isRight:
			return "(" + textOf(kid) + ")"
		}
		return textOf(kid)
	}
	if len(e.Kids) == 1 {
		return exprMarks[e.Kind] + text(e.Kids[0], false)
	}
	return text(e.Kids[0], false) + " " + exprMarks[e.Kind] + " " + text(e.Kids[1], true)
}

func TestTextsByTheLetter(t *testing.T) {
	for _, e := range sampleExprs(allKinds) {
		if got := impl.FormatExpr(e); got != textOf(e) {
			t.Fatalf("FormatExpr(%v) = %q", e, got)
		}
	}
}

// TestLongTexts has texts of 399 to 412 bytes: of 21 long numbers and a last one
// with 1 to 14 digits.
func TestLongTexts(t *testing.T) {
	last := 1
	for size := 399; size <= 412; size++ {
		e := joined(append(slices.Repeat([]impl.Expr{num(limitOfMaxWord)}, 21), num(last)))
		last *= 10
		text := impl.FormatExpr(e)
		if text != textOf(e) || len(text) != size {
			t.Fatalf("FormatExpr(%v) = %q, of %d bytes", e, text, len(text))
		}
		if back, ok := impl.ParseExpr(text); ok != (size <= 400) || ok && !sameExpr(back, e) || !ok && !isNoExpr(back) {
			t.Errorf("a text of %d bytes is read as %v, %v", size, back, ok)
		}
	}
}

// joined joins each two neighbours by products or quotients, until there is one
// expression.
func joined(list []impl.Expr) impl.Expr {
	for len(list) > 1 {
		var fewer []impl.Expr
		for pair := range slices.Chunk(list, 2) {
			if len(pair) == 2 {
				pair = []impl.Expr{node(impl.ExprMul+len(list)%2, pair...)}
			}
			fewer = append(fewer, pair[0])
		}
		list = fewer
	}
	return list[0]
}

// checkText expects that a text is read as an expression with another text; ""
// stands for none.
func checkText(t *testing.T, text string, want string) {
	t.Helper()
	e, ok := impl.ParseExpr(text)
	if got := impl.FormatExpr(e); got != want || ok != (want != "") || !ok && !isNoExpr(e) {
		t.Errorf("ParseExpr(%q) = %v, %v with the text %q, not %q", text, e, ok, got, want)
	}
}

func TestTextsThatAreRead(t *testing.T) {
	for text, want := range map[string]string{
		"0": "0", "7": "7", "102945566047324": "102945566047324", "1+2": "1 + 2", "1-2": "1 - 2", "1*2": "1 * 2", "1/2": "1 / 2", "1%2": "1 % 2", "+1": "+1", "-1": "-1", "--1": "--1", "-+-+1": "-+-+1",
		" 1": "1", "1 ": "1", "   1   ": "1", "1 +2": "1 + 2", "1+ 2": "1 + 2", "  1  +  2  ": "1 + 2", "- 1": "-1", "-  -  1": "--1", " + - 1": "+-1", "( 1 )": "1", " ( 1 ) ": "1", "(1) + ( 2 )": "1 + 2", "- ( 1 )": "-1", "-( 1 + 2 ) * 3": "-(1 + 2) * 3",
		"(1)": "1", "((1))": "1", "((((((((((((((1))))))))))))))": "1", "(1+2)": "1 + 2", "(1)+(2)": "1 + 2", "((1)+((2)))": "1 + 2", "-(1)": "-1", "-(-1)": "--1", "(-(-(1)))": "--1", "1*(2)": "1 * 2", "(1*2)*3": "1 * 2 * 3", "1*(2*3)": "1 * (2 * 3)", "(1*2)+3": "1 * 2 + 3", "1+(2*3)": "1 + 2 * 3", "(1+2)+3": "1 + 2 + 3", "1+(2+3)": "1 + (2 + 3)",
		"1-2-3": "1 - 2 - 3", "1-2+3": "1 - 2 + 3", "1*2+3": "1 * 2 + 3", "1+2*3": "1 + 2 * 3", "1+2*3+4": "1 + 2 * 3 + 4", "1*2%3/4": "1 * 2 % 3 / 4", "1-2*3/4%5-6": "1 - 2 * 3 / 4 % 5 - 6", "-1*2": "-1 * 2", "-1+2": "-1 + 2", "(-1)*2": "-1 * 2", "-(1*2)": "-(1 * 2)", "1*-2": "1 * -2", "1--2": "1 - -2", "1+-2": "1 + -2", "1-+2": "1 - +2", "1---2": "1 - --2", "1/-2": "1 / -2", "1%+2": "1 % +2", "1 - - 2": "1 - -2", "1*-2*3": "1 * -2 * 3", "-1--1": "-1 - -1",
		"t0": "0", "t+": "1", "t-": "-1", "t+-": "2", "t-+": "-2", "t+0-": "8", "t-0+": "-8", "t00": "0", "t000+": "1", "t0-": "-1", "t0000": "0", "t" + ones: "102945566047324", "t" + minuses: "-102945566047324", "t" + zeros: "0", "t" + zeros[:29] + "-": "-1",
		"-t-": "--1", "-t+": "-1", "+t-": "+-1", "- t-": "--1", " t+ ": "1", "(t+)": "1", "(t-)": "-1", "t+ ": "1", "t+ +1": "1 + 1", "t+ + t+": "1 + 1", "t- - t-": "-1 - -1", "t+ -1": "1 - 1", "t+*2": "1 * 2", "t+0*t-": "3 * -1", "t+0/2": "3 / 2", "t-%2": "-1 % 2", "1-t-": "1 - -1", "1-t+": "1 - 1", "1+t+": "1 + 1", "1+t+ -t-": "1 + 1 - -1", "2*t-": "2 * -1", "(t+)-1": "1 - 1", "(t+)+(t-)": "1 + -1", "t+ - -1": "1 - -1", "t+- +1": "2 + 1", "t+- - +1": "2 - +1",
		"100000000000000": "100000000000000", "10": "10", "1000": "1000", "1+0": "1 + 0", "0+0": "0 + 0", "-0": "-0",
	} {
		checkText(t, text, want)
	}
}

func TestTextsThatAreNoExpressions(t *testing.T) {
	for _, text := range []string{
		"", " ", "      ", "+", "-", "*", "/", "%", "(", ")", "()", "( )", "(())", ")(", "(1", "1)", "((1)", "(1))", "(1+2", "1+2)", "1+(2", "(1)(2)", "1(2)", "(1)2", "1()", "()1", "(+)", "(1+)", "(*1)", "-()", "-(", "1+()", "(1 2)",
		"1 2", "1  2", "1 + 2 3", "12 34", "1 1", "0 0", "0 1", "1 (2)", "1+", "1-", "1*", "1/", "1%", "1+ ", "*1", "/1", "%1", "1**2", "1*/2", "1+*2", "1//2", "1%%2", "1-*2", "-*1", "+%1", "- ", "--", "1 + + ", "1+2+", "1*2*",
		"00", "01", "007", "-01", "1+02", "0123", "000", "00000000000000000", "0000000000000001", "1+00", "(00)", "102945566047325", "102945566047326", "-102945566047325", "999999999999999", "1000000000000000", "1029455660473240", "9999999999999999", "9223372036854775807", "9223372036854775808", "-9223372036854775808", "18446744073709551615", "18446744073709551616", "18446744073709551617", "4294967296000000000000", strings.Repeat("9", 100), strings.Repeat("1", 400), strings.Repeat("0", 400),
		"t", "-t", "t ", " t", "t +", "t -", "t 0", "t+t", "tt+", "t+t+", "t1", "t+1", "t01", "t0 1", "t+-1", "t+0-1", "t0+1", "t-(1)", "t+(1)", "t(+)", "t(1)", "(t)", "t*2", "t/2", "t)", "T+", "+t", "t+ +", "t+ t+", "t+-t+", "t+ 1", "1t", "1t+", "0t+", "t+-+1", "t+0+ 2", "t+2", "t" + ones + "0", "t" + zeros + "0", "t" + zeros + "+", "t0" + ones, "t" + strings.Repeat("+", 100), "t" + zeros + "-1", "t−",
		"1\n", "\n1", "\n", "1+\n2", "1\t+2", "\t1", "1\r", "\r\n", "1\x00", "\x00", "\x00 1", "1\x80", "\xff", "\xff\xfe", "1+\xe9", "é", "1\u00a02", "1\u00a0", "\u00a01", "１", "٣", "−1", "1×2", "1÷2", "a", "x", "1a", "a1", "1.0", "1.", ".1", "1,2", "1_000", "0x10", "0b1", "0o7", "1e3", "1e", "$", "1=1", "1<2", "[1]", "{1}", "1;", "1^2", "1|2", "1&2", "!1", "~1", "1?", "'1'", "\"1\"", "#1", "1 # x", "1//", "what", "show 1", "1 show", "mod", "1 mod 2", "1 div 2", "two",
	} {
		checkText(t, text, "")
	}
	for b := range 256 {
		text := string([]byte{byte(b)})
		if !strings.Contains("0123456789", text) {
			checkText(t, text, "")
			checkText(t, text+text, "")
		}
		if !strings.Contains(" 0123456789)", text) {
			checkText(t, "1"+text, "")
			checkText(t, "t+0"+text, map[string]string{"+": "10", "-": "8", "0": "9"}[text])
		}
		if !strings.Contains(" 123456789(+-", text) {
			checkText(t, text+"1", "")
		}
		if !strings.Contains(" 0123456789+-*/%", text) {
			checkText(t, "1"+text+"1", "")
		}
	}
}

func TestSizesOfTexts(t *testing.T) {
	for _, x := range []struct {
		text string
		want string
	}{
		{strings.Repeat(" ", 399) + "1", "1"}, {"1" + strings.Repeat(" ", 399), "1"}, {"1" + strings.Repeat(" ", 397) + "+2", "1 + 2"}, {strings.Repeat("(", 199) + "12" + strings.Repeat(")", 199), "12"}, {strings.Repeat("(", 199) + "1 " + strings.Repeat(")", 199), "1"},
		{strings.Repeat(" ", 400) + "1", ""}, {"1" + strings.Repeat(" ", 400), ""}, {"1" + strings.Repeat(" ", 398) + "+2", ""}, {strings.Repeat("(", 200) + "1" + strings.Repeat(")", 200), ""}, {strings.Repeat(" ", 400), ""}, {strings.Repeat(" ", 401), ""}, {strings.Repeat("(", 400), ""}, {strings.Repeat("(", 200) + strings.Repeat(")", 200), ""}, {strings.Repeat("-", 400), ""}, {strings.Repeat("-", 399) + "1", ""}, {strings.Repeat("(", 1000000), ""}, {strings.Repeat(" ", 1000000) + "1", ""}, {strings.Repeat("-", 1000000) + "1", ""},
		{strings.Repeat("-", 11) + "1", strings.Repeat("-", 11) + "1"}, {strings.Repeat("-", 12) + "1", ""}, {strings.Repeat("-", 10) + "t-", strings.Repeat("-", 11) + "1"}, {strings.Repeat("-", 11) + "t-", ""}, {strings.Repeat("-", 11) + "t+", strings.Repeat("-", 11) + "1"},
		{strings.Repeat("1+", 11) + "1", strings.Repeat("1 + ", 11) + "1"}, {strings.Repeat("1+", 12) + "1", ""}, {strings.Repeat("1*", 11) + "1", strings.Repeat("1 * ", 11) + "1"}, {strings.Repeat("1*", 12) + "1", ""}, {strings.Repeat("1-(", 11) + "1" + strings.Repeat(")", 11), strings.Repeat("1 - (", 10) + "1 - 1" + strings.Repeat(")", 10)}, {strings.Repeat("1-(", 12) + "1" + strings.Repeat(")", 12), ""}, {strings.Repeat("1+", 199) + "11", ""}, {strings.Repeat("1*", 199) + "11", ""},
	} {
		checkText(t, x.text, x.want)
	}
	for nest := 7; nest <= impl.MaxNest; nest++ {
		text := textOf(sixty(nest))
		checkText(t, text, text)
		checkText(t, "-("+text+")", "")
		checkText(t, "0 + ("+text+")", "")
	}
}

var exprParts = regexp.MustCompile(`^(?: +|t[-+0]{1,30}|[0-9]+|[-+*/%()])`)

// parsedAll reads a text in another way: it splits the whole text into parts,
// and puts signs and parentheses that wait for kids on a stack.
func parsedAll(text string) (impl.Expr, bool) {
	var kids []impl.Expr
	var waiting []string // "u+" and "u-" are signs before a kid
	needsKid := true
	rank := map[string]int{"(": 0, "+": 1, "-": 1, "*": 2, "/": 2, "%": 2, "u+": 3, "u-": 3}
	reduce := func(least int) {
		for len(waiting) > 0 && rank[waiting[len(waiting)-1]] >= least {
			sign := waiting[len(waiting)-1]
			waiting = waiting[:len(waiting)-1]
			if sign[0] == 'u' {
				kids[len(kids)-1] = node(2+strings.Index("+-", sign[1:]), kids[len(kids)-1])
				continue
			}
			pair := slices.Clone(kids[len(kids)-2:])
			kids = append(kids[:len(kids)-2], node(4+strings.Index("+-*/%", sign), pair...))
		}
	}
	for text != "" {
		part := exprParts.FindString(text)
		if part == "" {
			return impl.Expr{}, false
		}
		text = text[len(part):]
		switch {
		case part[0] == ' ':
		case part == "(" && needsKid:
			waiting = append(waiting, part)
		case (part == "+" || part == "-") && needsKid:
			waiting = append(waiting, "u"+part)
		case needsKid:
			e, ok := parsedNumber(part)
			if !ok || part[0] == 't' && text != "" && strings.Contains("+-0", text[:1]) {
				return impl.Expr{}, false
			}
			kids = append(kids, e)
			needsKid = false
		case part == ")":
			reduce(1)
			if len(waiting) == 0 {
				return impl.Expr{}, false
			}
			waiting = waiting[:len(waiting)-1]
		case rank[part] > 0:
			reduce(rank[part])
			waiting = append(waiting, part)
			needsKid = true
		default:
			return impl.Expr{}, false
		}
	}
	if needsKid {
		return impl.Expr{}, false
	}
	reduce(1)
	if len(waiting) > 0 || nodesOf(kids[0]) > 60 || depthOf(kids[0]) > 12 {
		return impl.Expr{}, false
	}
	return kids[0], true
}

func parsedNumber(part string) (impl.Expr, bool) {
	n := 0
	if part[0] == 't' {
		for _, sign := range part[1:] {
			n = 3*n + strings.IndexRune("-0+", sign) - 1
		}
		if n < 0 {
			return node(3, num(-n)), true
		}
		return num(n), true
	}
	n, err := strconv.Atoi(part)
	return num(n), err == nil && n <= limitOfMaxWord && len(part) <= 15 && (part == "0" || part[0] >= '1')
}

func checkParsed(t *testing.T, text string) bool {
	t.Helper()
	want, isText := parsedAll(text)
	e, ok := impl.ParseExpr(text)
	if ok != isText || !sameExpr(e, want) {
		t.Fatalf("ParseExpr(%q) = %v, %v, not %v, %v", text, e, ok, want, isText)
	}
	return ok
}

func TestAllShortTexts(t *testing.T) {
	for alphabet, most := range map[string]int{"1+*() t0": 5, "0-/%t": 6, "+-t 1": 7, "()1-": 8} {
		texts := []string{""}
		for range most {
			var longer []string
			for _, text := range texts {
				checkParsed(t, text)
				for i := range alphabet {
					longer = append(longer, text+alphabet[i:i+1])
				}
			}
			texts = longer
		}
		for _, text := range texts {
			checkParsed(t, text)
		}
	}
}

// TestChangedTexts changes a few bytes of texts, which may spoil them or not.
func TestChangedTexts(t *testing.T) {
	maker := exprMaker{numberMaker{23}, allKinds}
	counts := map[bool]int{}
	for _, e := range sampleExprs(allKinds) {
		text := []byte(maker.wordyText(e))
		if maker.number(2) == 0 {
			text = []byte(impl.FormatExpr(e))
		}
		for range 1 + maker.number(3) {
			at := maker.number(len(text))
			switch b := "0123456789+-+-*/%()( )t \n"[maker.number(25)]; maker.number(3) {
			case 0:
				text[at] = b
			case 1:
				text = slices.Insert(text, at, b)
			case 2:
				text = append(slices.Delete(text, at, at+1), ' ')
			}
		}
		if len(text) <= 400 {
			counts[checkParsed(t, string(text))]++
		}
	}
	if counts[true] < 500 || counts[false] < 500 {
		t.Errorf("texts: %v", counts)
	}
}

func TestValuesOfExpressions(t *testing.T) {
	for text, want := range map[string]string{
		"0": "0", "7": "7", "102945566047324": "102945566047324", "-102945566047324": "-102945566047324", "+5": "5", "-5": "-5", "--5": "5", "-0": "0", "2+3": "5", "2-3": "-1", "2*3": "6", "-2*3": "-6", "-2*-3": "6", "1+2*3": "7", "(1+2)*3": "9", "10-4-3": "3", "10-(4-3)": "9",
		"7/2": "3", "7%2": "1", "-7/2": "-4", "-7%2": "1", "7/-2": "-3", "7%-2": "1", "-7/-2": "4", "-7%-2": "1", "8/3": "3", "8%3": "-1", "-8/3": "-3", "-8%3": "1", "8/-3": "-3", "8%-3": "-1", "-8/-3": "3", "-8%-3": "1", "6/4": "1", "6%4": "2", "-6/4": "-2", "-6%4": "2", "6/-4": "-1", "6%-4": "2", "-6/-4": "2", "-6%-4": "2", "1/2": "0", "1%2": "1", "-1/2": "-1", "-1%2": "1", "1/1": "1", "1%1": "0", "0/5": "0", "0%5": "0", "0/-5": "0", "3/5": "1", "3%5": "-2", "2/5": "0", "2%5": "2",
		"102945566047324/1": "102945566047324", "102945566047324/-1": "-102945566047324", "-102945566047324/-1": "102945566047324", "102945566047324%102945566047324": "0", "1/102945566047324": "0", "1%102945566047324": "1", "102945566047324/2": "51472783023662", "102945566047324%2": "0", "102945566047323/2": "51472783023661", "102945566047323%2": "1", "-102945566047323/2": "-51472783023662",
		"102945566047323+1": "102945566047324", "-102945566047323-1": "-102945566047324", "102945566047324-102945566047324": "0", "102945566047324+-102945566047324": "0", "51472783023662*2": "102945566047324", "51472783023662*-2": "-102945566047324", "102945566047324*1": "102945566047324", "102945566047324*0": "0", "0*102945566047324": "0", "0*-102945566047324": "0", "10146208*10146208": "102945536779264",
		"102945566047324+1": "", "102945566047324+102945566047324": "", "-102945566047324-1": "", "-102945566047324-102945566047324": "", "102945566047324--1": "", "51472783023663*2": "", "51472783023663*-2": "", "2*-51472783023663": "", "102945566047324*102945566047324": "", "-102945566047324*102945566047324": "", "102945566047324*-102945566047324": "", "4294967296*4294967296": "", "4294967296*2147483648": "", "10146210*10146210": "", "3037000500*3037000500": "", "(102945566047324+1)*0": "", "0*(102945566047324+1)": "", "102945566047324+1-1": "", "(51472783023663*2)/2": "", "(51472783023663*2)%2": "", "-(102945566047324+1)": "", "+(102945566047324+1)": "", "102945566047324*2/2": "", "1+2*51472783023662*1": "",
		"1/0": "", "1%0": "", "0/0": "", "0%0": "", "-1/0": "", "1/-0": "", "1%+0": "", "1/(1-1)": "", "5%(2*3-6)": "", "0*(1/0)": "", "(1/0)*0": "", "1/(1/2)": "", "0*(0%0)": "", "-(1/0)": "", "+(1%0)": "", "1+1/0": "", "1/0-1": "", "1/(0/1)": "", "102945566047324/0": "", "1/t0": "",
	} {
		e, read := impl.ParseExpr(text)
		n, ok := impl.EvalExpr(e)
		if !read || ok != (want != "") || ok && strconv.Itoa(n) != want || !ok && n != 0 {
			t.Errorf("%s has the value %d, %v, not %s", text, n, ok, want)
		}
	}
}

// TestQuotientsAreThoseOfWords holds quotients and rests against DivideWords.
func TestQuotientsAreThoseOfWords(t *testing.T) {
	numbers := []int{limitOfMaxWord, limitOfMaxWord - 1, limitOfMaxWord / 2, 3432, 1 << 40, 9841, 19683}
	for n := range 20 {
		numbers = append(numbers, n)
	}
	signed := func(n int) impl.Expr {
		if n < 0 {
			return node(impl.ExprMinus, num(-n))
		}
		return num(n)
	}
	for _, a := range numbers {
		for _, d := range numbers {
			for _, x := range [][2]int{{a, d}, {-a, d}, {a, -d}, {-a, -d}} {
				w, _ := impl.WordOf(x[0], 30)
				by, _ := impl.WordOf(x[1], 30)
				q, r, isThere := impl.DivideWords(w, by)
				n, ok := impl.EvalExpr(node(impl.ExprDiv, signed(x[0]), signed(x[1])))
				rest, fine := impl.EvalExpr(node(impl.ExprRest, signed(x[0]), signed(x[1])))
				if ok != isThere || fine != isThere || n != impl.ValueOf(q) || rest != impl.ValueOf(r) {
					t.Errorf("%d by %d is %d, %v, with the rest %d, %v", x[0], x[1], n, ok, rest, fine)
				}
			}
		}
	}
}

func TestProgramsOfExpressions(t *testing.T) {
	for text, want := range map[string]string{
		"0": "push 000000000", "7": "push 000000+-+", "9841": "push +++++++++", "9842": "push ---------", "-9841": "push +++++++++;negate", "-9842": "push ---------;negate", "19683": "push 000000000", "19682": "push 00000000-", "102945566047324": "push +++++++++",
		"+1": "push 00000000+", "++1": "push 00000000+", "-1": "push 00000000+;negate", "--1": "push 00000000+;negate;negate", "-+-1": "push 00000000+;negate;negate", "t-": "push 00000000+;negate", "1+2": "push 00000000+;push 0000000+-;add", "1-2": "push 00000000+;push 0000000+-;sub", "1*2": "push 00000000+;push 0000000+-;mul",
		"1-(2-3)": "push 00000000+;push 0000000+-;push 0000000+0;sub;sub", "1-2-3": "push 00000000+;push 0000000+-;sub;push 0000000+0;sub", "-(1+2)*3": "push 00000000+;push 0000000+-;add;negate;push 0000000+0;mul", "+(1+2)": "push 00000000+;push 0000000+-;add", "102945566047324*102945566047324": "push +++++++++;push +++++++++;mul",
		"1/2": "", "1%2": "", "-(1/2)": "", "+(1%2)": "", "1+1/2": "", "1%2-1": "", "1/2*3": "", "3*(1/2)": "", "1/0": "", "0/1": "", "1-(2+(3%4))": "",
	} {
		e, read := impl.ParseExpr(text)
		code, ok := impl.CompileExpr(e)
		if got := impl.FormatCode(code); !read || ok != (want != "") || got != want || !ok && len(code) != 0 {
			t.Errorf("%s has the program %q, %v, not %q", text, got, ok, want)
		}
	}
}

// programByTheLetter returns the program; false if there is none.
func programByTheLetter(e impl.Expr) ([]impl.Op, bool) {
	var code []impl.Op
	for _, kid := range e.Kids {
		part, ok := programByTheLetter(kid)
		if !ok {
			return nil, false
		}
		code = append(code, part...)
	}
	switch e.Kind {
	case impl.ExprNumber:
		return []impl.Op{{Code: impl.OpPush, A: wrapped(e.Number, 9)}}, true
	case impl.ExprPlus:
		return code, true
	case impl.ExprMinus:
		return append(code, impl.Op{Code: impl.OpNegate}), true
	case impl.ExprAdd:
		return append(code, impl.Op{Code: impl.OpAdd}), true
	case impl.ExprSub:
		return append(code, impl.Op{Code: impl.OpSub}), true
	case impl.ExprMul:
		return append(code, impl.Op{Code: impl.OpMul}), true
	}
	return nil, false
}

func TestProgramsByTheLetter(t *testing.T) {
	for _, kinds := range [][]int{allKinds, runKinds} {
		for _, e := range sampleExprs(kinds) {
			want, isThere := programByTheLetter(e)
			if code, ok := impl.CompileExpr(e); ok != isThere || !slices.Equal(code, want) {
				t.Fatalf("%s has the program %v, %v", impl.FormatExpr(e), code, ok)
			}
		}
	}
}

// TestLongestPrograms takes expressions that have as many operations as nodes.
func TestLongestPrograms(t *testing.T) {
	for nest := 7; nest <= impl.MaxNest; nest++ {
		e := sixty(nest)
		e.Kids[0].Kind = impl.ExprMinus
		if code, ok := impl.CompileExpr(e); !ok || len(code) != 60 || !impl.IsCode(code) {
			t.Errorf("%s has the program %v, %v", impl.FormatExpr(e), code, ok)
		}
	}
}

func TestNegatives(t *testing.T) {
	for text, want := range map[string]string{
		"0": "-0", "7": "-7", "102945566047324": "-102945566047324", "+7": "+-7", "-7": "+7", "--7": "+-7", "++7": "++-7", "+-7": "++7", "-+7": "++7", "t-": "+1", "t+": "-1",
		"1+2": "-1 + -2", "1-2": "-1 - -2", "1*2": "-1 * 2", "1/2": "-(1 / 2)", "1%2": "-(1 % 2)", "-(1/2)": "+(1 / 2)", "+(1%2)": "+-(1 % 2)", "-(1+2)": "+(1 + 2)", "+(1+2)": "+(-1 + -2)", "+(1*2)": "+(-1 * 2)", "-(1*2)": "+(1 * 2)",
		"1-2-3": "-1 - -2 - -3", "1-(2-3)": "-1 - (-2 - -3)", "1+2*3": "-1 + -2 * 3", "1*2+3": "-1 * 2 + -3", "1*2*3": "-1 * 2 * 3", "1*(2*3)": "-1 * (2 * 3)", "(1+2)*(3+4)": "(-1 + -2) * (3 + 4)", "(1-2)*3": "(-1 - -2) * 3", "-1*-2": "+1 * -2", "1/2*3": "-(1 / 2) * 3", "1*2/3": "-(1 * 2 / 3)", "1+2/3": "-1 + -(2 / 3)", "1-(2-3)*-8": "-1 - (-2 - -3) * -8", "-1-+2": "+1 - +-2", "(1+2)/3": "-((1 + 2) / 3)", "(1+2)%(3-4)": "-((1 + 2) % (3 - 4))", "1/0": "-(1 / 0)", "102945566047324+1": "-102945566047324 + -1",
		// These are as deep as expressions may be; some of their negatives are too deep.
		strings.Repeat("-", 11) + "1": "+" + strings.Repeat("-", 10) + "1", strings.Repeat("+", 11) + "1": "", strings.Repeat("+", 10) + "1": strings.Repeat("+", 10) + "-1", strings.Repeat("+", 10) + "-1": strings.Repeat("+", 11) + "1", strings.Repeat("1*", 11) + "1": "", strings.Repeat("1*", 10) + "1": "-1" + strings.Repeat(" * 1", 10), "-1*" + strings.Repeat("1*", 9) + "1": "+1" + strings.Repeat(" * 1", 10), strings.Repeat("1/", 11) + "1": "", strings.Repeat("1/", 10) + "1": "-(1" + strings.Repeat(" / 1", 10) + ")", strings.Repeat("1+", 11) + "1": "", strings.Repeat("1+", 10) + "1": "-1" + strings.Repeat(" + -1", 10), strings.Repeat("1-(", 11) + "1" + strings.Repeat(")", 11): "", "1*" + strings.Repeat("(1/", 10) + "1" + strings.Repeat(")", 10): "-1 * (" + strings.Repeat("1 / (", 9) + "1 / 1" + strings.Repeat(")", 10),
	} {
		e, read := impl.ParseExpr(text)
		negative, ok := impl.NegateExpr(e)
		if got := impl.FormatExpr(negative); !read || ok != (want != "") || got != want || !ok && !isNoExpr(negative) {
			t.Errorf("the negative of %s is %q, %v, not %q", text, got, ok, want)
		}
	}
}

// TestNegativesWithTooManyNodes has sums of up to 29 numbers, of which each gets
// a sign where the negative has the negatives of both kids.
func TestNegativesWithTooManyNodes(t *testing.T) {
	for numbers := 1; numbers <= 29; numbers++ {
		sum, plain, signed := sumOf(numbers), 2*numbers-1, 3*numbers-1
		for _, x := range []struct {
			e     impl.Expr
			nodes int
		}{
			{sum, signed}, {node(impl.ExprPlus, sum), signed + 1}, {node(impl.ExprMinus, sum), plain + 1}, {node(impl.ExprMul, sum, num(2)), signed + 2}, {node(impl.ExprMul, num(2), sum), plain + 3}, {node(impl.ExprRest, sum, num(2)), plain + 3}, {node(impl.ExprDiv, signs(1, impl.ExprPlus, num(2)), sum), plain + 4},
		} {
			negative, ok := impl.NegateExpr(x.e)
			if !impl.IsExpr(x.e) || ok != (x.nodes <= 60) || ok && nodesOf(negative) != x.nodes || !ok && !isNoExpr(negative) {
				t.Errorf("the negative of %s is %s, %v", impl.FormatExpr(x.e), impl.FormatExpr(negative), ok)
			}
		}
	}
}

// sumOf returns a sum of as many numbers, which is as flat as can be.
func sumOf(numbers int) impl.Expr {
	if numbers == 1 {
		return num(1)
	}
	return node(impl.ExprAdd, sumOf(numbers/2), sumOf(numbers-numbers/2))
}

// negativeByTheLetter returns the negative, which need not be valid.
func negativeByTheLetter(e impl.Expr) impl.Expr {
	switch e.Kind {
	case impl.ExprPlus:
		return node(impl.ExprPlus, negativeByTheLetter(e.Kids[0]))
	case impl.ExprMinus:
		return node(impl.ExprPlus, e.Kids[0])
	case impl.ExprAdd, impl.ExprSub:
		return node(e.Kind, negativeByTheLetter(e.Kids[0]), negativeByTheLetter(e.Kids[1]))
	case impl.ExprMul:
		return node(impl.ExprMul, negativeByTheLetter(e.Kids[0]), e.Kids[1])
	}
	return node(impl.ExprMinus, e)
}

func TestNegativesByTheLetter(t *testing.T) {
	for _, e := range sampleExprs(allKinds) {
		want := negativeByTheLetter(e)
		isValid := nodesOf(want) <= 60 && depthOf(want) <= 12
		if !isValid {
			want = impl.Expr{}
		}
		if negative, ok := impl.NegateExpr(e); ok != isValid || !sameExpr(negative, want) {
			t.Fatalf("the negative of %s is %v, %v", impl.FormatExpr(e), negative, ok)
		}
	}
}

func TestLinesOfTheDesk(t *testing.T) {
	for line, want := range map[string]string{
		"0": "0 0", "-0": "0 0", "7": "7 +-+", "-7": "-7 -+-", "1": "1 +", "-1": "-1 -", "2+2": "4 ++", "2+3": "5 +--", " 7 ": "7 +-+", "(7)": "7 +-+", "t+-+": "7 +-+", "t-+-": "-7 -+-", "t000": "0 0", "7/2": "3 +0", "-7/2": "-4 --", "7%2": "1 +", "102945566047324": "102945566047324 " + ones, "-102945566047324": "-102945566047324 " + minuses, "34315188682442": "34315188682442 +" + minuses[:29], "34315188682441": "34315188682441 " + ones[:29], "102945566047324+1": "what", "1/0": "what", "1%0": "what", strings.Repeat("-", 12) + "1": "what",
		"show 0": "0", "show 1+2": "1 + 2", "show (1)+(2*3)": "1 + 2 * 3", "show  1": "1", "show   1  ": "1", "show (1)": "1", "show t-": "-1", "show -1": "-1", "show +1": "+1", "show 1/0": "1 / 0", "show 102945566047324+1": "102945566047324 + 1", "show t+0 +1": "3 + 1", "show ((1-2)-3)": "1 - 2 - 3", "show " + strings.Repeat(" ", 399) + "1": "1", "show " + strings.Repeat(" ", 400) + "1": "what",
		"code 0": "push 000000000", "code 1+-2": "push 00000000+;push 0000000+-;negate;add", "code  1": "push 00000000+", "code 102945566047324+1": "push +++++++++;push 00000000+;add", "code 1/2": "what", "code 1%2": "what", "code -(1/0)": "what", "code " + strings.Repeat(" ", 399) + "1": "push 00000000+", "code " + strings.Repeat(" ", 400) + "1": "what",
		"run 0": "0", "run 2*5": "10", "run -5": "-5", "run  5": "5", "run 9841": "9841", "run 9842": "-9841", "run 9841+1": "-9841", "run -9841-1": "9841", "run 102945566047324+1": "-9841", "run 102945566047324*102945566047324": "4921", "run 1/2": "what", "run 1%2": "what", "run 1/1": "what", "run " + strings.Repeat(" ", 399) + "1": "1", "run " + strings.Repeat(" ", 400) + "1": "what",
		"": "what", " ": "what", "what": "what", "x": "what", "1 2": "what", "1+": "what", "show": "what", "show ": "what", "show  ": "what", "code": "what", "code ": "what", "run": "what", "run ": "what", "show1": "what", "run1": "what", "code1": "what", "show(1)": "what", "run(1)": "what", "run-1": "what", " show 1": "what", " run 1": "what", " code 1": "what", "show\t1": "what", "Show 1": "what", "RUN 1": "what", "show show 1": "what", "show run 1": "what", "run run 1": "what", "show 1;": "what", "show x": "what", "code x": "what", "run x": "what", "run 1 2": "what", "eval 1": "what", "negate 1": "what", "1 show": "what", "sho 1": "what", "shows 1": "what", "ru 1": "what", "runs 1": "what", "1\r": "what", "show 1\r": "what", "run 1\r": "what", "\x00": "what", "\xff": "what", "show \xff": "what", "1\t": "what", "show 00": "what", "run (1": "what",
		strings.Repeat(" ", 399) + "7": "7 +-+", strings.Repeat(" ", 400) + "7": "what", strings.Repeat("(", 100000): "what",
	} {
		if out, ok := impl.RunDesk(line); !ok || !slices.Equal(out, []string{want}) {
			t.Errorf("RunDesk(%q) = %q, %v, not %q", line, out, ok, want)
		}
	}
}

func TestTextsOfTheDesk(t *testing.T) {
	for text, want := range map[string]string{
		"": "what", "\n": "what|what", "\n\n": "what|what|what", "1": "1 +", "1\n": "1 +|what", "\n1": "what|1 +", "1\n2": "1 +|2 +-", "1\n\n2": "1 +|what|2 +-", "1\n2\n": "1 +|2 +-|what", "7/2\nshow (1)+(2*3)\ncode 1+-2\nrun 2*5\nx": "3 +0|1 + 2 * 3|push 00000000+;push 0000000+-;negate;add|10|what", "1+\n2": "what|2 +-", "show\n1": "what|1 +", "show \n1": "what|1 +", "(1\n)": "what|what", "1\r\n2": "what|2 +-", "1/0\n1": "what|1 +", "run 1/2\nrun 3\nrun 4": "what|3|4", "1;2": "what",
	} {
		if out, ok := impl.RunDesk(text); !ok || strings.Join(out, "|") != want {
			t.Errorf("RunDesk(%q) = %q, %v", text, out, ok)
		}
	}
}

func TestNumbersOfLines(t *testing.T) {
	for _, line := range []string{"", "1", "show 1+2", "x"} {
		one, _ := impl.RunDesk(line)
		for count := 1; count <= 100; count++ {
			lines := slices.Repeat([]string{line}, count)
			out, ok := impl.RunDesk(strings.Join(lines, "\n"))
			if ok != (count <= 40) || ok && !slices.Equal(out, slices.Repeat(one, count)) || !ok && len(out) != 0 {
				t.Errorf("RunDesk of %d lines %q: %q, %v", count, line, out, ok)
			}
		}
	}
	for _, text := range []string{strings.Repeat("\n", 1000000), strings.Repeat("1\n", 40), strings.Repeat("\n", 40), "1" + strings.Repeat("\n", 40) + "1"} {
		if out, ok := impl.RunDesk(text); ok || len(out) != 0 {
			t.Errorf("RunDesk of %d bytes: %d outputs, %v", len(text), len(out), ok)
		}
	}
	if out, ok := impl.RunDesk(strings.Repeat("1\n", 39)); !ok || len(out) != 40 || out[38] != "1 +" || out[39] != "what" {
		t.Errorf("RunDesk of 39 newlines: %q, %v", out, ok)
	}
}

// placesIn returns where the kids of an expression lie, and what is behind them.
func placesIn(e impl.Expr) []*impl.Expr {
	var places []*impl.Expr
	for i := range e.Kids[:cap(e.Kids)] {
		kid := &e.Kids[:cap(e.Kids)][i]
		places = append(append(places, kid), placesIn(*kid)...)
	}
	return places
}

// spacious returns an equal expression whose lists of kids have more
// expressions behind them.
func spacious(e impl.Expr) impl.Expr {
	kids := make([]impl.Expr, 0, len(e.Kids)+2)
	for _, kid := range e.Kids {
		kids = append(kids, spacious(kid))
	}
	copy(kids[len(kids):cap(kids)], []impl.Expr{num(77), node(impl.ExprMinus, num(78))})
	e.Kids = kids
	return e
}

// checkOwnMemory expects that all the expressions lie in memory of their own.
func checkOwnMemory(t *testing.T, name string, list ...impl.Expr) {
	t.Helper()
	seen := map[*impl.Expr]bool{}
	for _, e := range list {
		for _, place := range placesIn(e) {
			if seen[place] {
				t.Fatalf("%s shares memory: %v", name, list)
			}
			seen[place] = true
		}
	}
}

func TestMemoryOfExpressions(t *testing.T) {
	maker := exprMaker{numberMaker{31}, allKinds}
	for nodes := 1; nodes <= 30; nodes++ {
		for nest := 6; nest <= impl.MaxNest; nest += 2 {
			e := spacious(maker.expr(nodes, nest))
			before := fmt.Sprint(e, everything(e))
			first, ok := impl.NegateExpr(e)
			second, _ := impl.NegateExpr(e)
			checkOwnMemory(t, "NegateExpr", e, first, second)
			if ok && !sameExpr(first, second) {
				t.Fatalf("results of NegateExpr: %v, %v", first, second)
			}
			text := impl.FormatExpr(e)
			first, _ = impl.ParseExpr(text)
			second, _ = impl.ParseExpr(text)
			checkOwnMemory(t, "ParseExpr", e, first, second)
			impl.IsExpr(e)
			impl.EqualExprs(e, first)
			impl.EqualExprs(first, e)
			impl.EqualExprs(e, e)
			impl.EvalExpr(e)
			code, _ := impl.CompileExpr(e)
			again, _ := impl.CompileExpr(e)
			if shareMemory(code, again) || !slices.Equal(code, again) {
				t.Fatalf("results of CompileExpr: %v, %v", code, again)
			}
			if after := fmt.Sprint(e, everything(e)); after != before {
				t.Fatalf("%s becomes %s", before, after)
			}
		}
	}
}

// everything returns what lies at all places of an expression.
func everything(e impl.Expr) []impl.Expr {
	var list []impl.Expr
	for _, place := range placesIn(e) {
		list = append(list, *place)
	}
	return list
}

// TestMemoryOfSharedKids takes an expression that has the same kids twice.
func TestMemoryOfSharedKids(t *testing.T) {
	kid := node(impl.ExprMinus, node(impl.ExprAdd, num(1), num(2)))
	for _, kind := range allKinds[2:] {
		e := node(kind, kid, kid)
		negative, ok := impl.NegateExpr(e)
		if !ok || !sameExpr(negative, negativeByTheLetter(e)) {
			t.Fatalf("the negative of %v is %v, %v", e, negative, ok)
		}
		checkOwnMemory(t, "NegateExpr", negative)
		checkOwnMemory(t, "NegateExpr", negative, kid)
	}
}

func TestMemoryOfOutputs(t *testing.T) {
	text := "1\nshow 2\nrun 3"
	first, _ := impl.RunDesk(text)
	second, _ := impl.RunDesk(text)
	if shareMemory(first, second) || !slices.Equal(first, second) {
		t.Errorf("results of RunDesk: %q, %q", first, second)
	}
}
