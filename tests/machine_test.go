package tests

// What chapter 8 specifies for all arguments (promise P11): literal results, edge cases, invalid arguments, and memory that is neither shared nor modified.

import (
	"fmt"
	"math"
	"regexp"
	"slices"
	"strconv"
	"strings"
	"testing"

	"loop.example/g03225/impl"
)

var operationNames = []string{"push", "add", "sub", "mul", "negate", "sign", "copy", "swap", "drop", "shift", "load", "store", "jump", "branch", "halt"}

func TestMachineConstants(t *testing.T) {
	sizes := []int{impl.CellTrits, impl.MaxStack, impl.MaxOps, impl.MaxCells, impl.MaxFuel}
	if !slices.Equal(sizes, []int{9, 20, 80, 27, 2000}) {
		t.Errorf("the sizes are %v", sizes)
	}
	codes := []int{
		impl.OpPush, impl.OpAdd, impl.OpSub, impl.OpMul, impl.OpNegate, impl.OpSign, impl.OpCopy, impl.OpSwap, impl.OpDrop, impl.OpShift, impl.OpLoad, impl.OpStore, impl.OpJump, impl.OpBranch, impl.OpHalt,
	}
	if !slices.Equal(codes, []int{1, 2, 3, 4, 5, 6, 7, 8, 9, 10, 11, 12, 13, 14, 15}) {
		t.Errorf("the codes of the operations are %v", codes)
	}
	ends := []int{impl.RunHalted, impl.RunEnded, impl.RunStack, impl.RunCell, impl.RunFuel}
	if !slices.Equal(ends, []int{1, 2, 3, 4, 5}) {
		t.Errorf("the ends of runs are %v", ends)
	}
}

func TestNamesOfOperations(t *testing.T) {
	for i, want := range operationNames {
		if got := impl.OpName(i + 1); got != want {
			t.Errorf("OpName(%d) = %q", i+1, got)
		}
	}
	for _, bad := range noCodes {
		if got := impl.OpName(bad); got != "" {
			t.Errorf("OpName(%d) = %q", bad, got)
		}
	}
}

// noCodes has numbers that are no codes of operations.
var noCodes = []int{0, -1, -2, -15, 16, 17, 256, 257, -255, 1 << 32, 1<<32 + 1, -1 << 32, math.MaxInt, math.MaxInt - 1, math.MinInt, math.MinInt + 1, math.MinInt + 2}

func TestWrappedNumbers(t *testing.T) {
	for _, x := range []struct{ n, want int }{
		{0, 0}, {1, 1}, {-1, -1}, {9841, 9841}, {-9841, -9841}, {9842, -9841}, {-9842, 9841}, {19682, -1}, {19683, 0}, {19684, 1}, {-19683, 0}, {-19682, 1}, {-19684, -1}, {29524, 9841}, {29525, -9841}, {-29524, -9841}, {-29525, 9841},
		{9841 * 9841, 4921}, {-9841 * 9841, -4921}, {1 << 32, -1085}, {math.MaxInt, 7963}, {math.MinInt, -7964}, {math.MinInt + 1, -7963}, {math.MaxInt - 1, 7962}, {math.MaxInt - 9841, -1878}, {math.MinInt + 9841, 1877},
	} {
		if got := impl.WrapCell(x.n); got != x.want {
			t.Errorf("WrapCell(%d) = %d, not %d", x.n, got, x.want)
		}
	}
}

func TestTheNewMachine(t *testing.T) {
	m := impl.NewMachine()
	if !equalMachines(m, impl.Machine{Cells: make([]int, 27)}) || !impl.IsMachine([]impl.Op{{Code: impl.OpHalt}}, m) {
		t.Errorf("NewMachine() = %v", m)
	}
	m.Cells[3], m.Pc = 7, 1
	m.Stack = append(m.Stack, 5)
	if again := impl.NewMachine(); !equalMachines(again, impl.Machine{Cells: make([]int, 27)}) {
		t.Errorf("then, NewMachine() = %v", again)
	}
}

// codeOf expects that the text is that of a valid program.
func codeOf(t *testing.T, text string) []impl.Op {
	t.Helper()
	code, ok := impl.ParseCode(text)
	if !ok || impl.FormatCode(code) != text {
		t.Fatalf("ParseCode(%q) = %v, %v", text, code, ok)
	}
	return code
}

// cellsWith returns the cells in which addresses, each followed by a number,
// have these numbers, and all others the negatives of their addresses.
func cellsWith(pairs ...int) []int {
	cells := make([]int, 27)
	for i := range cells {
		cells[i] = 13 - i
	}
	for i := 0; i < len(pairs); i += 2 {
		cells[pairs[i]+13] = pairs[i+1]
	}
	return cells
}

// full returns 20 numbers, of which the last ones are given.
func full(last ...int) []int {
	return append(repeated(3, 20-len(last)), last...)
}

func TestOperations(t *testing.T) {
	for _, x := range []struct {
		text          string
		before, after []int
		place, end    int
		stored        []int
	}{
		{"push 0000000++", nil, []int{4}, 1, 0, nil}, {"push +++++++++", []int{5}, []int{5, 9841}, 1, 0, nil}, {"push ---------", []int{5, 6}, []int{5, 6, -9841}, 1, 0, nil}, {"push 000000000", full()[1:], full(0), 1, 0, nil}, {"push 000000000", full(), full(), 0, impl.RunStack, nil},
		{"add", []int{7, 5}, []int{12}, 1, 0, nil}, {"add", []int{1, 7, -9}, []int{1, -2}, 1, 0, nil}, {"add", []int{9841, 1}, []int{-9841}, 1, 0, nil}, {"add", []int{-9841, -1}, []int{9841}, 1, 0, nil}, {"add", []int{9841, 9841}, []int{-1}, 1, 0, nil}, {"add", []int{-9841, -9841}, []int{1}, 1, 0, nil}, {"add", full(2, 2), full(4)[1:], 1, 0, nil}, {"add", []int{7}, []int{7}, 0, impl.RunStack, nil}, {"add", nil, nil, 0, impl.RunStack, nil},
		{"sub", []int{7, 5}, []int{2}, 1, 0, nil}, {"sub", []int{1, 5, 7}, []int{1, -2}, 1, 0, nil}, {"sub", []int{9841, -1}, []int{-9841}, 1, 0, nil}, {"sub", []int{-9841, 9841}, []int{1}, 1, 0, nil}, {"sub", []int{0, -9841}, []int{9841}, 1, 0, nil}, {"sub", []int{7}, []int{7}, 0, impl.RunStack, nil}, {"sub", []int{}, nil, 0, impl.RunStack, nil},
		{"mul", []int{7, 5}, []int{35}, 1, 0, nil}, {"mul", []int{1, -7, 5}, []int{1, -35}, 1, 0, nil}, {"mul", []int{9841, 9841}, []int{4921}, 1, 0, nil}, {"mul", []int{-9841, 9841}, []int{-4921}, 1, 0, nil}, {"mul", []int{9841, 2}, []int{-1}, 1, 0, nil}, {"mul", []int{0, -9841}, []int{0}, 1, 0, nil}, {"mul", []int{81, 243}, []int{0}, 1, 0, nil}, {"mul", []int{7}, []int{7}, 0, impl.RunStack, nil}, {"mul", nil, nil, 0, impl.RunStack, nil},
		{"negate", []int{7, 5}, []int{7, -5}, 1, 0, nil}, {"negate", []int{-9841}, []int{9841}, 1, 0, nil}, {"negate", []int{0}, []int{0}, 1, 0, nil}, {"negate", full(), full(-3), 1, 0, nil}, {"negate", nil, nil, 0, impl.RunStack, nil},
		{"sign", []int{7, 5}, []int{7, 1}, 1, 0, nil}, {"sign", []int{-9841}, []int{-1}, 1, 0, nil}, {"sign", []int{0}, []int{0}, 1, 0, nil}, {"sign", full(), full(1), 1, 0, nil}, {"sign", nil, nil, 0, impl.RunStack, nil},
		{"copy", []int{7}, []int{7, 7}, 1, 0, nil}, {"copy", []int{7, -5}, []int{7, -5, -5}, 1, 0, nil}, {"copy", full(4)[1:], full(4, 4), 1, 0, nil}, {"copy", full(), full(), 0, impl.RunStack, nil}, {"copy", nil, nil, 0, impl.RunStack, nil},
		{"swap", []int{7, 5}, []int{5, 7}, 1, 0, nil}, {"swap", []int{1, 7, 5}, []int{1, 5, 7}, 1, 0, nil}, {"swap", full(7, 5), full(5, 7), 1, 0, nil}, {"swap", []int{7}, []int{7}, 0, impl.RunStack, nil}, {"swap", nil, nil, 0, impl.RunStack, nil},
		{"drop", []int{7, 5}, []int{7}, 1, 0, nil}, {"drop", []int{7}, nil, 1, 0, nil}, {"drop", full(), full()[1:], 1, 0, nil}, {"drop", nil, nil, 0, impl.RunStack, nil},
		{"shift 0", []int{1, 7}, []int{1, 7}, 1, 0, nil}, {"shift 1", []int{7}, []int{21}, 1, 0, nil}, {"shift -1", []int{7}, []int{2}, 1, 0, nil}, {"shift -1", []int{5}, []int{2}, 1, 0, nil}, {"shift -1", []int{-5}, []int{-2}, 1, 0, nil}, {"shift 1", []int{9841}, []int{9840}, 1, 0, nil}, {"shift 1", []int{3281}, []int{-9840}, 1, 0, nil}, {"shift 8", []int{9841}, []int{6561}, 1, 0, nil}, {"shift 8", []int{2}, []int{-6561}, 1, 0, nil}, {"shift 8", []int{3}, []int{0}, 1, 0, nil}, {"shift 9", []int{9841}, []int{0}, 1, 0, nil},
		{"shift -8", []int{9841}, []int{1}, 1, 0, nil}, {"shift -8", []int{-3281}, []int{-1}, 1, 0, nil}, {"shift -8", []int{3280}, []int{0}, 1, 0, nil}, {"shift -9", []int{-9841}, []int{0}, 1, 0, nil}, {"shift -4", []int{-9841}, []int{-121}, 1, 0, nil}, {"shift 2", full(), full(27), 1, 0, nil}, {"shift 0", nil, nil, 0, impl.RunStack, nil},
		{"load", []int{7}, []int{-7}, 1, 0, nil}, {"load", []int{5, 0}, []int{5, 0}, 1, 0, nil}, {"load", []int{-13}, []int{13}, 1, 0, nil}, {"load", []int{13}, []int{-13}, 1, 0, nil}, {"load", []int{14}, []int{14}, 0, impl.RunCell, nil}, {"load", []int{5, -14}, []int{5, -14}, 0, impl.RunCell, nil}, {"load", []int{9841}, []int{9841}, 0, impl.RunCell, nil}, {"load", []int{-9841}, []int{-9841}, 0, impl.RunCell, nil}, {"load", full(), full(-3), 1, 0, nil}, {"load", full(27), full(27), 0, impl.RunCell, nil}, {"load", nil, nil, 0, impl.RunStack, nil},
		{"store", []int{5, 7}, nil, 1, 0, []int{7, 5}}, {"store", []int{1, -9841, 0}, []int{1}, 1, 0, []int{0, -9841}}, {"store", []int{8, -13}, nil, 1, 0, []int{-13, 8}}, {"store", []int{8, 13}, nil, 1, 0, []int{13, 8}}, {"store", []int{8, 14}, []int{8, 14}, 0, impl.RunCell, nil}, {"store", []int{8, -14}, []int{8, -14}, 0, impl.RunCell, nil}, {"store", []int{14, 8}, nil, 1, 0, []int{8, 14}}, {"store", []int{8, 9841}, []int{8, 9841}, 0, impl.RunCell, nil}, {"store", full(8, 2), full()[2:], 1, 0, []int{2, 8}},
		{"store", []int{7}, []int{7}, 0, impl.RunStack, nil}, {"store", []int{14}, []int{14}, 0, impl.RunStack, nil}, {"store", []int{-9841}, []int{-9841}, 0, impl.RunStack, nil}, {"store", nil, nil, 0, impl.RunStack, nil},
		{"jump 0", []int{7}, []int{7}, 0, 0, nil}, {"jump 1", nil, nil, 1, 0, nil}, {"jump 3;add;sub", full(), full(), 3, 0, nil}, {"jump 2;add;sub", nil, nil, 2, 0, nil},
		{"branch 1 2 3;add;sub", []int{7, -1}, []int{7}, 1, 0, nil}, {"branch 1 2 3;add;sub", []int{7, 0}, []int{7}, 2, 0, nil}, {"branch 1 2 3;add;sub", []int{-7, 1}, []int{-7}, 3, 0, nil}, {"branch 3 0 1;add;sub", []int{-9841}, nil, 3, 0, nil}, {"branch 3 0 1;add;sub", []int{0}, nil, 0, 0, nil}, {"branch 3 0 1;add;sub", []int{9841}, nil, 1, 0, nil}, {"branch 1 1 1", full(), full()[1:], 1, 0, nil}, {"branch 0 0 0", nil, nil, 0, impl.RunStack, nil},
		{"halt", []int{7}, []int{7}, 0, impl.RunHalted, nil}, {"halt", nil, nil, 0, impl.RunHalted, nil}, {"halt;halt", full(), full(), 0, impl.RunHalted, nil},
	} {
		m := impl.Machine{Stack: x.before, Cells: cellsWith()}
		want := impl.Machine{Pc: x.place, Stack: x.after, Cells: cellsWith(x.stored...)}
		got, end := impl.StepMachine(codeOf(t, x.text), m)
		if end != x.end || !equalMachines(got, want) {
			t.Errorf("%s for %v: %v, %d", x.text, x.before, got, end)
		}
	}
}

func TestOperationsAtOtherPlaces(t *testing.T) {
	code := codeOf(t, "halt;push 0000000+-;copy;jump 1;halt")
	for _, x := range []struct {
		place, next, end int
		after            []int
	}{
		{0, 0, impl.RunHalted, []int{7}}, {1, 2, 0, []int{7, 2}}, {2, 3, 0, []int{7, 7}}, {3, 1, 0, []int{7}}, {4, 4, impl.RunHalted, []int{7}}, {5, 5, impl.RunEnded, []int{7}},
	} {
		got, end := impl.StepMachine(code, impl.Machine{Pc: x.place, Stack: []int{7}, Cells: cellsWith()})
		if want := (impl.Machine{Pc: x.next, Stack: x.after, Cells: cellsWith()}); end != x.end || !equalMachines(got, want) {
			t.Errorf("the place %d: %v, %d", x.place, got, end)
		}
	}
}

// expected executes an operation by the letter of the chapter, and returns the
// machine after it and why it was not executed.
func expected(code []impl.Op, m impl.Machine) (impl.Machine, int) {
	if m.Pc == len(code) {
		return m, impl.RunEnded
	}
	op, next := code[m.Pc], copyMachine(m)
	next.Pc++
	fine := true
	pop := func() int {
		if len(next.Stack) == 0 {
			fine = false
			return 0
		}
		x := next.Stack[len(next.Stack)-1]
		next.Stack = next.Stack[:len(next.Stack)-1]
		return x
	}
	push := func(n int) { next.Stack = append(next.Stack, n) }
	var x, y int
	address := false
	switch operationNames[op.Code-1] {
	case "push":
		push(op.A)
	case "add":
		y, x = pop(), pop()
		push(wrapped(x+y, 9))
	case "sub":
		y, x = pop(), pop()
		push(wrapped(x-y, 9))
	case "mul":
		y, x = pop(), pop()
		push(wrapped(x*y, 9))
	case "negate":
		push(-pop())
	case "sign":
		push(impl.SignOf(pop()))
	case "copy":
		x = pop()
		push(x)
		push(x)
	case "swap":
		x, y = pop(), pop()
		push(x)
		push(y)
	case "drop":
		pop()
	case "shift":
		w, _ := impl.WordOf(pop(), 9)
		shifted, _ := impl.ShiftWord(w, op.A)
		push(wrapped(impl.ValueOf(shifted), 9))
	case "load":
		x, address = pop(), true
		if x >= -13 && x <= 13 {
			push(next.Cells[x+13])
		}
	case "store":
		x, address = pop(), true
		y = pop()
		if x >= -13 && x <= 13 {
			next.Cells[x+13] = y
		}
	case "jump":
		next.Pc = op.A
	case "branch":
		next.Pc = map[int]int{-1: op.A, 0: op.B, 1: op.C}[impl.SignOf(pop())]
	case "halt":
		return m, impl.RunHalted
	}
	switch {
	case !fine || len(next.Stack) > 20:
		return m, impl.RunStack
	case address && (x < -13 || x > 13):
		return m, impl.RunCell
	}
	return next, 0
}

func TestStepsOfSampleJobs(t *testing.T) {
	seen := map[[2]int]int{}
	check := func(code []impl.Op, m impl.Machine) impl.Machine {
		want, why := expected(code, m)
		got, end := impl.StepMachine(code, m)
		if end != why || !equalMachines(got, want) {
			t.Fatalf("%v from %v: %v, %d, not %v, %d", code, m, got, end, want, why)
		}
		if m.Pc < len(code) {
			seen[[2]int{code[m.Pc].Code, end}]++
		}
		return got
	}
	for _, x := range sampleJobs() {
		m := x.machine
		for range 60 {
			m = check(x.code, m)
		}
		for place := range len(x.code) + 1 {
			m.Pc = place
			check(x.code, m)
		}
	}
	for code := impl.OpPush; code <= impl.OpHalt; code++ {
		if code != impl.OpHalt && seen[[2]int{code, 0}] < 20 || code != impl.OpHalt && code != impl.OpJump && seen[[2]int{code, impl.RunStack}] < 20 {
			t.Errorf("the code %d is executed %d times, and lacks numbers %d times", code, seen[[2]int{code, 0}], seen[[2]int{code, impl.RunStack}])
		}
	}
}

func TestRunsAndTheirFuel(t *testing.T) {
	const counting = "push 00000000+;add;jump 0"
	for _, x := range []struct {
		text       string
		stack      []int
		fuel       int
		place, end int
		after      []int
	}{
		{"halt", nil, 0, 0, impl.RunFuel, nil}, {"halt", nil, 1, 0, impl.RunHalted, nil}, {"halt", nil, 2000, 0, impl.RunHalted, nil}, {"add", nil, 0, 0, impl.RunFuel, nil}, {"add", nil, 1, 0, impl.RunStack, nil}, {"load", []int{14}, 0, 0, impl.RunFuel, []int{14}}, {"load", []int{14}, 1, 0, impl.RunCell, []int{14}},
		{"copy;copy;halt", []int{2}, 1, 1, impl.RunFuel, []int{2, 2}}, {"copy;copy;halt", []int{2}, 2, 2, impl.RunFuel, []int{2, 2, 2}}, {"copy;copy;halt", []int{2}, 3, 2, impl.RunHalted, []int{2, 2, 2}}, {"copy;copy", []int{2}, 2, 2, impl.RunFuel, []int{2, 2, 2}}, {"copy;copy", []int{2}, 3, 2, impl.RunEnded, []int{2, 2, 2}},
		{"copy;add;add", []int{2}, 2, 2, impl.RunFuel, []int{4}}, {"copy;add;add", []int{2}, 3, 2, impl.RunStack, []int{4}}, {"copy;add;add", []int{2}, 2000, 2, impl.RunStack, []int{4}}, {"copy;mul;load", []int{4}, 2, 2, impl.RunFuel, []int{16}}, {"copy;mul;load", []int{4}, 3, 2, impl.RunCell, []int{16}}, {"copy;mul;load", []int{-3}, 3, 3, impl.RunFuel, []int{-9}}, {"copy;mul;load", []int{-3}, 4, 3, impl.RunEnded, []int{-9}},
		{"copy;jump 0", []int{1}, 37, 1, impl.RunFuel, repeated(1, 20)}, {"copy;jump 0", []int{1}, 38, 0, impl.RunFuel, repeated(1, 20)}, {"copy;jump 0", []int{1}, 39, 0, impl.RunStack, repeated(1, 20)}, {"copy;jump 0", []int{1}, 2000, 0, impl.RunStack, repeated(1, 20)},
		{"jump 0", nil, 0, 0, impl.RunFuel, nil}, {"jump 0", nil, 1, 0, impl.RunFuel, nil}, {"jump 0", nil, 2000, 0, impl.RunFuel, nil}, {"jump 1", nil, 1, 1, impl.RunFuel, nil}, {"jump 1", nil, 2, 1, impl.RunEnded, nil},
		{counting, []int{0}, 2000, 2, impl.RunFuel, []int{667}}, {counting, []int{0}, 1999, 1, impl.RunFuel, []int{666, 1}}, {counting, []int{0}, 1998, 0, impl.RunFuel, []int{666}}, {counting, []int{9841}, 2, 2, impl.RunFuel, []int{-9841}}, {counting, nil, 2000, 1, impl.RunStack, []int{1}},
	} {
		m := impl.Machine{Stack: x.stack, Cells: cellsWith()}
		want := impl.Machine{Pc: x.place, Stack: x.after, Cells: cellsWith()}
		if got, end := impl.RunMachine(codeOf(t, x.text), m, x.fuel); end != x.end || !equalMachines(got, want) {
			t.Errorf("%s from %v with the fuel %d: %v, %d", x.text, x.stack, x.fuel, got, end)
		}
	}
}

func TestFuelThatIsNotValid(t *testing.T) {
	for _, fuel := range []int{-1, -2, -2000, 2001, 2002, 1 << 32, 1<<32 + 1, -1 << 32, math.MaxInt, math.MaxInt - 1, math.MinInt, math.MinInt + 1} {
		for _, text := range []string{"halt", "jump 0", "add", "copy;copy"} {
			m := impl.Machine{Stack: []int{1}, Cells: cellsWith()}
			if got, end := impl.RunMachine(codeOf(t, text), m, fuel); end != 0 || !equalMachines(got, impl.Machine{}) {
				t.Errorf("%s with the fuel %d: %v, %d", text, fuel, got, end)
			}
		}
	}
}

// TestARunWithCells sums the addresses from 4 down to 1 in the cell 0.
func TestARunWithCells(t *testing.T) {
	code := codeOf(t, "push 0000000++;copy;push 000000000;load;add;push 000000000;store;push 00000000-;add;copy;branch 11 11 1;halt")
	for _, x := range []struct{ fuel, place, top, sum, end int }{
		{0, 0, 0, 0, impl.RunFuel}, {41, 11, 0, 10, impl.RunFuel}, {42, 11, 0, 10, impl.RunHalted}, {31, 1, 1, 9, impl.RunFuel}, {2000, 11, 0, 10, impl.RunHalted},
	} {
		m, end := impl.RunMachine(code, impl.NewMachine(), x.fuel)
		cells := make([]int, 27)
		cells[13] = x.sum
		if end != x.end || m.Pc != x.place || !slices.Equal(m.Cells, cells) || x.fuel > 0 && !slices.Equal(m.Stack, []int{x.top}) {
			t.Errorf("with the fuel %d: %v, %d", x.fuel, m, end)
		}
	}
}

func TestTextsOfPrograms(t *testing.T) {
	for _, x := range []struct {
		text string
		code []impl.Op
	}{
		{"push 000000000", []impl.Op{{Code: 1}}}, {"push +++++++++", []impl.Op{{Code: 1, A: 9841}}}, {"push ---------", []impl.Op{{Code: 1, A: -9841}}}, {"push 000000+-0;push -0000000+", []impl.Op{{Code: 1, A: 6}, {Code: 1, A: -6560}}},
		{"add;sub;mul;negate;sign;copy;swap;drop", []impl.Op{{Code: 2}, {Code: 3}, {Code: 4}, {Code: 5}, {Code: 6}, {Code: 7}, {Code: 8}, {Code: 9}}},
		{"shift 0;shift 9;shift -9;shift 1;shift -1", []impl.Op{{Code: 10}, {Code: 10, A: 9}, {Code: 10, A: -9}, {Code: 10, A: 1}, {Code: 10, A: -1}}}, {"load;store;halt", []impl.Op{{Code: 11}, {Code: 12}, {Code: 15}}},
		{"jump 0", []impl.Op{{Code: 13}}}, {"jump 1", []impl.Op{{Code: 13, A: 1}}}, {"jump 0;jump 1;jump 2;jump 3;jump 4", []impl.Op{{Code: 13}, {Code: 13, A: 1}, {Code: 13, A: 2}, {Code: 13, A: 3}, {Code: 13, A: 4}}},
		{"branch 0 0 0", []impl.Op{{Code: 14}}}, {"branch 0 1 0", []impl.Op{{Code: 14, B: 1}}}, {"branch 2 1 0;branch 0 2 1", []impl.Op{{Code: 14, A: 2, B: 1}, {Code: 14, B: 2, C: 1}}}, {"halt", []impl.Op{{Code: 15}}},
		{strings.Repeat("add;", 79) + "branch 80 10 79", append(slices.Repeat([]impl.Op{{Code: 2}}, 79), impl.Op{Code: 14, A: 80, B: 10, C: 79})},
	} {
		if got := impl.FormatCode(x.code); got != x.text || !impl.IsCode(x.code) {
			t.Errorf("FormatCode(%v) = %q", x.code, got)
		}
		if got, ok := impl.ParseCode(x.text); !ok || !slices.Equal(got, x.code) {
			t.Errorf("ParseCode(%q) = %v, %v", x.text, got, ok)
		}
	}
}

// checkNoCode expects that there is no program with the text.
func checkNoCode(t *testing.T, text string) {
	t.Helper()
	if code, ok := impl.ParseCode(text); ok || len(code) != 0 {
		t.Errorf("ParseCode(%q) = %v, %v", text, code, ok)
	}
}

func TestTextsThatAreNoPrograms(t *testing.T) {
	for _, text := range []string{
		"", ";", ";;", " ", " ;", "\x00", "\xff", "ad", "adds", "Add", "ADD", "add\n", " add", "add ", "add;", ";add", "add;;add", "add; add", "add ;add", "add,add", "add add", "add;ad", "add;\x00", "noop", "0", "1", "2", "15", "push+++++++++", "haltt", "add\x00", "a\xffd", "halt\xff",
		"add 0", "add 1", "add 0 0 0", "halt 0", "swap  ", "load 0", "copy 000000000", "drop  0", "add  ", "add     ", "negate 0 0", "sign 0 0 0 0",
		"push", "push ", "push  ", "push 0", "push 1", "push 00000000", "push 0000000000", "push +++++++++ ", "push  +++++++++", "push ++++++++", "push ++++++++++", "push 0+++++++++", "push +00000000 0", "push +00000000 0 0", "push 00000000+;", "push 00000000 0", "push 00000000x", "push x00000000", "push 00000000 ", "push \x00\x00\x00\x00\x00\x00\x00\x00\x00", "push 100000000", "push 000000001", "push +0000 000", "push 000000000 +", "push " + strings.Repeat("0", 30), "push " + strings.Repeat("0", 31), "push " + strings.Repeat("+", 30), "push " + strings.Repeat("0", 29) + "+", "push " + strings.Repeat("+", 1000), "push −00000000", "push 0000−0000",
		"shift", "shift ", "shift  ", "shift  1", "shift 1 ", "shift +1", "shift -0", "shift +0", "shift 01", "shift 00", "shift -01", "shift --1", "shift 10", "shift -10", "shift 11", "shift 99", "shift 1 0", "shift 1 0 0", "shift 1 2", "shift 1.0", "shift 1e0", "shift 0x1", "shift 0b1", "shift 0o1", "shift 1_0", "shift _1", "shift a", "shift +", "shift -", "shift 000000000", "shift ٣", "shift 1\n", "shift 4294967297", "shift 18446744073709551617", "shift -18446744073709551615", "shift 9223372036854775807", "shift -9223372036854775808", "shift " + strings.Repeat("9", 1000), "shift " + strings.Repeat("0", 1000), "shift " + strings.Repeat("0", 1000) + "1",
		"jump", "jump ", "jump -1", "jump +1", "jump -0", "jump 00", "jump 01", "jump 2", "jump 3", "jump 80", "jump 81", "jump 1 0 0", "jump 0 0", "jump 1 ", "jump 0;jump 3", "jump 3;jump 0", "jump 4294967296", "jump 18446744073709551616", "jump 9223372036854775808", "jump -9223372036854775808", "jump 000000000", "jump x", "jump 1;", "jump 0x1",
		"branch", "branch 0", "branch 0 0", "branch 0 0 ", "branch 0 0 0 ", "branch  0 0 0", "branch 0  0 0", "branch 0 0  0", "branch 0 0 0 0", "branch 0 0 0 1", "branch 0 0 2", "branch 0 2 0", "branch 2 0 0", "branch -1 0 0", "branch 0 -1 0", "branch 0 0 -1", "branch 0 0 -0", "branch 0 -0 0", "branch -0 0 0", "branch +0 0 0", "branch 0 0 +1", "branch 00 0 0", "branch 0 00 0", "branch 0 0 00", "branch 01 0 0", "branch 0,0,0", "branch 0;0;0", "branch;0 0 0", "branch x 0 0", "branch 0 x 0", "branch 0 0 x", "branch   ", "branch    ", "branch 0 0 0\x00", "branch 4294967296 0 0", "branch 0 18446744073709551616 0", "branch 0 0 18446744073709551617",
		"branch 1 1 2;", "halt;branch 0 0 3", "halt;jump 3", strings.Repeat("add;", 79) + "jump 81", strings.Repeat("add;", 79) + "branch 0 0 81", strings.Repeat("add;", 80) + "add", strings.Repeat("add;", 80), strings.Repeat("add;", 80) + ";", strings.Repeat("add;", 1000) + "add", strings.Repeat(";", 1000), strings.Repeat(" ", 1000), strings.Repeat("jump 0;", 80) + "jump 0",
	} {
		checkNoCode(t, text)
	}
}

var operationText = regexp.MustCompile(`^(?:(?:add|sub|mul|negate|sign|copy|swap|drop|load|store|halt)|push [-0+]{9}|shift (?:0|-?[1-9])|jump (\d+)|branch (\d+) (\d+) (\d+))$`)

// isCodeText tells by the letter of the chapter whether a program has the
// text.
func isCodeText(s string) bool {
	parts := strings.Split(s, ";")
	for _, part := range parts {
		found := operationText.FindStringSubmatch(part)
		if found == nil {
			return false
		}
		for _, digits := range found[1:] {
			if place, _ := strconv.Atoi(digits); digits != "" && (place > len(parts) || strconv.Itoa(place) != digits) {
				return false
			}
		}
	}
	return len(parts) <= 80
}

// TestTextsNextToThoseOfPrograms changes, puts in and leaves out each byte of
// some texts in turn.
func TestTextsNextToThoseOfPrograms(t *testing.T) {
	counts := map[bool]int{}
	check := func(parts ...string) {
		text := strings.Join(parts, "")
		want := isCodeText(text)
		code, ok := impl.ParseCode(text)
		if ok != want || ok && impl.FormatCode(code) != text || !ok && len(code) != 0 {
			t.Fatalf("ParseCode(%q) = %v, %v, not %v", text, code, ok, want)
		}
		counts[want]++
	}
	for _, text := range []string{
		"add", "halt", "push 00000000-", "shift -3", "shift 0", "jump 1", "branch 0 1 0", "add;sub;mul;negate;sign;copy;swap;drop;load;store;halt;jump 10;branch 11 13 0", "push +0-+0-+0-;shift 9;branch 2 3 1", strings.Repeat("load;", 8) + "jump 10;jump 9",
	} {
		for i := range len(text) + 1 {
			for b := range 256 {
				check(text[:i], string([]byte{byte(b)}), text[i:])
				if i < len(text) {
					check(text[:i], string([]byte{byte(b)}), text[i+1:])
				}
			}
			for j := i; j <= len(text); j++ {
				check(text[:i], text[j:])
				check(text[:j], text[i:])
			}
		}
	}
	if counts[true] < 500 || counts[false] < 50000 {
		t.Errorf("%d texts are those of programs, and %d are not", counts[true], counts[false])
	}
}

// noCodeNumbers has numbers that no operation has as A, B or C.
var noCodeNumbers = []int{9842, -9842, 9843, 19683, -19683, 1 << 32, 1<<32 + 1, -1 << 32, math.MaxInt, math.MaxInt - 1, math.MinInt, math.MinInt + 1}

// noPrograms returns programs that are not valid, each for one reason only.
func noPrograms() [][]impl.Op {
	good := []impl.Op{{Code: impl.OpPush, A: -5}, {Code: impl.OpShift, A: 2}, {Code: impl.OpJump, A: 4}, {Code: impl.OpBranch, A: 3, B: 4, C: 2}}
	programs := [][]impl.Op{nil, {}, good[:0], slices.Repeat([]impl.Op{{Code: impl.OpAdd}}, 81), slices.Repeat([]impl.Op{{Code: impl.OpAdd}}, 1000), make([]impl.Op, 81), good[:3]}
	with := func(i int, op impl.Op) {
		code := slices.Clone(good)
		code[i] = op
		programs = append(programs, code, []impl.Op{op})
	}
	for _, bad := range noCodes {
		with(1, impl.Op{Code: bad})
		with(3, impl.Op{Code: bad, A: 1})
	}
	for code := impl.OpPush; code <= impl.OpHalt; code++ {
		for _, n := range append([]int{-1, 1, -2, 2, 9, -9, 10, -10, 4, 5, 81}, noCodeNumbers...) {
			for field, op := range []impl.Op{{Code: code, A: n}, {Code: code, B: n}, {Code: code, C: n}} {
				most := 0
				if code == impl.OpBranch || code == impl.OpJump && field == 0 {
					most = 4
				}
				isPush := code == impl.OpPush && field == 0 && n >= -9841 && n <= 9841
				isShift := code == impl.OpShift && field == 0 && n >= -9 && n <= 9
				if !isPush && !isShift && (n < 0 || n > most) {
					with(0, op)
					with(3, op)
				}
			}
		}
	}
	return programs
}

func TestProgramsThatAreValid(t *testing.T) {
	for _, code := range [][]impl.Op{
		{{Code: impl.OpPush, A: 9841}}, {{Code: impl.OpPush, A: -9841}}, {{Code: impl.OpShift, A: 9}}, {{Code: impl.OpShift, A: -9}}, {{Code: impl.OpJump, A: 1}}, {{Code: impl.OpJump}}, {{Code: impl.OpBranch, A: 1, B: 1, C: 1}}, slices.Repeat([]impl.Op{{Code: impl.OpHalt}}, 80), slices.Repeat([]impl.Op{{Code: impl.OpJump, A: 80}}, 80), slices.Repeat([]impl.Op{{Code: impl.OpBranch, A: 80, B: 80, C: 80}}, 80),
	} {
		if !impl.IsCode(code) || !impl.IsMachine(code, impl.NewMachine()) || impl.FormatCode(code) == "" {
			t.Errorf("%v is not valid", code)
		}
	}
	for code := impl.OpPush; code <= impl.OpHalt; code++ {
		if !impl.IsCode([]impl.Op{{Code: code}}) {
			t.Errorf("the code %d is not valid", code)
		}
	}
}

// checkNoMachine expects that the machine is not valid for the program.
func checkNoMachine(t *testing.T, code []impl.Op, m impl.Machine) {
	t.Helper()
	if impl.IsMachine(code, m) {
		t.Errorf("%v passes as a machine for %v", m, code)
	}
	if got, end := impl.StepMachine(code, m); end != 0 || !equalMachines(got, impl.Machine{}) {
		t.Errorf("%v from %v: %v, %d", code, m, got, end)
	}
	for _, fuel := range []int{0, 1, 2000, -1, 2001} {
		if got, end := impl.RunMachine(code, m, fuel); end != 0 || !equalMachines(got, impl.Machine{}) {
			t.Errorf("%v from %v with the fuel %d: %v, %d", code, m, fuel, got, end)
		}
	}
}

func TestProgramsThatAreNotValid(t *testing.T) {
	for _, bad := range noPrograms() {
		if impl.IsCode(bad) || impl.FormatCode(bad) != "" {
			t.Errorf("%v passes as a program: %q", bad, impl.FormatCode(bad))
		}
		checkNoMachine(t, bad, impl.NewMachine())
		checkNoMachine(t, bad, impl.Machine{})
		checkNoMachine(t, bad, impl.Machine{Pc: len(bad), Stack: []int{1, 1}, Cells: cellsWith()})
	}
}

func TestMachinesThatAreValid(t *testing.T) {
	code := codeOf(t, "add;halt")
	for _, m := range []impl.Machine{
		{Cells: make([]int, 27)}, {Pc: 1, Cells: cellsWith()}, {Pc: 2, Stack: []int{}, Cells: repeated(9841, 27)}, {Stack: full(), Cells: repeated(-9841, 27)}, {Pc: 2, Stack: full(9841, -9841), Cells: make([]int, 27, 50)},
	} {
		if !impl.IsMachine(code, m) {
			t.Errorf("%v is not valid", m)
		}
	}
}

func TestMachinesThatAreNotValid(t *testing.T) {
	code := codeOf(t, "push 000000000;halt")
	for _, place := range []int{-1, -2, -3, 3, 4, 80, 1 << 32, -1 << 32, 1<<32 + 1, math.MaxInt, math.MaxInt - 1, math.MinInt, math.MinInt + 1} {
		checkNoMachine(t, code, impl.Machine{Pc: place, Cells: make([]int, 27)})
	}
	for _, cells := range []int{0, 1, 9, 13, 26, 28, 40, 1000} {
		checkNoMachine(t, code, impl.Machine{Cells: make([]int, cells, cells+50)})
		checkNoMachine(t, code, impl.Machine{Pc: 1, Cells: make([]int, cells)})
	}
	checkNoMachine(t, code, impl.Machine{})
	for _, stack := range []int{21, 22, 40, 1000} {
		checkNoMachine(t, code, impl.Machine{Stack: repeated(0, stack), Cells: make([]int, 27)})
		checkNoMachine(t, code, impl.Machine{Pc: 2, Stack: repeated(1, stack), Cells: make([]int, 27)})
	}
	for _, bad := range noCodeNumbers {
		for i := range 27 {
			cells := cellsWith()
			cells[i] = bad
			checkNoMachine(t, code, impl.Machine{Cells: cells})
			checkNoMachine(t, code, impl.Machine{Pc: 2, Stack: full(), Cells: cells})
		}
		for i := range 20 {
			stack := full()
			stack[i] = bad
			checkNoMachine(t, code, impl.Machine{Stack: stack, Cells: cellsWith()})
			checkNoMachine(t, code, impl.Machine{Pc: 1, Stack: stack[:i+1], Cells: cellsWith()})
		}
	}
}

// partsOf returns the lists of a machine that a function returns.
func partsOf(m impl.Machine, _ int) [][]int { return [][]int{m.Stack, m.Cells} }

// TestMemoryOfMachines takes machines that go on, and such that are returned
// as they are.
func TestMemoryOfMachines(t *testing.T) {
	texts := append([]string{"push +++++++++;store;halt", "copy;jump 0", "drop;drop;drop;drop", "jump 1;halt", "store;store;push 000000000;load;store", "jump 1;load"}, operationNames...)
	for _, text := range texts {
		code, ok := impl.ParseCode(text)
		if !ok {
			code = []impl.Op{{Code: 1 + slices.Index(operationNames, text)}}
		}
		for place := range len(code) + 1 {
			for stack := range 5 {
				// The stack and the cells lie next to each other, so that the one could reach into the other.
				memory := append(append([]int{9, -3, 2, 40, 11}[:stack:stack], cellsWith()...), 7, 7, 7, 7, 7, 7, 7, 7)
				m := func() impl.Machine {
					return impl.Machine{Pc: place, Stack: memory[:stack], Cells: memory[stack : stack+27]}
				}
				name := fmt.Sprint(text, " from ", place, " with ", stack)
				checkMemory(t, "StepMachine: "+name, memory, func() [][]int { return partsOf(impl.StepMachine(code, m())) })
				for _, fuel := range []int{0, 1, 3, 2000, -1} {
					checkMemory(t, "RunMachine: "+name, memory, func() [][]int { return partsOf(impl.RunMachine(code, m(), fuel)) })
				}
				checkMemory(t, "IsMachine: "+name, memory, func() [][]int { impl.IsMachine(code, m()); return nil })
			}
		}
	}
	checkMemory(t, "NewMachine", nil, func() [][]int { return partsOf(impl.NewMachine(), 0) })
}

func TestMemoryOfPrograms(t *testing.T) {
	whole := codeOf(t, "push 00000000+;copy;add;jump 1;push 00000000-;branch 0 1 2")
	before := slices.Clone(whole)
	for k := range len(whole) + 1 {
		code := whole[:k]
		impl.IsCode(code)
		impl.IsMachine(code, impl.NewMachine())
		impl.StepMachine(code, impl.NewMachine())
		impl.RunMachine(code, impl.NewMachine(), 100)
		text := impl.FormatCode(code)
		if !slices.Equal(whole, before) {
			t.Fatalf("%v is changed to %v", before, whole)
		}
		first, ok := impl.ParseCode(text)
		second, fine := impl.ParseCode(text)
		if ok != (k > 0 && impl.IsCode(code)) || fine != ok || shareMemory(first, second) || shareMemory(first, whole) {
			t.Errorf("%q is read as %v, %v and %v, %v", text, first, ok, second, fine)
		}
	}
}
