package tests

// The laws of promise P8: the machine goes on as if it had not been stopped, stays valid, wraps numbers as words, and its programs are read back from their text.

import (
	"math"
	"slices"
	"testing"

	"loop.example/g03225/impl"
)

// cellLimit is the greatest number that the machine works with.
const cellLimit = 9841

// codeMaker makes programs and machines that follow no short rule.
type codeMaker struct{ numberMaker }

// cell returns a number that is often an address, a trit or a bound.
func (m *codeMaker) cell() int {
	switch m.number(4) {
	case 0:
		return m.number(2*cellLimit+1) - cellLimit
	case 1:
		return m.number(3) - 1
	case 2:
		return (m.number(2)*2 - 1) * (cellLimit - m.number(2))
	}
	return m.number(33) - 16
}

// op returns an operation of a program of k operations. More of them push than
// have any other code.
func (m *codeMaker) op(k int) impl.Op {
	switch code := 1 + m.number(20); code {
	case impl.OpShift:
		return impl.Op{Code: code, A: m.number(19) - 9}
	case impl.OpJump:
		return impl.Op{Code: code, A: m.number(k + 1)}
	case impl.OpBranch:
		return impl.Op{Code: code, A: m.number(k + 1), B: m.number(k + 1), C: m.number(k + 1)}
	case impl.OpPush:
		return impl.Op{Code: code, A: m.cell()}
	default:
		if code > impl.OpHalt {
			return impl.Op{Code: impl.OpPush, A: m.cell()}
		}
		return impl.Op{Code: code}
	}
}

func (m *codeMaker) code(k int) []impl.Op {
	var code []impl.Op
	for range k {
		code = append(code, m.op(k))
	}
	return code
}

// machine returns one for a program of k operations.
func (m *codeMaker) machine(k int, stack int) impl.Machine {
	made := impl.Machine{Pc: m.number(k + 1)}
	for range stack {
		made.Stack = append(made.Stack, m.cell())
	}
	for range impl.MaxCells {
		made.Cells = append(made.Cells, m.cell())
	}
	return made
}

// job is a program and a machine for it.
type job struct {
	code    []impl.Op
	machine impl.Machine
}

// sampleJobs returns jobs with short and long programs, and with all numbers
// of numbers on the stack.
func sampleJobs() []job {
	var jobs []job
	maker := codeMaker{numberMaker{1}}
	for _, k := range []int{1, 2, 3, 5, 8, 13, 30, impl.MaxOps} {
		for stack := range impl.MaxStack + 1 {
			for range 8 {
				jobs = append(jobs, job{maker.code(k), maker.machine(k, stack)})
			}
		}
	}
	return jobs
}

// equalMachines takes nil and empty lists as equal.
func equalMachines(a impl.Machine, b impl.Machine) bool {
	return a.Pc == b.Pc && slices.Equal(a.Stack, b.Stack) && slices.Equal(a.Cells, b.Cells)
}

func copyMachine(m impl.Machine) impl.Machine {
	return impl.Machine{Pc: m.Pc, Stack: slices.Clone(m.Stack), Cells: slices.Clone(m.Cells)}
}

func TestTheMachineGoesOnAsIfItHadNotBeenStopped(t *testing.T) {
	for _, x := range sampleJobs() {
		for _, first := range []int{0, 1, 2, 3, 7, 20} {
			for _, second := range []int{0, 1, 2, 5, 40} {
				part, stopped := impl.RunMachine(x.code, x.machine, first)
				rest, end := impl.RunMachine(x.code, part, second)
				whole, want := impl.RunMachine(x.code, x.machine, first+second)
				if !equalMachines(rest, whole) || second > 0 && end != want || second == 0 && end != impl.RunFuel {
					t.Fatalf("%v from %v: %v, %d after %d and %d operations, but %v, %d", x.code, x.machine, rest, end, first, second, whole, want)
				}
				if stopped != impl.RunFuel && (want != stopped || !equalMachines(part, whole)) {
					t.Fatalf("%v from %v ends with %d, and later with %d", x.code, x.machine, stopped, want)
				}
			}
		}
	}
}

func TestRunsAreStepsUntilTheEnd(t *testing.T) {
	counts := map[int]int{}
	for _, x := range sampleJobs() {
		m, end := x.machine, 0
		for fuel := range 60 {
			if run, why := impl.RunMachine(x.code, x.machine, fuel); !equalMachines(run, m) || why != impl.RunFuel && why != end || why == impl.RunFuel && end != 0 {
				t.Fatalf("%v from %v: %v, %d after %d operations, but %v, %d step by step", x.code, x.machine, run, why, fuel, m, end)
			}
			if end != 0 {
				break
			}
			m, end = impl.StepMachine(x.code, m)
		}
		counts[end]++
	}
	for end := range impl.RunFuel {
		if counts[end] < 20 {
			t.Errorf("only %d runs end with %d", counts[end], end)
		}
	}
}

func TestMachinesStayValid(t *testing.T) {
	for _, x := range sampleJobs() {
		if !impl.IsCode(x.code) || !impl.IsMachine(x.code, x.machine) {
			t.Fatalf("%v is not valid for %v", x.machine, x.code)
		}
		m := x.machine
		for range 60 {
			next, end := impl.StepMachine(x.code, m)
			if !impl.IsMachine(x.code, next) || end != 0 && !equalMachines(next, m) {
				t.Fatalf("%v from %v: %v, %d", x.code, m, next, end)
			}
			m = next
		}
		if last, _ := impl.RunMachine(x.code, x.machine, impl.MaxFuel); !impl.IsMachine(x.code, last) {
			t.Fatalf("%v from %v gets to %v", x.code, x.machine, last)
		}
	}
}

func TestNumbersAreWrappedAsWords(t *testing.T) {
	check := func(n int) {
		w, _ := impl.WordOf(n, impl.MaxWord)
		lowest, ok := impl.SliceWord(w, 0, impl.CellTrits)
		if got := impl.WrapCell(n); !ok || got != impl.ValueOf(lowest) || impl.WrapCell(got) != got {
			t.Fatalf("WrapCell(%d) = %d, not %v", n, got, lowest)
		}
	}
	for n := -5 * cellLimit; n <= 5*cellLimit; n++ {
		check(n)
	}
	for _, w := range longWords() {
		check(impl.ValueOf(w))
	}
	for _, n := range badNumbers {
		for by := range 100 {
			far := n/2 + by - 50
			if got := impl.WrapCell(far); got < -cellLimit || got > cellLimit || (far-got)%19683 != 0 {
				t.Fatalf("WrapCell(%d) = %d", far, got)
			}
		}
	}
	for by := range 50000 {
		for _, n := range []int{math.MaxInt - by, math.MinInt + by} {
			if got := impl.WrapCell(n); got < -cellLimit || got > cellLimit || (n%19683-got)%19683 != 0 {
				t.Fatalf("WrapCell(%d) = %d", n, got)
			}
		}
	}
}

// resultOf runs an operation on the numbers, and expects a number.
func resultOf(t *testing.T, op impl.Op, numbers ...int) int {
	t.Helper()
	m := impl.NewMachine()
	m.Stack = numbers
	after, end := impl.StepMachine([]impl.Op{op}, m)
	if end != 0 || len(after.Stack) != 1 || after.Pc != 1 {
		t.Fatalf("%v of %v: %v, %d", op, numbers, after, end)
	}
	return after.Stack[0]
}

func TestNumbersAreAddedAndMultipliedAsWords(t *testing.T) {
	maker := codeMaker{numberMaker{2}}
	check := func(op impl.Op, w []int, numbers ...int) {
		if got := resultOf(t, op, numbers...); got != impl.ValueOf(w) {
			t.Fatalf("%v of %v is %d, not %v", op, numbers, got, w)
		}
	}
	for range 3000 {
		x, y := maker.cell(), maker.cell()
		a, _ := impl.WordOf(x, impl.CellTrits)
		b, _ := impl.WordOf(y, impl.CellTrits)
		sum, _, _ := impl.AddWords(a, b, 0)
		check(impl.Op{Code: impl.OpAdd}, sum, x, y)
		difference, _, _ := impl.SubWords(a, b)
		check(impl.Op{Code: impl.OpSub}, difference, x, y)
		product, _ := impl.MultiplyWords(a, b)
		check(impl.Op{Code: impl.OpMul}, product[:impl.CellTrits], x, y)
		check(impl.Op{Code: impl.OpNegate}, impl.NegateWord(a), x)
		check(impl.Op{Code: impl.OpSign}, []int{impl.SignWord(a)}, x)
		for by := -9; by <= 9; by++ {
			shifted := make([]int, impl.CellTrits)
			for i := range shifted {
				if from := i - by; from >= 0 && from < len(a) {
					shifted[i] = a[from]
				}
			}
			check(impl.Op{Code: impl.OpShift, A: by}, shifted, x)
		}
	}
}

func TestProgramsAreReadBack(t *testing.T) {
	for _, x := range sampleJobs() {
		text := impl.FormatCode(x.code)
		back, ok := impl.ParseCode(text)
		if !ok || !slices.Equal(back, x.code) || impl.FormatCode(back) != text {
			t.Fatalf("%q is read as %v, %v", text, back, ok)
		}
	}
	for n := -cellLimit; n <= cellLimit; n++ {
		code := []impl.Op{{Code: impl.OpPush, A: n}}
		if back, ok := impl.ParseCode(impl.FormatCode(code)); !ok || !slices.Equal(back, code) {
			t.Fatalf("%q is read as %v, %v", impl.FormatCode(code), back, ok)
		}
	}
}

func TestPlacesAreReadBack(t *testing.T) {
	for k := 1; k <= impl.MaxOps; k++ {
		code := make([]impl.Op, k)
		for i := range code {
			code[i] = impl.Op{Code: impl.OpBranch, A: i, B: k - i, C: k}
		}
		code[0] = impl.Op{Code: impl.OpJump, A: k}
		if back, ok := impl.ParseCode(impl.FormatCode(code)); !ok || !slices.Equal(back, code) {
			t.Fatalf("%q is read as %v, %v", impl.FormatCode(code), back, ok)
		}
	}
}
