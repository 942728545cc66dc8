package tests

// The laws of promise P7: circuits give what their gates say; the adder adds, each table can be built, dual circuits give negatives, and what is not used can be left out.

import (
	"slices"
	"testing"

	"loop.example/g03225/impl"
)

// circuitMaker makes circuits whose tables and lines follow no short rule.
type circuitMaker struct{ numberMaker }

func (m *circuitMaker) circuit(inputs int, gates int, outputs int) impl.Circuit {
	c := impl.Circuit{Inputs: inputs}
	for i := range gates {
		g := impl.Gate{A: m.number(3 + inputs + i), B: m.number(3 + inputs + i)}
		for j := range g.Table {
			g.Table[j] = m.number(3) - 1
		}
		c.Gates = append(c.Gates, g)
	}
	for range outputs {
		c.Outputs = append(c.Outputs, m.number(3+inputs+gates))
	}
	return c
}

// sampleCircuits returns circuits with all numbers of inputs, and with the
// least and the greatest numbers of gates and of outputs.
func sampleCircuits() []impl.Circuit {
	var circuits []impl.Circuit
	maker := circuitMaker{numberMaker{1}}
	for inputs := range impl.MaxInputs + 1 {
		for _, gates := range []int{0, 1, 2, 7, 20, impl.MaxGates} {
			for _, outputs := range []int{0, 1, 3, impl.MaxGates} {
				circuits = append(circuits, maker.circuit(inputs, gates, outputs))
			}
		}
	}
	return circuits
}

// inputsFor returns all lists of as many trits if there are at most four, and
// otherwise some.
func inputsFor(inputs int) [][]int {
	if inputs <= 4 {
		return allLists(trits, inputs)
	}
	return slices.DeleteFunc(longWords(), func(w []int) bool { return len(w) != inputs })
}

func negatives(list []int) []int {
	var opposite []int
	for _, n := range list {
		opposite = append(opposite, -n)
	}
	return opposite
}

// equalCircuits takes nil and empty lists as equal.
func equalCircuits(c impl.Circuit, d impl.Circuit) bool {
	return c.Inputs == d.Inputs && slices.Equal(c.Gates, d.Gates) && slices.Equal(c.Outputs, d.Outputs)
}

// outputsOf expects that a circuit can be run.
func outputsOf(t *testing.T, c impl.Circuit, in []int) []int {
	t.Helper()
	out, ok := impl.RunCircuit(c, in)
	if !ok || len(out) != len(c.Outputs) {
		t.Fatalf("RunCircuit(%v, %v) = %v, %v", c, in, out, ok)
	}
	return out
}

func TestCircuitsGiveWhatTheirGatesSay(t *testing.T) {
	for _, c := range sampleCircuits() {
		if !impl.IsCircuit(c) {
			t.Fatalf("%v is not valid", c)
		}
		for _, in := range inputsFor(c.Inputs) {
			lines, ok := impl.LinesOf(c, in)
			first := 3 + c.Inputs
			if !ok || len(lines) != first+len(c.Gates) || !slices.Equal(lines[:first], append([]int{-1, 0, 1}, in...)) {
				t.Fatalf("LinesOf(%v, %v) = %v, %v", c, in, lines, ok)
			}
			for i, g := range c.Gates {
				if lines[first+i] != g.Table[3*(lines[g.A]+1)+lines[g.B]+1] {
					t.Fatalf("the gate %d of %v gives %d for %v", i, c, lines[first+i], in)
				}
			}
			for i, trit := range outputsOf(t, c, in) {
				if trit != lines[c.Outputs[i]] {
					t.Fatalf("the output %d of %v is %d for %v", i, c, trit, in)
				}
			}
		}
	}
}

func TestTheAdderAdds(t *testing.T) {
	for k := 1; k <= 4; k++ {
		c, ok := impl.AdderCircuit(k)
		if !ok || !impl.IsCircuit(c) {
			t.Fatalf("AdderCircuit(%d) = %v, %v", k, c, ok)
		}
		for _, a := range allWords(k) {
			for _, b := range allWords(k) {
				var in []int
				for i := range k {
					in = append(in, a[i], b[i])
				}
				out := outputsOf(t, c, in)
				sum, carry, _ := impl.AddWords(a, b, 0)
				if !slices.Equal(out, append(sum, carry)) || impl.ValueOf(out) != impl.ValueOf(a)+impl.ValueOf(b) {
					t.Fatalf("the adder gives %v for %v and %v", out, a, b)
				}
			}
		}
	}
}

func TestEachTableCanBeBuilt(t *testing.T) {
	for _, table := range allTables() {
		c, ok := impl.BuildCircuit(table)
		if !ok || !impl.IsCircuit(c) || c.Inputs != 2 || len(c.Outputs) != 1 {
			t.Fatalf("BuildCircuit(%v) = %v, %v", table, c, ok)
		}
		gates := 6
		for i, in := range allLists(trits, 2) {
			if out := outputsOf(t, c, []int{in[1], in[0]}); out[0] != table[i] {
				t.Fatalf("the circuit of %v gives %v for %d, %d", table, out, in[1], in[0])
			}
			gates += []int{0, 3, 2}[table[i]+1]
		}
		if len(c.Gates) != gates {
			t.Fatalf("the circuit of %v has %d gates", table, len(c.Gates))
		}
	}
}

func TestDualCircuitsGiveNegatives(t *testing.T) {
	for _, c := range sampleCircuits() {
		dual := impl.DualCircuit(c)
		if !impl.IsCircuit(dual) || dual.Inputs != c.Inputs || len(dual.Gates) != len(c.Gates) || !equalCircuits(impl.DualCircuit(dual), c) {
			t.Fatalf("DualCircuit(%v) = %v", c, dual)
		}
		for _, in := range inputsFor(c.Inputs) {
			if out, opposite := outputsOf(t, c, in), outputsOf(t, dual, negatives(in)); !slices.Equal(opposite, negatives(out)) {
				t.Fatalf("%v gives %v for %v, and its dual %v for the negatives", c, out, in, opposite)
			}
		}
	}
}

func TestDualsOfAddersAndBuiltTables(t *testing.T) {
	for k := 1; k <= 4; k++ {
		if c, _ := impl.AdderCircuit(k); !equalCircuits(impl.DualCircuit(c), c) {
			t.Errorf("the dual of the adder of %d places is %v", k, impl.DualCircuit(c))
		}
	}
	for _, table := range allTables() {
		c, _ := impl.BuildCircuit(table)
		d, _ := impl.BuildCircuit(impl.DualTable(table))
		if !impl.SameCircuits(impl.DualCircuit(c), d) {
			t.Fatalf("the dual of the circuit of %v does not have the dual table", table)
		}
	}
}

// linesKept returns the lines before the gates, and those of the gates from
// which an output of c is reached, in order.
func linesKept(c impl.Circuit) []int {
	first := 3 + c.Inputs
	kept := map[int]bool{}
	for line := range first {
		kept[line] = true
	}
	for todo := slices.Clone(c.Outputs); len(todo) > 0; todo = todo[1:] {
		if line := todo[0]; !kept[line] {
			kept[line] = true
			todo = append(todo, c.Gates[line-first].A, c.Gates[line-first].B)
		}
	}
	var lines []int
	for line := range first + len(c.Gates) {
		if kept[line] {
			lines = append(lines, line)
		}
	}
	return lines
}

// checkTrimmed expects that each line of the trimmed circuit stands for one of
// those that are kept, in order.
func checkTrimmed(t *testing.T, c impl.Circuit, trimmed impl.Circuit) {
	t.Helper()
	kept, first := linesKept(c), 3+c.Inputs
	if !impl.IsCircuit(trimmed) || trimmed.Inputs != c.Inputs || len(trimmed.Gates) != len(kept)-first || len(trimmed.Outputs) != len(c.Outputs) {
		t.Fatalf("TrimCircuit(%v) = %v", c, trimmed)
	}
	for i, g := range trimmed.Gates {
		if old := c.Gates[kept[first+i]-first]; g.Table != old.Table || kept[g.A] != old.A || kept[g.B] != old.B {
			t.Fatalf("TrimCircuit(%v) = %v, with another gate %d", c, trimmed, i)
		}
	}
	for i, line := range trimmed.Outputs {
		if kept[line] != c.Outputs[i] {
			t.Fatalf("TrimCircuit(%v) = %v, with another output %d", c, trimmed, i)
		}
	}
}

func TestWhatIsNotUsedCanBeLeftOut(t *testing.T) {
	fewer := 0
	for _, c := range sampleCircuits() {
		trimmed := impl.TrimCircuit(c)
		checkTrimmed(t, c, trimmed)
		if !equalCircuits(impl.TrimCircuit(trimmed), trimmed) {
			t.Fatalf("%v is trimmed once more", trimmed)
		}
		for _, in := range inputsFor(c.Inputs) {
			if before, after := outputsOf(t, c, in), outputsOf(t, trimmed, in); !slices.Equal(before, after) {
				t.Fatalf("%v gives %v for %v, and without what is not used %v", c, before, in, after)
			}
		}
		if n := len(trimmed.Gates); n > 0 && n < len(c.Gates) {
			fewer++
		}
	}
	if fewer < 20 {
		t.Errorf("only %d circuits lose some of their gates", fewer)
	}
}

// depthIn returns the greatest depth of a line by its definition; known has
// those of lines that were asked for before.
func depthIn(c impl.Circuit, line int, known map[int]int) int {
	first := 3 + c.Inputs
	if line < first {
		return 0
	}
	depth, ok := known[line]
	if !ok {
		g := c.Gates[line-first]
		depth = 1 + max(depthIn(c, g.A, known), depthIn(c, g.B, known))
		known[line] = depth
	}
	return depth
}

func TestDepthsOfCircuits(t *testing.T) {
	for _, c := range sampleCircuits() {
		want, known := 0, map[int]int{}
		for line := range 3 + c.Inputs + len(c.Gates) {
			want = max(want, depthIn(c, line, known))
		}
		if got := impl.DepthOf(c); got != want || impl.DepthOf(impl.DualCircuit(c)) != want || impl.DepthOf(impl.TrimCircuit(c)) > want {
			t.Fatalf("DepthOf(%v) = %d, not %d", c, got, want)
		}
	}
}

func TestCircuitsAreTheSameAsOthersWithEqualOutputs(t *testing.T) {
	for _, c := range sampleCircuits() {
		others := []impl.Circuit{c, impl.TrimCircuit(c), impl.DualCircuit(impl.DualCircuit(c))}
		for _, d := range others {
			if want := c.Inputs <= 6; impl.SameCircuits(c, d) != want || impl.SameCircuits(d, c) != want {
				t.Fatalf("SameCircuits(%v, %v) is not %v", c, d, want)
			}
		}
	}
}

// TestSmallCircuitsAreCompared takes circuits with so few inputs and gates that
// many of them are the same.
func TestSmallCircuitsAreCompared(t *testing.T) {
	maker := circuitMaker{numberMaker{2}}
	counts := map[bool]int{}
	for i := range 6000 {
		inputs := i % 4
		c, d := maker.circuit(inputs, 1+i%3, 1+i%2), maker.circuit(inputs, 1+i%5, 1+i%2)
		want := true
		for _, in := range allLists(trits, inputs) {
			want = want && slices.Equal(outputsOf(t, c, in), outputsOf(t, d, in))
		}
		if impl.SameCircuits(c, d) != want || impl.SameCircuits(d, c) != want {
			t.Fatalf("SameCircuits(%v, %v) is not %v", c, d, want)
		}
		counts[want]++
	}
	if counts[true] < 100 || counts[false] < 100 {
		t.Errorf("%d pairs are the same, and %d are not", counts[true], counts[false])
	}
}

// spotCircuit gives 1 for the one list of inputs, and -1 for all others.
func spotCircuit(in []int) impl.Circuit {
	c := impl.Circuit{Inputs: len(in)}
	line := 2
	for i, trit := range in {
		literal := 3 + len(in) + len(c.Gates)
		c.Gates = append(c.Gates, impl.Gate{Table: impl.LiteralTable(trit), A: 3 + i, B: 1}, impl.Gate{Table: impl.TableOf("min"), A: literal, B: line})
		line = literal + 1
	}
	c.Outputs = []int{line}
	return c
}

func TestCircuitsDifferAtOneInputOnly(t *testing.T) {
	for k := 1; k <= 6; k++ {
		never := impl.Circuit{Inputs: k, Outputs: []int{0}}
		for _, in := range allLists(trits, k) {
			if c := spotCircuit(in); impl.SameCircuits(c, never) || impl.SameCircuits(never, c) || outputsOf(t, c, in)[0] != 1 {
				t.Fatalf("a circuit that gives 1 for %v is the same as one that never does", in)
			}
		}
	}
}
