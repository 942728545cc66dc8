package tests

// What chapter 7 specifies for all arguments (promise P11): literal results, edge cases, invalid arguments, and memory that is neither shared nor modified.

import (
	"math"
	"slices"
	"strconv"
	"strings"
	"testing"

	"loop.example/g03225/impl"
)

// circuitOf reads gates as in "sum 3 4, +0-+0-+0- 5 3": each has the name or
// the text of its table, A and B.
func circuitOf(inputs int, gates string, outputs ...int) impl.Circuit {
	c := impl.Circuit{Inputs: inputs, Outputs: outputs}
	for _, part := range strings.Split(gates, ", ") {
		if words := strings.Fields(part); len(words) == 3 {
			table, ok := impl.ParseTable(words[0])
			if !ok {
				table = impl.TableOf(words[0])
			}
			a, _ := strconv.Atoi(words[1])
			b, _ := strconv.Atoi(words[2])
			c.Gates = append(c.Gates, impl.Gate{Table: table, A: a, B: b})
		}
	}
	return c
}

func isNoCircuit(c impl.Circuit) bool { return equalCircuits(c, impl.Circuit{}) }

// checkCircuit returns a function that expects the circuit and true.
func checkCircuit(t *testing.T, name string, want impl.Circuit, arguments ...any) func(c impl.Circuit, ok bool) {
	t.Helper()
	return func(c impl.Circuit, ok bool) {
		t.Helper()
		if !ok || !equalCircuits(c, want) {
			t.Errorf("%s of %v: %v, %v, not %v", name, arguments, c, ok, want)
		}
	}
}

// longCircuit returns a circuit in which each gate has the line before it as A
// and as B, and each output is the last line.
func longCircuit(inputs int, gates int, outputs int) impl.Circuit {
	c := impl.Circuit{Inputs: inputs}
	for i := range gates {
		c.Gates = append(c.Gates, impl.Gate{Table: impl.TableOf("max"), A: 2 + inputs + i, B: 2 + inputs + i})
	}
	for range outputs {
		c.Outputs = append(c.Outputs, 2+inputs+gates)
	}
	return c
}

func TestCircuitsThatAreValid(t *testing.T) {
	if impl.MaxGates != 60 || impl.MaxInputs != 8 {
		t.Errorf("MaxGates is %d, and MaxInputs %d", impl.MaxGates, impl.MaxInputs)
	}
	for _, c := range []impl.Circuit{
		{}, {Gates: []impl.Gate{}, Outputs: []int{}}, {Inputs: 8}, {Outputs: []int{0, 1, 2, 2, 0}}, {Inputs: 8, Outputs: []int{10, 0, 10}}, {Gates: []impl.Gate{{}}},
		circuitOf(0, "min 0 2, min 3 3", 4, 3), circuitOf(1, "sum 3 3, sum 3 4, sum 5 0", 6), longCircuit(8, 60, 60), longCircuit(0, 60, 60), longCircuit(0, 0, 60), longCircuit(8, 60, 0),
	} {
		if !impl.IsCircuit(c) {
			t.Errorf("%v is not valid", c)
		}
	}
}

func TestLinesAndOutputs(t *testing.T) {
	for _, x := range []struct {
		c              impl.Circuit
		in, lines, out []int
	}{
		{impl.Circuit{}, nil, []int{-1, 0, 1}, nil},
		{impl.Circuit{}, []int{}, []int{-1, 0, 1}, nil},
		{impl.Circuit{Gates: []impl.Gate{}, Outputs: []int{}}, make([]int, 0, 4), []int{-1, 0, 1}, nil},
		{impl.Circuit{Outputs: []int{2, 0, 1, 2}}, nil, []int{-1, 0, 1}, []int{1, -1, 0, 1}},
		{impl.Circuit{Inputs: 2}, []int{1, -1}, []int{-1, 0, 1, 1, -1}, nil},
		{impl.Circuit{Inputs: 3, Outputs: []int{5, 3, 4, 0}}, []int{1, 0, -1}, []int{-1, 0, 1, 1, 0, -1}, []int{-1, 1, 0, -1}},
		{circuitOf(0, "sum 2 2, carry 2 2, any 3 4", 5, 4), nil, []int{-1, 0, 1, -1, 1, 0}, []int{0, 1}},
		{circuitOf(1, "000+-0-+0 3 2, 000+-0-+0 2 3, 000+-0-+0 3 3", 4, 5, 6), []int{-1}, []int{-1, 0, 1, -1, 0, -1, 0}, []int{0, -1, 0}},
		{circuitOf(1, "000+-0-+0 3 2, 000+-0-+0 2 3, 000+-0-+0 3 3", 4, 5, 6), []int{0}, []int{-1, 0, 1, 0, 0, 1, -1}, []int{0, 1, -1}},
		{circuitOf(2, "times 3 4, min 5 4, max 6 1, agree 7 7", 8, 3, 6), []int{-1, 1}, []int{-1, 0, 1, -1, 1, -1, -1, 0, 0}, []int{0, -1, -1}},
		{longCircuit(8, 60, 2), []int{0, 0, 0, 0, 0, 0, 0, 1}, append(append([]int{-1, 0, 1}, repeated(0, 7)...), repeated(1, 61)...), []int{1, 1}},
	} {
		lines, ok := impl.LinesOf(x.c, x.in)
		out, fine := impl.RunCircuit(x.c, x.in)
		if !ok || !fine || !slices.Equal(lines, x.lines) || !slices.Equal(out, x.out) {
			t.Errorf("%v for %v: %v, %v, %v, %v", x.c, x.in, lines, ok, out, fine)
		}
	}
}

// checkNoRun expects that there are neither lines nor outputs.
func checkNoRun(t *testing.T, c impl.Circuit, in []int) {
	t.Helper()
	lines, ok := impl.LinesOf(c, in)
	checkNone(t, "LinesOf", lines, ok, c, in)
	out, ok := impl.RunCircuit(c, in)
	checkNone(t, "RunCircuit", out, ok, c, in)
}

func TestInputsThatAreNotValid(t *testing.T) {
	for _, c := range sampleCircuits() {
		for k := range 12 {
			// The spare capacity would be enough for as many trits.
			if in := repeated(1, 32)[:k]; k != c.Inputs {
				checkNoRun(t, c, in)
			}
		}
		checkNoRun(t, c, repeated(0, 1000))
		if c.Inputs > 0 {
			checkNoRun(t, c, nil)
		}
		for i := range c.Inputs {
			for _, bad := range notTrits {
				in := repeated(1, c.Inputs)
				in[i] = bad
				checkNoRun(t, c, in)
			}
		}
	}
}

func TestAdders(t *testing.T) {
	checkCircuit(t, "AdderCircuit", circuitOf(2, "sum 3 4, carry 3 4, sum 5 1, carry 5 1, any 6 8", 7, 9), 1)(impl.AdderCircuit(1))
	checkCircuit(t, "AdderCircuit", circuitOf(4, "sum 3 4, carry 3 4, sum 7 1, carry 7 1, any 8 10, sum 5 6, carry 5 6, sum 12 11, carry 12 11, any 13 15", 9, 14, 16), 2)(impl.AdderCircuit(2))
	checkCircuit(t, "AdderCircuit", circuitOf(8, "sum 3 4, carry 3 4, sum 11 1, carry 11 1, any 12 14, sum 5 6, carry 5 6, sum 16 15, carry 16 15, any 17 19, "+
		"sum 7 8, carry 7 8, sum 21 20, carry 21 20, any 22 24, sum 9 10, carry 9 10, sum 26 25, carry 26 25, any 27 29", 13, 18, 23, 28, 30), 4)(impl.AdderCircuit(4))
	for _, k := range []int{0, -1, -2, -4, 5, 6, 8, 12, 60, 1 << 32, 1<<32 + 1, 1 << 62, 1<<62 + 2, math.MaxInt, math.MaxInt - 1, math.MinInt, math.MinInt + 1, math.MinInt + 2} {
		if c, ok := impl.AdderCircuit(k); ok || !isNoCircuit(c) {
			t.Errorf("AdderCircuit(%d) = %v, %v", k, c, ok)
		}
	}
}

func TestLiteralTables(t *testing.T) {
	for _, x := range []struct {
		x    int
		text string
	}{{-1, "+++------"}, {0, "---+++---"}, {1, "------+++"}} {
		if got := impl.FormatTable(impl.LiteralTable(x.x)); got != x.text {
			t.Errorf("LiteralTable(%d) is %q", x.x, got)
		}
	}
	for _, bad := range notTrits {
		if got := impl.LiteralTable(bad); got != (impl.Table{}) {
			t.Errorf("LiteralTable(%d) = %v", bad, got)
		}
	}
}

func TestBuiltCircuits(t *testing.T) {
	literals := "+++------ 3 3, ---+++--- 3 3, ------+++ 3 3, +++------ 4 4, ---+++--- 4 4, ------+++ 4 4"
	for _, x := range []struct {
		text, gates string
		output      int
	}{
		{"---------", "", 0},
		{"--------+", ", min 7 10, max 0 11", 12},
		{"0--------", ", min 5 8, min 11 1, max 0 12", 13},
		{"+0-------", ", min 5 8, max 0 11, min 5 9, min 13 1, max 12 14", 15},
		{"--0---+--", ", min 5 10, min 11 1, max 0 12, min 7 8, max 13 14", 15},
		{"+++++++++", ", min 5 8, max 0 11, min 5 9, max 12 13, min 5 10, max 14 15, min 6 8, max 16 17, min 6 9, max 18 19, min 6 10, max 20 21, min 7 8, max 22 23, min 7 9, max 24 25, min 7 10, max 26 27", 28},
		{"000000000", ", min 5 8, min 11 1, max 0 12, min 5 9, min 14 1, max 13 15, min 5 10, min 17 1, max 16 18, min 6 8, min 20 1, max 19 21, min 6 9, min 23 1, max 22 24, min 6 10, min 26 1, max 25 27, min 7 8, min 29 1, max 28 30, min 7 9, min 32 1, max 31 33, min 7 10, min 35 1, max 34 36", 37},
		{"+0-000-0+", ", min 5 8, max 0 11, min 5 9, min 13 1, max 12 14, min 6 8, min 16 1, max 15 17, min 6 9, min 19 1, max 18 20, min 6 10, min 22 1, max 21 23, min 7 9, min 25 1, max 24 26, min 7 10, max 27 28", 29},
	} {
		table, _ := impl.ParseTable(x.text)
		checkCircuit(t, "BuildCircuit", circuitOf(2, literals+x.gates, x.output), x.text)(impl.BuildCircuit(table))
	}
	for _, bad := range invalidTables() {
		if c, ok := impl.BuildCircuit(bad); ok || !isNoCircuit(c) {
			t.Errorf("BuildCircuit(%v) = %v, %v", bad, c, ok)
		}
	}
}

func TestDualAndTrimmedCircuits(t *testing.T) {
	for _, x := range []struct{ c, dual, trimmed impl.Circuit }{
		{impl.Circuit{}, impl.Circuit{}, impl.Circuit{}},
		{impl.Circuit{Inputs: 8}, impl.Circuit{Inputs: 8}, impl.Circuit{Inputs: 8}},
		{impl.Circuit{Inputs: 1, Outputs: []int{0, 1, 2, 3, 2}}, impl.Circuit{Inputs: 1, Outputs: []int{2, 1, 0, 3, 0}}, impl.Circuit{Inputs: 1, Outputs: []int{0, 1, 2, 3, 2}}},
		{circuitOf(1, "min 3 2, max 3 0", 5), circuitOf(1, "max 3 0, min 3 2", 5), circuitOf(1, "max 3 0", 4)},
		{circuitOf(1, "min 3 2, max 3 0", 4, 4), circuitOf(1, "max 3 0, min 3 2", 4, 4), circuitOf(1, "min 3 2", 4, 4)},
		{circuitOf(1, "min 3 2, max 3 0"), circuitOf(1, "max 3 0, min 3 2"), impl.Circuit{Inputs: 1}},
		{circuitOf(1, "min 3 2, max 3 0", 3, 1), circuitOf(1, "max 3 0, min 3 2", 3, 1), circuitOf(1, "", 3, 1)},
		{circuitOf(0, "sum 0 1, times 2 3, carry 1 1", 2, 4, 0), circuitOf(0, "sum 2 1, -0+000+0- 0 3, carry 1 1", 0, 4, 2), circuitOf(0, "sum 0 1, times 2 3", 2, 4, 0)},
		{circuitOf(2, "++++++++0 0 0, +00-0--++ 3 4, agree 4 3, min 6 2, max 1 5", 8, 6), circuitOf(2, "0-------- 2 2, --++0+00- 3 4, agree 4 3, max 6 0, min 1 5", 8, 6), circuitOf(2, "+00-0--++ 3 4, min 5 2", 6, 5)},
		{circuitOf(1, "sum 3 3, sum 4 4, sum 5 3, sum 4 3, sum 7 7, sum 6 6", 8), circuitOf(1, "sum 3 3, sum 4 4, sum 5 3, sum 4 3, sum 7 7, sum 6 6", 8), circuitOf(1, "sum 3 3, sum 4 3, sum 5 5", 6)},
		{circuitOf(1, "any 3 3, any 0 4, any 5 2, any 0 0, any 6 4", 8), circuitOf(1, "any 3 3, any 2 4, any 5 0, any 2 2, any 6 4", 8), circuitOf(1, "any 3 3, any 0 4, any 5 2, any 6 4", 7)},
		{circuitOf(0, "+++++++++ 1 1, 000000000 3 0, min 1 4, +++++++++ 1 2, 000000000 2 1, min 0 2", 7), circuitOf(0, "--------- 1 1, 000000000 3 2, max 1 4, --------- 1 0, 000000000 0 1, max 2 0", 7), circuitOf(0, "000000000 2 1", 3)},
		{longCircuit(3, 60, 60), dualLong(3, 60, 60), longCircuit(3, 60, 60)},
		{longCircuit(0, 60, 60), dualLong(0, 60, 60), longCircuit(0, 60, 60)},
	} {
		if got := impl.DualCircuit(x.c); !equalCircuits(got, x.dual) {
			t.Errorf("DualCircuit(%v) = %v", x.c, got)
		}
		if got := impl.TrimCircuit(x.c); !equalCircuits(got, x.trimmed) {
			t.Errorf("TrimCircuit(%v) = %v", x.c, got)
		}
	}
}

// dualLong returns the dual of longCircuit, which uses line 2 only if there
// are no inputs.
func dualLong(inputs int, gates int, outputs int) impl.Circuit {
	c := longCircuit(inputs, gates, outputs)
	for i := range c.Gates {
		c.Gates[i].Table = impl.TableOf("min")
	}
	if inputs == 0 {
		c.Gates[0].A, c.Gates[0].B = 0, 0
	}
	return c
}

func TestDepths(t *testing.T) {
	for _, x := range []struct {
		c     impl.Circuit
		depth int
	}{
		{impl.Circuit{}, 0}, {impl.Circuit{Inputs: 8, Outputs: []int{10, 2}}, 0}, {circuitOf(0, "min 0 0"), 1}, {circuitOf(1, "min 3 2, max 3 0", 5), 1}, {circuitOf(1, "min 3 2, max 4 0", 4), 2}, {circuitOf(1, "min 3 2, max 0 4"), 2},
		{circuitOf(2, "sum 3 4, sum 5 4, sum 3 3, sum 7 6, sum 8 7, sum 1 1", 3), 4}, {circuitOf(2, "sum 3 4, sum 5 4, sum 3 3, sum 6 7, sum 7 8, sum 1 1", 3), 4}, {longCircuit(8, 60, 1), 60}, {longCircuit(0, 60, 0), 60},
	} {
		if got := impl.DepthOf(x.c); got != x.depth {
			t.Errorf("DepthOf(%v) = %d", x.c, got)
		}
	}
	for k, want := range []int{0, 3, 5, 7, 9} {
		if c, _ := impl.AdderCircuit(k); impl.DepthOf(c) != want {
			t.Errorf("the adder of %d places has the depth %d", k, impl.DepthOf(c))
		}
	}
}

func TestComparedCircuits(t *testing.T) {
	two := impl.Circuit{Inputs: 1, Outputs: []int{3, 0}}
	for _, x := range []struct {
		c, d impl.Circuit
		want bool
	}{
		{impl.Circuit{}, impl.Circuit{}, true}, {impl.Circuit{}, impl.Circuit{Gates: []impl.Gate{}, Outputs: []int{}}, true}, {impl.Circuit{}, circuitOf(0, "min 0 0"), true}, {impl.Circuit{}, impl.Circuit{Inputs: 1}, false}, {impl.Circuit{Inputs: 5}, impl.Circuit{Inputs: 6}, false},
		{impl.Circuit{Inputs: 6}, impl.Circuit{Inputs: 6}, true}, {impl.Circuit{Inputs: 7}, impl.Circuit{Inputs: 7}, false}, {impl.Circuit{Inputs: 8}, impl.Circuit{Inputs: 8}, false}, {longCircuit(6, 60, 60), longCircuit(6, 59, 60), true}, {longCircuit(7, 60, 60), longCircuit(7, 60, 60), false}, {longCircuit(8, 1, 1), longCircuit(8, 1, 1), false},
		{impl.Circuit{Outputs: []int{0}}, impl.Circuit{Outputs: []int{0}}, true}, {impl.Circuit{Outputs: []int{0}}, impl.Circuit{Outputs: []int{1}}, false}, {impl.Circuit{Outputs: []int{0}}, impl.Circuit{}, false}, {impl.Circuit{Outputs: []int{0}}, impl.Circuit{Outputs: []int{0, 0}}, false}, {impl.Circuit{Outputs: []int{0, 2}}, circuitOf(0, "sum 2 2", 3, 2), true},
		{two, two, true}, {two, impl.Circuit{Inputs: 1, Outputs: []int{0, 3}}, false}, {two, impl.Circuit{Inputs: 1, Outputs: []int{3}}, false}, {two, impl.Circuit{Inputs: 1, Outputs: []int{3, 0, 0}}, false}, {two, impl.Circuit{Inputs: 2, Outputs: []int{3, 0}}, false}, {two, circuitOf(1, "agree 3 3", 4, 0), true}, {two, circuitOf(1, "agree 3 3", 4, 1), false},
		{circuitOf(2, "min 3 4", 5), circuitOf(2, "min 4 3", 5), true}, {circuitOf(2, "min 3 4", 5), circuitOf(2, "max 4 3", 5), false}, {impl.Circuit{Inputs: 2, Outputs: []int{3}}, impl.Circuit{Inputs: 2, Outputs: []int{4}}, false}, {circuitOf(2, "agree 3 4", 5), circuitOf(2, "carry 3 4", 5), true}, {circuitOf(2, "sum 3 4", 5), circuitOf(2, "any 3 4", 5), false},
	} {
		if impl.SameCircuits(x.c, x.d) != x.want || impl.SameCircuits(x.d, x.c) != x.want {
			t.Errorf("SameCircuits(%v, %v) is not %v", x.c, x.d, x.want)
		}
	}
}

// changed returns a copy of a circuit after a change.
func changed(c impl.Circuit, change func(c *impl.Circuit)) impl.Circuit {
	c.Gates, c.Outputs = slices.Clone(c.Gates), slices.Clone(c.Outputs)
	change(&c)
	return c
}

// noLines has numbers that no line has in a circuit.
var noLines = []int{-1, -2, -3, -60, 100, 256, -256, 1 << 32, 1<<32 + 3, -1 << 32, math.MaxInt, math.MaxInt - 1, math.MaxInt - 3, math.MinInt, math.MinInt + 1, math.MinInt + 3}

// noCircuits returns circuits that are not valid, each for one reason only.
func noCircuits() []impl.Circuit {
	good := circuitOf(2, "sum 3 4, times 5 5, min 0 6, max 7 4", 8, 5, 1)
	var circuits []impl.Circuit
	add := func(change func(c *impl.Circuit)) { circuits = append(circuits, changed(good, change)) }
	for _, inputs := range []int{-1, -2, -3, 9, 10, 100, 1 << 32, 1<<32 + 2, -1 << 32, math.MaxInt, math.MaxInt - 2, math.MaxInt - 3, math.MaxInt - 6, math.MinInt, math.MinInt + 1, math.MinInt + 2} {
		circuits = append(circuits, impl.Circuit{Inputs: inputs}, impl.Circuit{Inputs: inputs, Outputs: []int{0}}, circuitOf(inputs, "min 0 1", 2), circuitOf(inputs, "min 0 1"))
		add(func(c *impl.Circuit) { c.Inputs = inputs })
	}
	circuits = append(circuits, longCircuit(2, 61, 1), longCircuit(0, 61, 0), longCircuit(2, 1000, 1), longCircuit(0, 0, 61), longCircuit(2, 60, 61), longCircuit(2, 1, 1000))
	for i := range good.Gates {
		for _, bad := range invalidTables() {
			add(func(c *impl.Circuit) { c.Gates[i].Table = bad })
		}
		for _, line := range append([]int{5 + i, 6 + i, 7 + i, 8, 9}, noLines...) {
			if line >= 5+i || line < 0 {
				add(func(c *impl.Circuit) { c.Gates[i].A = line })
				add(func(c *impl.Circuit) { c.Gates[i].B = line })
			}
		}
	}
	for i := range good.Outputs {
		for _, line := range append([]int{9, 10, 60}, noLines...) {
			add(func(c *impl.Circuit) { c.Outputs[i] = line })
		}
	}
	// The gate that is missing lies in the spare capacity.
	add(func(c *impl.Circuit) { c.Gates = c.Gates[:3] })
	add(func(c *impl.Circuit) { c.Inputs = 1 })
	circuits = append(circuits, circuitOf(0, "min 0 3"), circuitOf(0, "min 3 0"), circuitOf(0, "", 3), circuitOf(8, "min 10 11", 3), circuitOf(8, "", 11))
	return circuits
}

func TestCircuitsThatAreNotValid(t *testing.T) {
	for _, bad := range noCircuits() {
		if impl.IsCircuit(bad) || impl.DepthOf(bad) != 0 || !isNoCircuit(impl.DualCircuit(bad)) || !isNoCircuit(impl.TrimCircuit(bad)) {
			t.Errorf("%v passes as a circuit: %d, %v, %v", bad, impl.DepthOf(bad), impl.DualCircuit(bad), impl.TrimCircuit(bad))
		}
		for _, k := range []int{0, 1, 2, 8, 9, 10} {
			checkNoRun(t, bad, repeated(1, k))
		}
		like := impl.Circuit{Inputs: bad.Inputs, Outputs: make([]int, len(bad.Outputs))}
		for _, other := range []impl.Circuit{bad, like, {}, circuitOf(2, "", 0, 0, 0)} {
			if impl.SameCircuits(bad, other) || impl.SameCircuits(other, bad) {
				t.Errorf("%v is the same as %v", bad, other)
			}
		}
	}
}

// shareMemory looks at the spare capacity too.
func shareMemory[T any](a []T, b []T) bool {
	a, b = a[:cap(a)], b[:cap(b)]
	for i := range a {
		for j := range b {
			if &a[i] == &b[j] {
				return true
			}
		}
	}
	return false
}

// circuitFunctions has each function of the chapter that returns circuits, for
// valid results and for others.
var circuitFunctions = map[string]func(c impl.Circuit) impl.Circuit{
	"AdderCircuit":        func(c impl.Circuit) impl.Circuit { d, _ := impl.AdderCircuit(2); return d },
	"AdderCircuit, false": func(c impl.Circuit) impl.Circuit { d, _ := impl.AdderCircuit(5); return d },
	"BuildCircuit":        func(c impl.Circuit) impl.Circuit { d, _ := impl.BuildCircuit(impl.TableOf("any")); return d },
	"BuildCircuit, none":  func(c impl.Circuit) impl.Circuit { d, _ := impl.BuildCircuit(impl.Table(repeated(-1, 9))); return d },
	"BuildCircuit, false": func(c impl.Circuit) impl.Circuit { d, _ := impl.BuildCircuit(impl.Table(repeated(2, 9))); return d },
	"DualCircuit":         impl.DualCircuit,
	"TrimCircuit":         impl.TrimCircuit,
	"IsCircuit":           func(c impl.Circuit) impl.Circuit { impl.IsCircuit(c); return impl.Circuit{} },
	"LinesOf":             func(c impl.Circuit) impl.Circuit { impl.LinesOf(c, repeated(1, 2)); return impl.Circuit{} },
	"RunCircuit":          func(c impl.Circuit) impl.Circuit { impl.RunCircuit(c, repeated(0, 2)); return impl.Circuit{} },
	"DepthOf":             func(c impl.Circuit) impl.Circuit { impl.DepthOf(c); return impl.Circuit{} },
	"SameCircuits":        func(c impl.Circuit) impl.Circuit { impl.SameCircuits(c, c); return impl.Circuit{} },
}

// TestMemoryOfCircuits takes circuits that use all of their gates, some, none,
// and one that is not valid, all with more gates and outputs behind them.
func TestMemoryOfCircuits(t *testing.T) {
	whole := circuitOf(2, "sum 3 4, times 0 5, min 6 2, max 7 0, any 0 2, any 2 0", 8, 2, 6, 0, 1, 2)
	for _, outputs := range [][]int{whole.Outputs[:3], whole.Outputs[2:4], whole.Outputs[3:5], whole.Outputs[:0]} {
		for gates := range 5 {
			c := impl.Circuit{Inputs: 2, Gates: whole.Gates[:gates], Outputs: outputs}
			for name, call := range circuitFunctions {
				before := changed(whole, func(c *impl.Circuit) {})
				first, second := call(c), call(c)
				if !equalCircuits(whole, before) {
					t.Fatalf("%s changes %v", name, c)
				}
				if !equalCircuits(first, second) || shareMemory(first.Gates, second.Gates) || shareMemory(first.Outputs, second.Outputs) {
					t.Errorf("results of %s of %v: %v, %v", name, c, first, second)
				}
				if shareMemory(first.Gates, whole.Gates) || shareMemory(first.Outputs, whole.Outputs) {
					t.Errorf("the result of %s shares memory with %v", name, c)
				}
			}
		}
	}
}

func TestMemoryOfLinesAndOutputs(t *testing.T) {
	for _, gates := range []string{"", "sum 3 4", "sum 3 4, min 5 0, max 0 6"} {
		for _, name := range []string{"LinesOf", "RunCircuit", "DualCircuit", "TrimCircuit"} {
			memory := []int{1, -1, 4, 2, 0, 7, 7, 7, 7, 7, 7, 7, 7, 7, 7, 7}
			checkMemory(t, name, memory, func() [][]int {
				in, c := memory[:2], circuitOf(2, gates, memory[2:5]...)
				var list []int
				switch name {
				case "LinesOf":
					list, _ = impl.LinesOf(c, in)
				case "RunCircuit":
					list, _ = impl.RunCircuit(c, in)
				case "DualCircuit":
					list = impl.DualCircuit(c).Outputs
				case "TrimCircuit":
					list = impl.TrimCircuit(c).Outputs
				}
				return [][]int{list}
			})
		}
	}
}
