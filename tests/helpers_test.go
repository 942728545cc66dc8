package tests

import (
	"math"

	"loop.example/g03225/impl"
)

var trits = []int{-1, 0, 1}

// notTrits has numbers that a careless range check, sum or negation would let through.
var notTrits = []int{-2, 2, 3, -3, 4, -4, 5, 100, 256, -256, 1 << 32, 1<<32 + 1, math.MinInt, math.MinInt + 1, math.MaxInt, math.MaxInt - 1}

var tableNames = []string{"min", "max", "agree", "any", "times", "sum", "carry"}

var twoTritFunctions = map[string]func(a int, b int) int{
	"MinTrits":   impl.MinTrits,
	"MaxTrits":   impl.MaxTrits,
	"AgreeTrits": impl.AgreeTrits,
	"AnyTrits":   impl.AnyTrits,
	"TimesTrits": impl.TimesTrits,
}

// allTables returns each of the 3^9 valid tables once.
func allTables() []impl.Table {
	tables := []impl.Table{{}}
	for i := range (impl.Table{}) {
		var longer []impl.Table
		for _, t := range tables {
			for _, v := range trits {
				t[i] = v
				longer = append(longer, t)
			}
		}
		tables = longer
	}
	return tables
}

// invalidTables returns tables that have one number that is no trit, at each
// index in turn, among trits that are not all 0.
func invalidTables() []impl.Table {
	var tables []impl.Table
	for i := range (impl.Table{}) {
		for _, bad := range notTrits {
			t := impl.Table{-1, -1, 0, -1, 1, 1, 0, 1, 1}
			t[i] = bad
			tables = append(tables, t)
		}
	}
	return tables
}
