package tests

import (
	"math"
	"slices"
	"testing"

	"loop.example/g03304/impl"
)

// Promise 2: a cell has one color on all sides, or two, each on two sides that
// meet.

// oddInts are numbers in the ranges of the chapter, beside them and far from them.
func oddInts() []int {
	return []int{math.MinInt, -1000, -6, -3, -2, -1, 0, 1, 2, 3, 4, 5, 6, 7, 1000, math.MaxInt}
}

// isCell says once more which cells the document allows.
func isCell(c impl.Cell) bool {
	if c.A < 0 || c.A > 5 || c.B < 0 || c.B > 5 {
		return false
	}
	switch c.Split {
	case 0:
		return c.A == c.B
	case 1, 2:
		return c.A != c.B
	}
	return false
}

// validCells are all cells that the document allows.
func validCells() []impl.Cell {
	var cells []impl.Cell
	for split := range 3 {
		for a := range 6 {
			for b := range 6 {
				if (split == 0) == (a == b) {
					cells = append(cells, impl.Cell{Split: split, A: a, B: b})
				}
			}
		}
	}
	return cells
}

// invalidCells are cells of which a field is out of its range, and cells whose colors do not suit Split.
func invalidCells() []impl.Cell {
	var cells []impl.Cell
	for _, split := range oddInts() {
		for _, a := range oddInts() {
			for _, b := range oddInts() {
				if c := (impl.Cell{Split: split, A: a, B: b}); !isCell(c) {
					cells = append(cells, c)
				}
			}
		}
	}
	return cells
}

// sidesOf returns the colors of the left, the upper, the right and the lower side.
func sidesOf(c impl.Cell) []int {
	var sides []int
	for side := range 4 {
		sides = append(sides, impl.ColorAt(c, side))
	}
	return sides
}

func TestCellConstants(t *testing.T) {
	got := []int{impl.MaxColors, impl.SpWhole, impl.SpUp, impl.SpDown}
	want := []int{6, 0, 1, 2}
	if !slices.Equal(got, want) {
		t.Errorf("constants are %v, want %v", got, want)
	}
}

func TestCellOk(t *testing.T) {
	cases := []struct {
		c    impl.Cell
		want bool
	}{
		{impl.Cell{}, true},
		{impl.Cell{Split: 0, A: 3, B: 3}, true},
		{impl.Cell{Split: 0, A: 5, B: 5}, true},
		{impl.Cell{Split: 1, A: 0, B: 5}, true},
		{impl.Cell{Split: 1, A: 5, B: 0}, true},
		{impl.Cell{Split: 2, A: 1, B: 4}, true},
		{impl.Cell{Split: 2, A: 4, B: 1}, true},
		{impl.Cell{Split: 0, A: 1, B: 2}, false},
		{impl.Cell{Split: 0, A: 3, B: 0}, false},
		{impl.Cell{Split: 0, A: 0, B: 3}, false},
		{impl.Cell{Split: 1, A: 0, B: 0}, false},
		{impl.Cell{Split: 1, A: 2, B: 2}, false},
		{impl.Cell{Split: 2, A: 0, B: 0}, false},
		{impl.Cell{Split: 2, A: 5, B: 5}, false},
		{impl.Cell{Split: 0, A: -1, B: -1}, false},
		{impl.Cell{Split: 0, A: 6, B: 6}, false},
		{impl.Cell{Split: 1, A: -1, B: 0}, false},
		{impl.Cell{Split: 1, A: 0, B: -1}, false},
		{impl.Cell{Split: 1, A: 6, B: 0}, false},
		{impl.Cell{Split: 1, A: 0, B: 6}, false},
		{impl.Cell{Split: 2, A: -1, B: 0}, false},
		{impl.Cell{Split: 2, A: 0, B: -1}, false},
		{impl.Cell{Split: 2, A: 6, B: 0}, false},
		{impl.Cell{Split: 2, A: 0, B: 6}, false},
		{impl.Cell{Split: -1, A: 1, B: 1}, false},
		{impl.Cell{Split: -1, A: 1, B: 2}, false},
		{impl.Cell{Split: 3, A: 1, B: 1}, false},
		{impl.Cell{Split: 3, A: 1, B: 2}, false},
	}
	for _, c := range cases {
		if got := impl.CellOk(c.c); got != c.want {
			t.Errorf("CellOk(%v) = %v, want %v", c.c, got, c.want)
		}
	}
}

func TestCellOkForAllCells(t *testing.T) {
	// 6 whole cells, and for each diagonal 6 times 5 pairs of colors.
	if n := len(validCells()); n != 66 {
		t.Fatalf("%d valid cells are tested, want 66", n)
	}
	for _, c := range validCells() {
		if !impl.CellOk(c) {
			t.Errorf("CellOk(%v) = false", c)
		}
	}
	for _, c := range invalidCells() {
		if impl.CellOk(c) {
			t.Errorf("CellOk(%v) = true", c)
		}
	}
}

func TestWholeCell(t *testing.T) {
	for a := range 6 {
		if got, want := impl.WholeCell(a), (impl.Cell{Split: 0, A: a, B: a}); got != want {
			t.Errorf("WholeCell(%d) = %v, want %v", a, got, want)
		}
	}
	for _, a := range []int{-1, 6, -6, 7, math.MinInt, math.MaxInt} {
		if got := impl.WholeCell(a); got != (impl.Cell{}) {
			t.Errorf("WholeCell(%d) = %v, want the zero Cell", a, got)
		}
	}
}

func TestSplitCell(t *testing.T) {
	cases := []struct {
		split, a, b int
		want        impl.Cell
	}{
		{impl.SpUp, 0, 1, impl.Cell{Split: 1, A: 0, B: 1}},
		{impl.SpUp, 5, 0, impl.Cell{Split: 1, A: 5, B: 0}},
		{impl.SpDown, 1, 4, impl.Cell{Split: 2, A: 1, B: 4}},
		{impl.SpDown, 0, 5, impl.Cell{Split: 2, A: 0, B: 5}},
		{impl.SpWhole, 1, 2, impl.Cell{}},
		{impl.SpWhole, 2, 1, impl.Cell{}},
		{-1, 1, 2, impl.Cell{}},
		{3, 1, 2, impl.Cell{}},
		{impl.SpUp, -1, 2, impl.Cell{}},
		{impl.SpUp, 2, -1, impl.Cell{}},
		{impl.SpUp, 6, 2, impl.Cell{}},
		{impl.SpUp, 2, 6, impl.Cell{}},
		{impl.SpDown, -1, 2, impl.Cell{}},
		{impl.SpDown, 2, -1, impl.Cell{}},
		{impl.SpDown, 6, 2, impl.Cell{}},
		{impl.SpDown, 2, 6, impl.Cell{}},
		{impl.SpUp, -1, 6, impl.Cell{}},
		{impl.SpDown, math.MinInt, math.MaxInt, impl.Cell{}},
	}
	for _, c := range cases {
		if got := impl.SplitCell(c.split, c.a, c.b); got != c.want {
			t.Errorf("SplitCell(%d, %d, %d) = %v, want %v", c.split, c.a, c.b, got, c.want)
		}
	}
}

func TestSplitCellOfOneColorIsWhole(t *testing.T) {
	for _, split := range oddInts() {
		for a := range 6 {
			if got, want := impl.SplitCell(split, a, a), (impl.Cell{Split: 0, A: a, B: a}); got != want {
				t.Errorf("SplitCell(%d, %d, %d) = %v, want %v", split, a, a, got, want)
			}
		}
		for _, a := range []int{-1, 6, math.MinInt, math.MaxInt} {
			if got := impl.SplitCell(split, a, a); got != (impl.Cell{}) {
				t.Errorf("SplitCell(%d, %d, %d) = %v, want the zero Cell", split, a, a, got)
			}
		}
	}
}

func TestSplitCellForAllNumbers(t *testing.T) {
	for _, c := range validCells() {
		if got := impl.SplitCell(c.Split, c.A, c.B); got != c {
			t.Errorf("SplitCell(%d, %d, %d) = %v, want the same cell", c.Split, c.A, c.B, got)
		}
	}
	for _, c := range invalidCells() {
		if c.A == c.B {
			continue
		}
		if got := impl.SplitCell(c.Split, c.A, c.B); got != (impl.Cell{}) {
			t.Errorf("SplitCell(%d, %d, %d) = %v, want the zero Cell", c.Split, c.A, c.B, got)
		}
	}
}

func TestColorAt(t *testing.T) {
	cases := []struct {
		c    impl.Cell
		want []int
	}{
		{impl.Cell{}, []int{0, 0, 0, 0}},
		{impl.Cell{Split: 0, A: 3, B: 3}, []int{3, 3, 3, 3}},
		{impl.Cell{Split: 0, A: 5, B: 5}, []int{5, 5, 5, 5}},
		{impl.Cell{Split: 1, A: 1, B: 4}, []int{1, 1, 4, 4}},
		{impl.Cell{Split: 1, A: 5, B: 0}, []int{5, 5, 0, 0}},
		{impl.Cell{Split: 2, A: 1, B: 4}, []int{1, 4, 4, 1}},
		{impl.Cell{Split: 2, A: 0, B: 5}, []int{0, 5, 5, 0}},
	}
	for _, c := range cases {
		if got := sidesOf(c.c); !slices.Equal(got, c.want) {
			t.Errorf("the sides of %v have the colors %v, want %v", c.c, got, c.want)
		}
	}
}

func TestColorAtNoSide(t *testing.T) {
	for _, c := range validCells() {
		for _, side := range oddInts() {
			got := impl.ColorAt(c, side)
			if isSide := side >= 0 && side <= 3; isSide != (got != -1) {
				t.Errorf("ColorAt(%v, %d) = %d", c, side, got)
			}
		}
	}
}

func TestColorAtOfInvalidCells(t *testing.T) {
	for _, c := range invalidCells() {
		for side := -1; side <= 4; side++ {
			if got := impl.ColorAt(c, side); got != -1 {
				t.Errorf("ColorAt(%v, %d) = %d, want -1", c, side, got)
			}
		}
	}
}

func TestColorsMeet(t *testing.T) {
	for _, c := range validCells() {
		sides := sidesOf(c)
		if c.A == c.B {
			if !slices.Equal(sides, []int{c.A, c.A, c.A, c.A}) {
				t.Errorf("%v has one color, but its sides have %v", c, sides)
			}
			continue
		}
		// Opposite sides differ and each side has one of the colors just if each color has two sides that meet.
		for side, color := range sides {
			if color != c.A && color != c.B || color == sides[(side+2)%4] {
				t.Errorf("%v has the colors %v at its sides", c, sides)
			}
		}
	}
}

func TestCellsLookDifferent(t *testing.T) {
	seen := map[[4]int]impl.Cell{}
	for _, c := range validCells() {
		sides := [4]int(sidesOf(c))
		if d, ok := seen[sides]; ok {
			t.Errorf("%v and %v have the same colors at their sides", c, d)
		}
		seen[sides] = c
	}
}

func TestCellText(t *testing.T) {
	cases := []struct {
		c    impl.Cell
		want string
	}{
		{impl.Cell{}, "0"},
		{impl.Cell{Split: 0, A: 3, B: 3}, "3"},
		{impl.Cell{Split: 0, A: 5, B: 5}, "5"},
		{impl.Cell{Split: 1, A: 0, B: 1}, "0/1"},
		{impl.Cell{Split: 1, A: 5, B: 0}, "5/0"},
		{impl.Cell{Split: 2, A: 1, B: 4}, `1\4`},
		{impl.Cell{Split: 2, A: 4, B: 1}, `4\1`},
	}
	for _, c := range cases {
		if got := impl.CellText(c.c); got != c.want {
			t.Errorf("CellText(%v) = %q, want %q", c.c, got, c.want)
		}
	}
}

func TestCellTextOfAllCells(t *testing.T) {
	for _, c := range validCells() {
		a, b := string(rune('0'+c.A)), string(rune('0'+c.B))
		want := []string{a, a + "/" + b, a + "\\" + b}[c.Split]
		if got := impl.CellText(c); got != want {
			t.Errorf("CellText(%v) = %q, want %q", c, got, want)
		}
	}
	for _, c := range invalidCells() {
		if got := impl.CellText(c); got != "" {
			t.Errorf("CellText(%v) = %q, want \"\"", c, got)
		}
	}
}
