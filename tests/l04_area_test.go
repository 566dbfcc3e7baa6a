package tests

import (
	"math"
	"slices"
	"testing"

	"loop.example/g03304/impl"
)

// Promise 4: all colors together cover the block.

// whole is a cell of one color, up and down are cells of two triangles.
func whole(a int) impl.Cell       { return impl.Cell{A: a, B: a} }
func up(a int, b int) impl.Cell   { return impl.Cell{Split: 1, A: a, B: b} }
func down(a int, b int) impl.Cell { return impl.Cell{Split: 2, A: a, B: b} }

// blockOf is the block of these cells; their number is a square.
func blockOf(cells ...impl.Cell) impl.Block {
	size := 1
	for size*size < len(cells) {
		size++
	}
	return impl.Block{Size: size, Cells: cells}
}

// trianglesOnly is a block without whole cells, which uses the six colors as far as it has cells for them.
func trianglesOnly(size int) impl.Block {
	b := impl.Block{Size: size}
	for i := range size * size {
		c := impl.Cell{Split: 1 + i%2, A: (2 * i) % 6, B: (2*i + 1) % 6}
		b.Cells = append(b.Cells, c)
	}
	return b
}

// pairBlocks are blocks of 2 times 2 cells, one for each two valid cells, of which many have areas that are equal.
func pairBlocks() []impl.Block {
	var blocks []impl.Block
	for _, c := range validCells() {
		for _, d := range validCells() {
			blocks = append(blocks, blockOf(c, d, d, c), blockOf(d, d, c, d))
		}
	}
	return blocks
}

// areaBlocks are valid blocks of each Size.
func areaBlocks() []impl.Block {
	blocks := append(validBlocks(), pairBlocks()...)
	for _, c := range validCells() {
		blocks = append(blocks, blockOf(c))
	}
	for size := 1; size <= 4; size++ {
		blocks = append(blocks, trianglesOnly(size))
	}
	for _, c := range areaCases() {
		blocks = append(blocks, c.b)
	}
	return append(blocks, impl.StarBlock())
}

// areasByHalves adds up the areas in another way than the program: each cell has two halves, also if it is whole.
func areasByHalves(b impl.Block) [6]int {
	var areas [6]int
	for _, c := range b.Cells {
		areas[c.A] += 2
		areas[c.B] += 2
	}
	return areas
}

type areaCase struct {
	name      string
	b         impl.Block
	areas     [6]int
	main      int
	balanced  bool
	triangles int
}

// areaCases are blocks whose areas are counted by hand.
func areaCases() []areaCase {
	return append(smallAreaCases(), largeAreaCases()...)
}

// smallAreaCases are blocks of one or four cells.
func smallAreaCases() []areaCase {
	return []areaCase{
		{"the zero Cell", blockOf(impl.Cell{}), [6]int{4}, 0, true, 0},
		{"the last color", blockOf(whole(5)), [6]int{5: 4}, 5, true, 0},
		{"two triangles", blockOf(up(5, 0)), [6]int{0: 2, 5: 2}, 0, true, 2},
		{"two other triangles", blockOf(down(4, 3)), [6]int{3: 2, 4: 2}, 3, true, 2},
		{"one color", blockOf(whole(2), whole(2), whole(2), whole(2)), [6]int{2: 16}, 2, true, 0},
		{"zero Cells", blockOf(make([]impl.Cell, 4)...), [6]int{16}, 0, true, 0},
		{"the given example", blockOf(up(0, 1), whole(2), whole(1), whole(1)), [6]int{2, 10, 4}, 1, false, 2},
		{"two colors", blockOf(whole(5), whole(3), whole(3), whole(5)), [6]int{3: 8, 5: 8}, 3, true, 0},
		{"four colors", blockOf(whole(5), whole(4), whole(3), whole(1)), [6]int{1: 4, 3: 4, 4: 4, 5: 4}, 1, true, 0},
		{"triangles of four colors", blockOf(up(5, 4), down(3, 2), up(2, 4), down(5, 3)), [6]int{2: 4, 3: 4, 4: 4, 5: 4}, 2, true, 8},
		{"wholes and triangles that are equal", blockOf(whole(4), up(1, 5), down(5, 1), whole(0)), [6]int{0: 4, 1: 4, 4: 4, 5: 4}, 0, true, 4},
		{"each triangle of another color but one", blockOf(up(1, 0), down(2, 3), up(4, 5), down(0, 5)), [6]int{4, 2, 2, 2, 2, 4}, 0, false, 8},
		{"the greatest area only on the right", blockOf(up(0, 5), down(1, 5), up(2, 5), down(3, 5)), [6]int{2, 2, 2, 2, 0, 8}, 5, false, 8},
		{"the greatest area only on the left", blockOf(up(4, 0), down(4, 1), up(4, 2), down(4, 3)), [6]int{2, 2, 2, 2, 8, 0}, 4, false, 8},
		{"several greatest ones after a smaller one", blockOf(up(0, 1), whole(4), whole(3), up(4, 3)), [6]int{2, 2, 0, 6, 6, 0}, 3, false, 4},
		{"the first one smaller than the second one", blockOf(whole(1), whole(1), whole(1), whole(0)), [6]int{4, 12}, 1, false, 0},
		{"the first one greater than the second one", blockOf(whole(1), whole(0), whole(0), whole(0)), [6]int{12, 4}, 0, false, 0},
		{"more triangles than wholes, but less area", blockOf(up(0, 1), up(0, 2), whole(5), whole(5)), [6]int{4, 2, 2, 0, 0, 8}, 5, false, 4},
	}
}

// largeAreaCases are blocks of 9 or 16 cells.
func largeAreaCases() []areaCase {
	six := []impl.Cell{whole(0), whole(1), whole(2), whole(3), whole(4), whole(5), up(0, 1), down(2, 3), up(4, 5)}
	three := []impl.Cell{whole(5), whole(1), whole(3), whole(5), whole(1), whole(3), whole(5), whole(1), whole(3)}
	// The areas of these two differ, but some of them are a third of the whole.
	first := []impl.Cell{whole(0), whole(0), whole(0), whole(2), whole(2), whole(2), whole(4), whole(4), up(2, 4)}
	last := []impl.Cell{whole(0), whole(0), up(0, 2), whole(2), whole(2), whole(2), whole(4), whole(4), whole(4)}
	large := make([]impl.Cell, 16)
	for i := range large {
		large[i] = whole(2 + i%4)
	}
	off := slices.Clone(large)
	off[15] = up(5, 0)
	return []areaCase{
		{"six colors", blockOf(six...), [6]int{6, 6, 6, 6, 6, 6}, 0, true, 6},
		{"three colors", blockOf(three...), [6]int{1: 12, 3: 12, 5: 12}, 1, true, 0},
		{"the first one a third", blockOf(first...), [6]int{0: 12, 2: 14, 4: 10}, 2, false, 2},
		{"the last one a third", blockOf(last...), [6]int{0: 10, 2: 14, 4: 12}, 2, false, 2},
		{"four colors of sixteen cells", blockOf(large...), [6]int{2: 16, 3: 16, 4: 16, 5: 16}, 2, true, 0},
		{"half a cell of another color", blockOf(off...), [6]int{0: 2, 2: 16, 3: 16, 4: 16, 5: 14}, 2, false, 2},
		{"the star", impl.StarBlock(), [6]int{8, 28}, 1, false, 8},
	}
}

func TestCellArea(t *testing.T) {
	cases := []struct {
		c    impl.Cell
		a    int
		want int
	}{
		{impl.Cell{}, 0, 4},
		{impl.Cell{}, 1, 0},
		{impl.Cell{}, -1, 0},
		{impl.Cell{}, 6, 0},
		{whole(2), 2, 4},
		{whole(2), 1, 0},
		{whole(2), 0, 0},
		{whole(5), 5, 4},
		{whole(5), 6, 0},
		{whole(5), 4, 0},
		{up(0, 5), 0, 2},
		{up(0, 5), 5, 2},
		{up(0, 5), 1, 0},
		{up(0, 5), -1, 0},
		{up(0, 5), 6, 0},
		{down(5, 0), 5, 2},
		{down(5, 0), 0, 2},
		{down(5, 0), 3, 0},
		{down(1, 2), 0, 0},
		{down(1, 2), 1, 2},
		{down(1, 2), 2, 2},
	}
	for _, c := range cases {
		if got := impl.CellArea(c.c, c.a); got != c.want {
			t.Errorf("CellArea(%v, %d) = %d, want %d", c.c, c.a, got, c.want)
		}
	}
}

func TestCellAreaOfAllCells(t *testing.T) {
	for _, c := range validCells() {
		for _, a := range oddInts() {
			want := 0
			if c.A == a {
				want += 2
			}
			if c.B == a {
				want += 2
			}
			if got := impl.CellArea(c, a); got != want {
				t.Errorf("CellArea(%v, %d) = %d, want %d", c, a, got, want)
			}
		}
	}
}

func TestCellAreaIsThatOfItsSides(t *testing.T) {
	// The lines from the corners to the middle cut a cell into four equal parts, one at each side.
	for _, c := range validCells() {
		for a := -1; a <= 6; a++ {
			want := 0
			for _, color := range sidesOf(c) {
				if color == a {
					want++
				}
			}
			if got := impl.CellArea(c, a); got != want {
				t.Errorf("CellArea(%v, %d) = %d, but %d sides have the color", c, a, got, want)
			}
		}
	}
}

func TestCellAreaOfInvalidCells(t *testing.T) {
	for _, c := range append(invalidCells(), badCells()...) {
		for _, a := range []int{-1, 0, 1, 2, 3, 4, 5, 6, c.Split, c.A, c.B} {
			if got := impl.CellArea(c, a); got != 0 {
				t.Errorf("CellArea(%v, %d) = %d, want 0", c, a, got)
			}
		}
	}
}

func TestAreasCountedByHand(t *testing.T) {
	for _, c := range areaCases() {
		for a, want := range c.areas {
			if got := impl.AreaOf(c.b, a); got != want {
				t.Errorf("%s: AreaOf(%v, %d) = %d, want %d", c.name, c.b, a, got, want)
			}
		}
		if got := impl.AreaTable(c.b); !slices.Equal(got, c.areas[:]) {
			t.Errorf("%s: AreaTable(%v) = %v, want %v", c.name, c.b, got, c.areas)
		}
		if got := impl.MainColor(c.b); got != c.main {
			t.Errorf("%s: MainColor(%v) = %d, want %d", c.name, c.b, got, c.main)
		}
		if got := impl.IsBalanced(c.b); got != c.balanced {
			t.Errorf("%s: IsBalanced(%v) = %v, want %v", c.name, c.b, got, c.balanced)
		}
		if got := impl.CountTriangles(c.b); got != c.triangles {
			t.Errorf("%s: CountTriangles(%v) = %d, want %d", c.name, c.b, got, c.triangles)
		}
	}
}

func TestColorsCoverTheBlock(t *testing.T) {
	for _, b := range areaBlocks() {
		sum := 0
		for a := range impl.MaxColors {
			sum += impl.AreaOf(b, a)
		}
		if want := 4 * b.Size * b.Size; sum != want {
			t.Errorf("the colors of %v cover %d, want %d", b, sum, want)
		}
		sum = 0
		for _, area := range impl.AreaTable(b) {
			sum += area
		}
		if want := 4 * b.Size * b.Size; sum != want {
			t.Errorf("the areas of %v in the table are %d, want %d", b, sum, want)
		}
	}
}

func TestAreaOfAllBlocks(t *testing.T) {
	for _, b := range areaBlocks() {
		areas := areasByHalves(b)
		for _, a := range oddInts() {
			want := 0
			if a >= 0 && a < 6 {
				want = areas[a]
			}
			if got := impl.AreaOf(b, a); got != want {
				t.Errorf("AreaOf(%v, %d) = %d, want %d", b, a, got, want)
			}
		}
	}
}

func TestAreaOfIsTheSumOfItsCells(t *testing.T) {
	for _, b := range areaBlocks() {
		for a := -1; a <= 6; a++ {
			want := 0
			for _, c := range b.Cells {
				want += impl.CellArea(c, a)
			}
			if got := impl.AreaOf(b, a); got != want {
				t.Errorf("AreaOf(%v, %d) = %d, but its cells have %d", b, a, got, want)
			}
		}
	}
}

func TestAreaTableOfAllBlocks(t *testing.T) {
	for _, b := range areaBlocks() {
		want := areasByHalves(b)
		if got := impl.AreaTable(b); !slices.Equal(got, want[:]) {
			t.Errorf("AreaTable(%v) = %v, want %v", b, got, want)
		}
	}
}

func TestOnlyUsedColorsHaveAnArea(t *testing.T) {
	for _, b := range areaBlocks() {
		var used []int
		for a, area := range impl.AreaTable(b) {
			if area > 0 {
				used = append(used, a)
			}
		}
		if colors := impl.ColorsOf(b); !slices.Equal(used, colors) {
			t.Errorf("%v has the colors %v, but areas of %v", b, colors, used)
		}
	}
}

func TestMainColorOfAllBlocks(t *testing.T) {
	for _, b := range areaBlocks() {
		areas := areasByHalves(b)
		want := slices.Index(areas[:], slices.Max(areas[:]))
		if got := impl.MainColor(b); got != want {
			t.Errorf("MainColor(%v) = %d, want %d", b, got, want)
		}
	}
}

func TestIsBalancedOfAllBlocks(t *testing.T) {
	for _, b := range areaBlocks() {
		least, most := math.MaxInt, 0
		for _, area := range areasByHalves(b) {
			if area > 0 {
				least, most = min(least, area), max(most, area)
			}
		}
		if got, want := impl.IsBalanced(b), least == most; got != want {
			t.Errorf("IsBalanced(%v) = %v, want %v", b, got, want)
		}
	}
}

func TestOneColorIsTheMainOneAndBalanced(t *testing.T) {
	for size := 1; size <= 4; size++ {
		for a := range 6 {
			b := oneColor(size, a)
			if got := impl.MainColor(b); got != a {
				t.Errorf("MainColor(%v) = %d, want %d", b, got, a)
			}
			if !impl.IsBalanced(b) {
				t.Errorf("IsBalanced(%v) = false", b)
			}
			if got := impl.CountTriangles(b); got != 0 {
				t.Errorf("CountTriangles(%v) = %d, want 0", b, got)
			}
		}
	}
}

func TestCountTrianglesOnly(t *testing.T) {
	for size := 1; size <= 4; size++ {
		b := trianglesOnly(size)
		if got, want := impl.CountTriangles(b), 2*size*size; got != want {
			t.Errorf("CountTriangles(%v) = %d, want %d", b, got, want)
		}
	}
}

func TestCountTrianglesOfAllBlocks(t *testing.T) {
	for _, b := range areaBlocks() {
		want := 0
		for _, c := range b.Cells {
			if c.A != c.B {
				want += 2
			}
		}
		if got := impl.CountTriangles(b); got != want {
			t.Errorf("CountTriangles(%v) = %d, want %d", b, got, want)
		}
	}
}

func TestAreasOfInvalidBlocks(t *testing.T) {
	for _, b := range invalidBlocks() {
		colors := oddInts()
		for _, c := range b.Cells {
			colors = append(colors, c.A, c.B)
		}
		for _, a := range colors {
			if got := impl.AreaOf(b, a); got != 0 {
				t.Errorf("AreaOf(%v, %d) = %d, want 0", b, a, got)
			}
		}
		if got := impl.AreaTable(b); len(got) != 0 {
			t.Errorf("AreaTable(%v) = %v, want nil", b, got)
		}
		if got := impl.MainColor(b); got != -1 {
			t.Errorf("MainColor(%v) = %d, want -1", b, got)
		}
		if impl.IsBalanced(b) {
			t.Errorf("IsBalanced(%v) = true", b)
		}
		if got := impl.CountTriangles(b); got != -1 {
			t.Errorf("CountTriangles(%v) = %d, want -1", b, got)
		}
	}
}

func TestOneBadCellSpoilsTheAreas(t *testing.T) {
	// All other cells have one color, so that the block would be balanced without the bad cell.
	for size := 1; size <= 4; size++ {
		for i := range size * size {
			for _, bad := range badCells() {
				b := oneColor(size, 1)
				b.Cells[i] = bad
				if impl.AreaOf(b, 1) != 0 || len(impl.AreaTable(b)) != 0 || impl.MainColor(b) != -1 || impl.IsBalanced(b) || impl.CountTriangles(b) != -1 {
					t.Errorf("%v is not valid, but has areas", b)
				}
			}
		}
	}
}

func TestAreasAreTheSameEachTime(t *testing.T) {
	// An order that changes from call to call would be seen in one of these.
	for _, c := range areaCases() {
		for range 50 {
			if impl.MainColor(c.b) != c.main || impl.IsBalanced(c.b) != c.balanced || !slices.Equal(impl.AreaTable(c.b), c.areas[:]) {
				t.Fatalf("%s: the areas of %v are different in another call", c.name, c.b)
			}
		}
	}
}

// callAreas calls each function of the chapter that takes a block.
func callAreas(b impl.Block) {
	for _, a := range oddInts() {
		impl.AreaOf(b, a)
	}
	impl.AreaTable(b)
	impl.MainColor(b)
	impl.IsBalanced(b)
	impl.CountTriangles(b)
}

func TestAreaArgumentsStay(t *testing.T) {
	for _, b := range append(areaBlocks(), invalidBlocks()...) {
		wantUntouched(t, b, callAreas)
	}
}

func TestAreaTableIsNew(t *testing.T) {
	for _, b := range areaBlocks() {
		old := copyOf(b)
		want := areasByHalves(b)
		table := impl.AreaTable(b)
		table = table[:cap(table)]
		for i := range table {
			table[i] = 99
		}
		if !equalBlocks(b, old) {
			t.Errorf("the table of %v shares the cells of the block", old)
		}
		if got := impl.AreaTable(b); !slices.Equal(got, want[:]) {
			t.Errorf("AreaTable(%v) = %v after another table was changed", b, got)
		}
	}
}
