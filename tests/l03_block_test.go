package tests

import (
	"math"
	"slices"
	"testing"

	"loop.example/g03304/impl"
)

// Promise 3: a cell of a block can be replaced and put back.

// mixedBlock is a valid block; its cells all differ, and another start gives other cells.
func mixedBlock(size int, start int) impl.Block {
	valid := validCells()
	b := impl.Block{Size: size}
	for i := range size * size {
		// 7 and the number of valid cells have no common factor, so that no cell returns too early.
		b.Cells = append(b.Cells, valid[(start+7*i)%len(valid)])
	}
	return b
}

// validBlocks are blocks of each Size, of different cells and of one color.
func validBlocks() []impl.Block {
	var blocks []impl.Block
	for size := 1; size <= 4; size++ {
		for start := range 66 {
			blocks = append(blocks, mixedBlock(size, start))
		}
		for a := range 6 {
			blocks = append(blocks, oneColor(size, a))
		}
	}
	return blocks
}

// oneColor is the block of size times size whole cells, also where there is no such color or size.
func oneColor(size int, a int) impl.Block {
	b := impl.Block{Size: size}
	for range size * size {
		b.Cells = append(b.Cells, impl.Cell{A: a, B: a})
	}
	return b
}

// badCells are cells that are not valid, one for each way to break the rules.
func badCells() []impl.Cell {
	return []impl.Cell{
		{Split: 0, A: -1, B: -1}, {Split: 0, A: 6, B: 6}, {Split: 0, A: 0, B: 1},
		{Split: 1, A: 2, B: 2}, {Split: 2, A: 3, B: 3}, {Split: 1, A: -1, B: 0},
		{Split: 1, A: 0, B: 6}, {Split: 2, A: 6, B: 0}, {Split: 2, A: 0, B: -1},
		{Split: -1, A: 1, B: 1}, {Split: 3, A: 1, B: 2},
		{Split: math.MaxInt, A: math.MinInt, B: math.MaxInt},
	}
}

// invalidBlocks are blocks with a wrong Size, a wrong number of cells or a cell that is not valid.
func invalidBlocks() []impl.Block {
	blocks := []impl.Block{
		{}, {Cells: []impl.Cell{}}, {Cells: make([]impl.Cell, 1)},
		{Size: -1, Cells: make([]impl.Cell, 1)}, {Size: -2, Cells: make([]impl.Cell, 4)},
		{Size: -4, Cells: make([]impl.Cell, 16)}, {Size: 5, Cells: make([]impl.Cell, 25)},
		{Size: 6, Cells: make([]impl.Cell, 36)}, {Size: 5, Cells: make([]impl.Cell, 16)},
		// The squares of these numbers are 0 as an int.
		{Size: 1 << 32}, {Size: math.MinInt}, {Size: -1 << 32},
		// And this one is 1.
		{Size: math.MaxInt, Cells: make([]impl.Cell, 1)},
	}
	for size := 1; size <= 4; size++ {
		full := mixedBlock(size, 5)
		blocks = append(blocks,
			impl.Block{Size: size},
			impl.Block{Size: size, Cells: full.Cells[1:]},
			impl.Block{Size: size, Cells: append(slices.Clone(full.Cells), impl.Cell{})},
			impl.Block{Size: size + 1, Cells: full.Cells},
			impl.Block{Size: size - 1, Cells: full.Cells},
			impl.Block{Size: -size, Cells: full.Cells})
		for i := range full.Cells {
			for _, bad := range badCells() {
				b := mixedBlock(size, 5)
				b.Cells[i] = bad
				blocks = append(blocks, b)
			}
		}
	}
	return blocks
}

// placesBeside are places where a block of this Size has no cell.
func placesBeside(size int) [][2]int {
	last := size - 1
	return [][2]int{
		{-1, 0}, {0, -1}, {-1, -1}, {size, 0}, {0, size}, {size, size},
		{-1, last}, {last, -1}, {size, last}, {last, size}, {-1, size}, {size, -1},
		// An index that is counted from these would be one of the block's.
		{-1, 1}, {-size, 1}, {size * size, -1},
		{math.MinInt, 0}, {0, math.MinInt}, {math.MaxInt, 0}, {0, math.MaxInt},
		{math.MaxInt, math.MaxInt}, {math.MinInt, math.MinInt}, {0, 1 << 62}, {-1 << 62, 1 << 62},
	}
}

// copyOf returns a block with cells of its own.
func copyOf(b impl.Block) impl.Block {
	return impl.Block{Size: b.Size, Cells: append([]impl.Cell(nil), b.Cells...)}
}

// equalBlocks compares without the functions that are tested.
func equalBlocks(b impl.Block, d impl.Block) bool {
	return b.Size == d.Size && slices.Equal(b.Cells, d.Cells)
}

func TestMaxSide(t *testing.T) {
	if impl.MaxSide != 4 {
		t.Errorf("MaxSide is %d, want 4", impl.MaxSide)
	}
}

func TestBlockOk(t *testing.T) {
	for _, b := range validBlocks() {
		if !impl.BlockOk(b) {
			t.Errorf("BlockOk(%v) = false", b)
		}
	}
	for _, b := range invalidBlocks() {
		if impl.BlockOk(b) {
			t.Errorf("BlockOk(%v) = true", b)
		}
	}
}

func TestBlockOkTakesEachValidCell(t *testing.T) {
	for _, c := range validCells() {
		for i := range 4 {
			b := oneColor(2, 3)
			b.Cells[i] = c
			if !impl.BlockOk(b) {
				t.Errorf("BlockOk(%v) = false", b)
			}
		}
	}
}

func TestCellAtRowByRow(t *testing.T) {
	b := impl.Block{Size: 2, Cells: []impl.Cell{{Split: 1, A: 0, B: 5}, {A: 2, B: 2}, {A: 3, B: 3}, {Split: 2, A: 4, B: 1}}}
	cases := []struct {
		x, y int
		want impl.Cell
	}{
		{0, 0, impl.Cell{Split: 1, A: 0, B: 5}},
		{1, 0, impl.Cell{A: 2, B: 2}},
		{0, 1, impl.Cell{A: 3, B: 3}},
		{1, 1, impl.Cell{Split: 2, A: 4, B: 1}},
		{2, 0, impl.Cell{}},
		{0, 2, impl.Cell{}},
		{-1, 1, impl.Cell{}},
		{1, -1, impl.Cell{}},
	}
	for _, c := range cases {
		if got := impl.CellAt(b, c.x, c.y); got != c.want {
			t.Errorf("CellAt(%v, %d, %d) = %v, want %v", b, c.x, c.y, got, c.want)
		}
	}
}

func TestCellAtOfAllBlocks(t *testing.T) {
	for _, b := range validBlocks() {
		i := 0
		for y := range b.Size {
			for x := range b.Size {
				if got := impl.CellAt(b, x, y); got != b.Cells[i] {
					t.Errorf("CellAt(%v, %d, %d) = %v, want %v", b, x, y, got, b.Cells[i])
				}
				i++
			}
		}
	}
}

func TestCellAtBesideTheBlock(t *testing.T) {
	for size := 1; size <= 4; size++ {
		// No cell of this block is the zero Cell.
		b := oneColor(size, 5)
		for _, p := range placesBeside(size) {
			if got := impl.CellAt(b, p[0], p[1]); got != (impl.Cell{}) {
				t.Errorf("CellAt(%v, %d, %d) = %v, want the zero Cell", b, p[0], p[1], got)
			}
		}
	}
}

func TestCellAtOfInvalidBlocks(t *testing.T) {
	for _, b := range invalidBlocks() {
		for y := -1; y <= 5; y++ {
			for x := -1; x <= 5; x++ {
				if got := impl.CellAt(b, x, y); got != (impl.Cell{}) {
					t.Errorf("CellAt(%v, %d, %d) = %v, want the zero Cell", b, x, y, got)
				}
			}
		}
	}
}

func TestWithCell(t *testing.T) {
	for _, b := range validBlocks() {
		for i := range b.Cells {
			for _, c := range []impl.Cell{{}, {A: 5, B: 5}, {Split: 1, A: 0, B: 5}, {Split: 2, A: 5, B: 0}, b.Cells[i]} {
				want := copyOf(b)
				want.Cells[i] = c
				got, ok := impl.WithCell(b, i%b.Size, i/b.Size, c)
				if !ok || !equalBlocks(got, want) {
					t.Errorf("WithCell(%v, %d, %d, %v) = %v, %v", b, i%b.Size, i/b.Size, c, got, ok)
				}
			}
		}
	}
}

func TestWithCellTakesEachValidCell(t *testing.T) {
	b := mixedBlock(3, 0)
	for _, c := range validCells() {
		got, ok := impl.WithCell(b, 2, 1, c)
		if !ok || impl.CellAt(got, 2, 1) != c {
			t.Errorf("WithCell(%v, 2, 1, %v) = %v, %v", b, c, got, ok)
		}
	}
}

func TestCellIsReplacedAndPutBack(t *testing.T) {
	for _, b := range validBlocks() {
		for y := range b.Size {
			for x := range b.Size {
				old := impl.CellAt(b, x, y)
				c := impl.Cell{Split: 1, A: (old.A + 1) % 6, B: (old.A + 2) % 6}
				changed, ok := impl.WithCell(b, x, y, c)
				if !ok || impl.SameBlock(changed, b) || impl.CellAt(changed, x, y) != c {
					t.Fatalf("WithCell(%v, %d, %d, %v) = %v, %v", b, x, y, c, changed, ok)
				}
				back, ok := impl.WithCell(changed, x, y, old)
				if !ok || !impl.SameBlock(back, b) || !equalBlocks(back, b) {
					t.Errorf("WithCell(%v, %d, %d, %v) = %v, %v, want %v", changed, x, y, old, back, ok, b)
				}
			}
		}
	}
}

// wantUnchanged checks that WithCell rejects its arguments and returns the block as it was.
func wantUnchanged(t *testing.T, b impl.Block, x int, y int, c impl.Cell) {
	t.Helper()
	old := copyOf(b)
	got, ok := impl.WithCell(b, x, y, c)
	if ok || !equalBlocks(got, old) {
		t.Errorf("WithCell(%v, %d, %d, %v) = %v, %v, want the block unchanged and false", old, x, y, c, got, ok)
	}
	if !equalBlocks(b, old) {
		t.Errorf("WithCell changed %v to %v", old, b)
	}
}

func TestWithCellBesideTheBlock(t *testing.T) {
	for size := 1; size <= 4; size++ {
		for _, p := range placesBeside(size) {
			wantUnchanged(t, mixedBlock(size, 11), p[0], p[1], impl.Cell{A: 5, B: 5})
			wantUnchanged(t, oneColor(size, 5), p[0], p[1], impl.Cell{})
		}
	}
}

func TestWithCellThatIsNotValid(t *testing.T) {
	for _, c := range invalidCells() {
		wantUnchanged(t, mixedBlock(2, 11), 1, 0, c)
	}
	for size := 1; size <= 4; size++ {
		for i := range size * size {
			for _, c := range badCells() {
				wantUnchanged(t, mixedBlock(size, 11), i%size, i/size, c)
			}
		}
	}
}

func TestWithCellOfInvalidBlocks(t *testing.T) {
	for _, b := range invalidBlocks() {
		// A valid cell does not repair the block, wherever it is put.
		for y := -1; y <= 4; y++ {
			for x := -1; x <= 4; x++ {
				wantUnchanged(t, b, x, y, impl.Cell{A: 5, B: 5})
			}
		}
		wantUnchanged(t, b, 0, 0, impl.Cell{Split: 3})
	}
}

func TestPlainBlock(t *testing.T) {
	for size := 1; size <= 4; size++ {
		for a := range 6 {
			got, ok := impl.PlainBlock(size, a)
			if !ok || !equalBlocks(got, oneColor(size, a)) || !impl.BlockOk(got) {
				t.Errorf("PlainBlock(%d, %d) = %v, %v", size, a, got, ok)
			}
		}
	}
}

func TestPlainBlockThatIsNotValid(t *testing.T) {
	sizes := []int{math.MinInt, -1 << 32, -4, -2, -1, 0, 5, 6, 1 << 31, 1 << 32, math.MaxInt}
	colors := []int{math.MinInt, -6, -2, -1, 6, 7, math.MaxInt}
	check := func(size int, a int) {
		got, ok := impl.PlainBlock(size, a)
		if ok || got.Size != 0 || len(got.Cells) != 0 {
			t.Errorf("PlainBlock(%d, %d) = %v, %v, want the zero Block and false", size, a, got, ok)
		}
	}
	for _, size := range sizes {
		for a := -1; a <= 6; a++ {
			check(size, a)
		}
	}
	for _, a := range colors {
		for size := 0; size <= 5; size++ {
			check(size, a)
		}
	}
}

func TestSameBlock(t *testing.T) {
	two := mixedBlock(2, 3)
	cases := []struct {
		b, d impl.Block
		want bool
	}{
		{two, copyOf(two), true},
		{two, mixedBlock(2, 4), false},
		{two, mixedBlock(3, 3), false},
		{oneColor(1, 0), oneColor(2, 0), false},
		{oneColor(2, 0), oneColor(2, 1), false},
		// The blocks need not be valid.
		{impl.Block{}, impl.Block{}, true},
		{impl.Block{}, impl.Block{Cells: []impl.Cell{}}, true},
		{impl.Block{Size: 7}, impl.Block{Size: 7, Cells: []impl.Cell{}}, true},
		{impl.Block{Size: 7}, impl.Block{Size: 8}, false},
		{impl.Block{Size: -2, Cells: two.Cells}, impl.Block{Size: -2, Cells: copyOf(two).Cells}, true},
		{two, impl.Block{Size: 3, Cells: two.Cells}, false},
		{two, impl.Block{Size: -2, Cells: two.Cells}, false},
		{two, impl.Block{Size: 2, Cells: two.Cells[:3]}, false},
		{two, impl.Block{Size: 2, Cells: append(copyOf(two).Cells, impl.Cell{})}, false},
		{two, impl.Block{Size: 2}, false},
		{impl.Block{}, impl.Block{Cells: []impl.Cell{{}}}, false},
		{oneColor(2, 9), oneColor(2, 9), true},
		{oneColor(2, 9), oneColor(2, -1), false},
		{oneColor(1, 2), impl.Block{Size: 1, Cells: []impl.Cell{{Split: 1, A: 2, B: 2}}}, false},
		{oneColor(1, 2), impl.Block{Size: 1, Cells: []impl.Cell{{Split: 0, A: 2, B: 3}}}, false},
	}
	for _, c := range cases {
		if got := impl.SameBlock(c.b, c.d); got != c.want {
			t.Errorf("SameBlock(%v, %v) = %v, want %v", c.b, c.d, got, c.want)
		}
		if got := impl.SameBlock(c.d, c.b); got != c.want {
			t.Errorf("SameBlock(%v, %v) = %v, want %v", c.d, c.b, got, c.want)
		}
	}
}

func TestSameBlockSeesEachNumber(t *testing.T) {
	for size := 1; size <= 4; size++ {
		b := mixedBlock(size, 20)
		for i := range b.Cells {
			for field := range 3 {
				d := copyOf(b)
				*[]*int{&d.Cells[i].Split, &d.Cells[i].A, &d.Cells[i].B}[field] += 1
				if impl.SameBlock(b, d) || impl.SameBlock(d, b) {
					t.Errorf("SameBlock(%v, %v) = true", b, d)
				}
			}
		}
	}
}

func TestSameBlockOfAllBlocks(t *testing.T) {
	blocks := append(validBlocks(), invalidBlocks()...)
	for _, b := range blocks {
		for _, d := range blocks {
			if got := impl.SameBlock(b, d); got != equalBlocks(b, d) {
				t.Errorf("SameBlock(%v, %v) = %v", b, d, got)
			}
		}
	}
}

func TestColorsOf(t *testing.T) {
	cases := []struct {
		cells []impl.Cell
		want  []int
	}{
		{[]impl.Cell{{}}, []int{0}},
		{[]impl.Cell{{A: 5, B: 5}}, []int{5}},
		{[]impl.Cell{{Split: 1, A: 5, B: 0}}, []int{0, 5}},
		{[]impl.Cell{{Split: 2, A: 1, B: 4}}, []int{1, 4}},
		{[]impl.Cell{{A: 4, B: 4}, {A: 2, B: 2}, {A: 4, B: 4}, {A: 1, B: 1}}, []int{1, 2, 4}},
		{[]impl.Cell{{A: 3, B: 3}, {A: 3, B: 3}, {A: 3, B: 3}, {Split: 2, A: 3, B: 0}}, []int{0, 3}},
		{[]impl.Cell{{Split: 1, A: 5, B: 4}, {Split: 2, A: 3, B: 2}, {Split: 1, A: 1, B: 0}, {A: 2, B: 2}}, []int{0, 1, 2, 3, 4, 5}},
	}
	for _, c := range cases {
		b := impl.Block{Size: 1, Cells: c.cells}
		if len(c.cells) == 4 {
			b.Size = 2
		}
		if got := impl.ColorsOf(b); !slices.Equal(got, c.want) {
			t.Errorf("ColorsOf(%v) = %v, want %v", b, got, c.want)
		}
	}
}

func TestColorsOfAllBlocks(t *testing.T) {
	for _, b := range validBlocks() {
		var want []int
		for _, c := range b.Cells {
			want = append(want, c.A, c.B)
		}
		slices.Sort(want)
		want = slices.Compact(want)
		if got := impl.ColorsOf(b); !slices.Equal(got, want) {
			t.Errorf("ColorsOf(%v) = %v, want %v", b, got, want)
		}
	}
	for _, b := range invalidBlocks() {
		if got := impl.ColorsOf(b); len(got) != 0 {
			t.Errorf("ColorsOf(%v) = %v, want nil", b, got)
		}
	}
}

func TestStarBlock(t *testing.T) {
	b := impl.StarBlock()
	if b.Size != 3 || len(b.Cells) != 9 || !impl.BlockOk(b) {
		t.Fatalf("StarBlock() = %v", b)
	}
	want := []string{"0/1", "1", `1\0`, "1", "1", "1", `0\1`, "1", "1/0"}
	for i, text := range want {
		if got := impl.CellText(b.Cells[i]); got != text {
			t.Errorf("cell %d of the star has the text %q, want %q", i, got, text)
		}
	}
	if got := impl.ColorsOf(b); !slices.Equal(got, []int{0, 1}) {
		t.Errorf("the star has the colors %v", got)
	}
}

// callAll calls each function of the chapter that takes a block.
func callAll(b impl.Block) {
	impl.BlockOk(b)
	impl.ColorsOf(b)
	impl.SameBlock(b, b)
	impl.SameBlock(b, impl.StarBlock())
	impl.SameBlock(impl.StarBlock(), b)
	for y := -1; y <= 4; y++ {
		for x := -1; x <= 4; x++ {
			impl.CellAt(b, x, y)
			impl.WithCell(b, x, y, impl.Cell{Split: 2, A: 5, B: 4})
			impl.WithCell(b, x, y, impl.Cell{Split: 9, A: 5, B: 4})
		}
	}
}

// roomyBlock returns a copy of b whose cells lie in the middle of a longer slice, and this slice.
func roomyBlock(b impl.Block) (impl.Block, []impl.Cell) {
	n := len(b.Cells)
	room := make([]impl.Cell, 2+n+20)
	for i := range room {
		room[i] = impl.Cell{Split: 70, A: 70 + i, B: 70}
	}
	copy(room[2:], b.Cells)
	return impl.Block{Size: b.Size, Cells: room[2 : 2+n]}, room
}

// wantUntouched checks that the calls change neither the cells of b nor what lies beside them.
func wantUntouched(t *testing.T, b impl.Block, call func(b impl.Block)) {
	t.Helper()
	d, room := roomyBlock(b)
	old := slices.Clone(room)
	call(d)
	if !slices.Equal(room, old) {
		t.Errorf("the cells %v or their neighbours were changed: %v", old, room)
	}
}

func TestBlockArgumentsStay(t *testing.T) {
	for _, b := range append(validBlocks(), invalidBlocks()...) {
		wantUntouched(t, b, callAll)
	}
}

// wipe writes into the cells and into the spare capacity behind them.
func wipe(cells []impl.Cell) {
	for i := range cells[:cap(cells)] {
		cells[:cap(cells)][i] = impl.Cell{Split: 99, A: 99, B: 99}
	}
}

func TestWithCellSharesNoMemory(t *testing.T) {
	calls := []struct {
		x, y int
		c    impl.Cell
	}{
		{0, 0, impl.Cell{A: 5, B: 5}},
		{0, 0, impl.Cell{Split: 3}},
		{-1, 0, impl.Cell{A: 5, B: 5}},
		{0, 4, impl.Cell{A: 5, B: 5}},
	}
	for _, b := range append(validBlocks(), invalidBlocks()...) {
		for _, c := range calls {
			d, room := roomyBlock(b)
			old := slices.Clone(room)
			got, _ := impl.WithCell(d, c.x, c.y, c.c)
			wipe(got.Cells)
			if !slices.Equal(room, old) {
				t.Errorf("the result of WithCell(%v, %d, %d, %v) shares the cells of the argument", b, c.x, c.y, c.c)
			}
		}
	}
}

func TestBlocksAreNew(t *testing.T) {
	wipe(impl.StarBlock().Cells)
	if !equalBlocks(impl.StarBlock(), impl.StarBlock()) || !impl.BlockOk(impl.StarBlock()) {
		t.Errorf("StarBlock() = %v after another star was changed", impl.StarBlock())
	}
	first, _ := impl.PlainBlock(3, 2)
	wipe(first.Cells)
	if second, _ := impl.PlainBlock(3, 2); !equalBlocks(second, oneColor(3, 2)) {
		t.Errorf("PlainBlock(3, 2) = %v after another block was changed", second)
	}
	colors := impl.ColorsOf(impl.StarBlock())
	colors[0] = 99
	if got := impl.ColorsOf(impl.StarBlock()); !slices.Equal(got, []int{0, 1}) {
		t.Errorf("ColorsOf of the star is %v after another result was changed", got)
	}
}
