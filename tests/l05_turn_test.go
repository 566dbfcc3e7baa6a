package tests

import (
	"math"
	"slices"
	"testing"

	"loop.example/g03304/impl"
)

// Promise 5: four quarter turns are one whole turn, and mirrors undo themselves.

// point is a place in a picture of a block, in which a cell has the side 4.
type point struct{ x, y int }

// pictureOf gives the colors at the four sides of each cell, so that blocks with the same picture are the same.
func pictureOf(b impl.Block) map[point]int {
	beside := []point{{1, 2}, {2, 1}, {3, 2}, {2, 3}}
	picture := map[point]int{}
	for i, c := range b.Cells {
		for side, p := range beside {
			picture[point{4*(i%b.Size) + p.x, 4*(i/b.Size) + p.y}] = impl.ColorAt(c, side)
		}
	}
	return picture
}

// turnedPicture moves each point to the right by a quarter, around the middle of the block.
func turnedPicture(picture map[point]int, size int) map[point]int {
	turned := map[point]int{}
	for p, color := range picture {
		turned[point{4*size - p.y, p.x}] = color
	}
	return turned
}

// mirroredPicture moves each point to the other side of the middle line, which leads up and down.
func mirroredPicture(picture map[point]int, size int) map[point]int {
	mirrored := map[point]int{}
	for p, color := range picture {
		mirrored[point{4*size - p.x, p.y}] = color
	}
	return mirrored
}

// wantPicture checks that a block is valid, has the Size and shows the picture.
func wantPicture(t *testing.T, what string, got impl.Block, size int, want map[point]int) {
	t.Helper()
	if got.Size != size || !impl.BlockOk(got) {
		t.Errorf("%s: %v is not a block of Size %d", what, got, size)
		return
	}
	for p, color := range pictureOf(got) {
		if color != want[p] {
			t.Errorf("%s: %v has the color %d at %v, want %d", what, got, color, p, want[p])
			return
		}
	}
}

// wantBlock checks that two blocks are equal.
func wantBlock(t *testing.T, what string, got impl.Block, want impl.Block) {
	t.Helper()
	if !equalBlocks(got, want) {
		t.Errorf("%s: got %v, want %v", what, got, want)
	}
}

// wantZeroBlock checks that a block is the zero Block.
func wantZeroBlock(t *testing.T, what string, got impl.Block) {
	t.Helper()
	if got.Size != 0 || len(got.Cells) != 0 {
		t.Errorf("%s: got %v, want the zero Block", what, got)
	}
}

// turnedCell and turned turn several times.
func turnedCell(c impl.Cell, times int) impl.Cell {
	for range times {
		c = impl.TurnCell(c)
	}
	return c
}

func turned(b impl.Block, times int) impl.Block {
	for range times {
		b = impl.TurnBlock(b)
	}
	return b
}

// cornerBlock has a cell of two triangles in one corner only, and no two of its eight views are the same.
func cornerBlock() impl.Block {
	return blockOf(up(0, 1), whole(2), whole(3), whole(4))
}

// viewsByHand are the views of cornerBlock, from 0 to 7.
func viewsByHand() []impl.Block {
	return []impl.Block{
		blockOf(up(0, 1), whole(2), whole(3), whole(4)),
		blockOf(whole(3), down(1, 0), whole(4), whole(2)),
		blockOf(whole(4), whole(3), whole(2), up(1, 0)),
		blockOf(whole(2), whole(4), down(0, 1), whole(3)),
		blockOf(whole(2), down(1, 0), whole(4), whole(3)),
		blockOf(whole(4), whole(2), whole(3), up(1, 0)),
		blockOf(whole(3), whole(4), down(0, 1), whole(2)),
		blockOf(up(0, 1), whole(3), whole(2), whole(4)),
	}
}

// moveCase is a block with its turn and its mirror, written by hand.
type moveCase struct {
	name                string
	b, turned, mirrored impl.Block
}

// moveCases are blocks of each Size.
func moveCases() []moveCase {
	w := whole
	return []moveCase{
		{"the zero Cell", blockOf(w(0)), blockOf(w(0)), blockOf(w(0))},
		{"a whole cell", blockOf(w(5)), blockOf(w(5)), blockOf(w(5))},
		{"a diagonal up", blockOf(up(0, 5)), blockOf(down(5, 0)), blockOf(down(5, 0))},
		{"a diagonal down", blockOf(down(0, 5)), blockOf(up(0, 5)), blockOf(up(5, 0))},
		{
			"four whole cells", blockOf(w(0), w(1), w(2), w(3)),
			blockOf(w(2), w(0), w(3), w(1)), blockOf(w(1), w(0), w(3), w(2)),
		},
		{
			"cells of all kinds", blockOf(up(0, 1), down(2, 3), w(4), down(5, 4)),
			blockOf(w(4), down(1, 0), up(5, 4), up(2, 3)), blockOf(up(3, 2), down(1, 0), up(4, 5), w(4)),
		},
		{
			"nine cells",
			blockOf(w(0), up(1, 2), w(3), w(4), w(5), down(0, 1), down(2, 3), w(1), up(4, 5)),
			blockOf(up(2, 3), w(4), w(0), w(1), w(5), down(2, 1), down(5, 4), up(0, 1), w(3)),
			blockOf(w(3), down(2, 1), w(0), up(1, 0), w(5), w(4), down(5, 4), w(1), up(3, 2)),
		},
		{
			"sixteen cells",
			blockOf(w(0), w(1), w(2), w(3), up(0, 5), w(4), w(5), down(0, 5), w(1), w(3), w(5), w(0), w(2), w(2), up(3, 1), w(4)),
			blockOf(w(2), w(1), down(5, 0), w(0), w(2), w(3), w(4), w(1), down(1, 3), w(5), w(5), w(2), w(4), w(0), up(0, 5), w(3)),
			blockOf(w(3), w(2), w(1), w(0), up(5, 0), w(5), w(4), down(5, 0), w(0), w(5), w(3), w(1), w(4), down(1, 3), w(2), w(2)),
		},
		{"the star", impl.StarBlock(), impl.StarBlock(), impl.StarBlock()},
	}
}

// roundBlocks look the same from all sides.
func roundBlocks() []impl.Block {
	ring := []impl.Cell{
		up(3, 2), whole(4), whole(4), down(2, 3), whole(4), up(5, 0), down(0, 5), whole(4),
		whole(4), down(5, 0), up(0, 5), whole(4), down(3, 2), whole(4), whole(4), up(2, 3),
	}
	blocks := []impl.Block{impl.StarBlock(), blockOf(ring...), blockOf(up(0, 1), down(1, 0), down(0, 1), up(1, 0))}
	for size := 1; size <= 4; size++ {
		for a := range 6 {
			blocks = append(blocks, oneColor(size, a))
		}
	}
	return blocks
}

// turnBlocks are valid blocks of each Size: of whole cells and triangles, symmetric ones and others.
func turnBlocks() []impl.Block {
	blocks := append(areaBlocks(), roundBlocks()...)
	blocks = append(blocks, cornerBlock())
	for _, c := range moveCases() {
		blocks = append(blocks, c.b)
	}
	return blocks
}

func TestTurnCell(t *testing.T) {
	cases := []struct{ c, want impl.Cell }{
		{impl.Cell{}, impl.Cell{}},
		{whole(3), whole(3)},
		{whole(5), whole(5)},
		{up(0, 1), down(1, 0)},
		{up(1, 0), down(0, 1)},
		{up(5, 2), down(2, 5)},
		{down(0, 1), up(0, 1)},
		{down(1, 0), up(1, 0)},
		{down(4, 5), up(4, 5)},
	}
	for _, c := range cases {
		if got := impl.TurnCell(c.c); got != c.want {
			t.Errorf("TurnCell(%v) = %v, want %v", c.c, got, c.want)
		}
	}
}

func TestMirrorCell(t *testing.T) {
	cases := []struct{ c, want impl.Cell }{
		{impl.Cell{}, impl.Cell{}},
		{whole(3), whole(3)},
		{whole(5), whole(5)},
		{up(0, 1), down(1, 0)},
		{up(1, 0), down(0, 1)},
		{up(5, 2), down(2, 5)},
		{down(0, 1), up(1, 0)},
		{down(1, 0), up(0, 1)},
		{down(4, 5), up(5, 4)},
	}
	for _, c := range cases {
		if got := impl.MirrorCell(c.c); got != c.want {
			t.Errorf("MirrorCell(%v) = %v, want %v", c.c, got, c.want)
		}
	}
}

func TestSidesOfMovedCells(t *testing.T) {
	for _, c := range validCells() {
		s := sidesOf(c)
		// The sides are the left, the upper, the right and the lower one.
		if got := sidesOf(impl.TurnCell(c)); !slices.Equal(got, []int{s[3], s[0], s[1], s[2]}) {
			t.Errorf("%v has the colors %v at its sides, and after a turn %v", c, s, got)
		}
		if got := sidesOf(impl.MirrorCell(c)); !slices.Equal(got, []int{s[2], s[1], s[0], s[3]}) {
			t.Errorf("%v has the colors %v at its sides, and in a mirror %v", c, s, got)
		}
	}
}

func TestMovesOfCellsAreUndone(t *testing.T) {
	for _, c := range validCells() {
		if got := turnedCell(c, 4); got != c {
			t.Errorf("%v is %v after four turns", c, got)
		}
		if got := impl.MirrorCell(impl.MirrorCell(c)); got != c {
			t.Errorf("%v is %v after two mirrors", c, got)
		}
		if got, want := turnedCell(c, 2), (impl.Cell{Split: c.Split, A: c.B, B: c.A}); got != want {
			t.Errorf("%v is %v after two turns, want %v", c, got, want)
		}
		for j := range 4 {
			got, want := impl.MirrorCell(turnedCell(c, j)), turnedCell(impl.MirrorCell(c), (4-j)%4)
			if got != want {
				t.Errorf("%v is %v in a mirror after %d turns, want %v", c, got, j, want)
			}
		}
	}
}

func TestMovesOfInvalidCells(t *testing.T) {
	for _, c := range append(invalidCells(), badCells()...) {
		if got := impl.TurnCell(c); got != (impl.Cell{}) {
			t.Errorf("TurnCell(%v) = %v, want the zero Cell", c, got)
		}
		if got := impl.MirrorCell(c); got != (impl.Cell{}) {
			t.Errorf("MirrorCell(%v) = %v, want the zero Cell", c, got)
		}
	}
}

func TestMovesByHand(t *testing.T) {
	for _, c := range moveCases() {
		wantBlock(t, c.name+", turned", impl.TurnBlock(c.b), c.turned)
		wantBlock(t, c.name+", mirrored", impl.MirrorBlock(c.b), c.mirrored)
	}
}

func TestCellsAreMovedToTheirPlaces(t *testing.T) {
	for _, b := range turnBlocks() {
		turn, mirror := impl.TurnBlock(b), impl.MirrorBlock(b)
		for y := range b.Size {
			for x := range b.Size {
				if got, want := impl.CellAt(turn, x, y), impl.TurnCell(impl.CellAt(b, y, b.Size-1-x)); got != want {
					t.Errorf("TurnBlock(%v) has the cell %v at %d, %d, want %v", b, got, x, y, want)
				}
				if got, want := impl.CellAt(mirror, x, y), impl.MirrorCell(impl.CellAt(b, b.Size-1-x, y)); got != want {
					t.Errorf("MirrorBlock(%v) has the cell %v at %d, %d, want %v", b, got, x, y, want)
				}
			}
		}
	}
}

func TestPicturesOfMovedBlocks(t *testing.T) {
	for _, b := range turnBlocks() {
		picture := pictureOf(b)
		wantPicture(t, "TurnBlock", impl.TurnBlock(b), b.Size, turnedPicture(picture, b.Size))
		wantPicture(t, "MirrorBlock", impl.MirrorBlock(b), b.Size, mirroredPicture(picture, b.Size))
	}
}

func TestFourTurnsAreAWholeOne(t *testing.T) {
	for _, b := range turnBlocks() {
		wantBlock(t, "four turns", turned(b, 4), b)
	}
	// A block that looks different from all sides comes back after four turns and not before.
	for times := 1; times <= 12; times++ {
		if got := equalBlocks(turned(cornerBlock(), times), cornerBlock()); got != (times%4 == 0) {
			t.Errorf("after %d turns the block is as before: %v", times, got)
		}
	}
}

func TestMirrorsUndoThemselves(t *testing.T) {
	for _, b := range turnBlocks() {
		wantBlock(t, "two mirrors", impl.MirrorBlock(impl.MirrorBlock(b)), b)
		for j := range 4 {
			// A turn and then a mirror is a mirror as well, along another line.
			once := impl.MirrorBlock(turned(b, j))
			wantBlock(t, "a mirror after turns, twice", impl.MirrorBlock(turned(once, j)), b)
			once = turned(impl.MirrorBlock(b), j)
			wantBlock(t, "turns after a mirror, twice", turned(impl.MirrorBlock(once), j), b)
		}
	}
}

func TestMirrorsAfterTurns(t *testing.T) {
	for _, b := range turnBlocks() {
		for j := range 4 {
			back := (4 - j) % 4
			got := impl.MirrorBlock(turned(b, j))
			wantBlock(t, "a mirror after turns", got, turned(impl.MirrorBlock(b), back))
			wantBlock(t, "a mirror after turns", got, impl.SeenFrom(b, 4+back))
			wantBlock(t, "turns after a mirror", turned(impl.MirrorBlock(b), j), impl.SeenFrom(b, 4+j))
			wantBlock(t, "turns after a mirror", turned(impl.MirrorBlock(b), j), impl.MirrorBlock(turned(b, back)))
		}
	}
	// The order of a turn and a mirror is seen.
	b := cornerBlock()
	if equalBlocks(impl.MirrorBlock(impl.TurnBlock(b)), impl.TurnBlock(impl.MirrorBlock(b))) {
		t.Errorf("a mirror after a turn of %v is a turn after a mirror", b)
	}
}

func TestViewsByHand(t *testing.T) {
	views := viewsByHand()
	for k, want := range views {
		wantBlock(t, "view "+impl.FormatInt(k), impl.SeenFrom(cornerBlock(), k), want)
	}
	for k := range views {
		for i := range k {
			if equalBlocks(impl.SeenFrom(cornerBlock(), i), impl.SeenFrom(cornerBlock(), k)) {
				t.Errorf("the views %d and %d of %v are the same", i, k, cornerBlock())
			}
		}
	}
}

func TestViewsOfOneCell(t *testing.T) {
	// A cell of two triangles has four views, each twice, in an order that depends on its diagonal.
	ups := []impl.Cell{up(2, 5), down(5, 2), up(5, 2), down(2, 5), down(5, 2), up(5, 2), down(2, 5), up(2, 5)}
	downs := []impl.Cell{down(2, 5), up(2, 5), down(5, 2), up(5, 2), up(5, 2), down(2, 5), up(2, 5), down(5, 2)}
	for k := range 8 {
		wantBlock(t, "a diagonal up", impl.SeenFrom(blockOf(up(2, 5)), k), blockOf(ups[k]))
		wantBlock(t, "a diagonal down", impl.SeenFrom(blockOf(down(2, 5)), k), blockOf(downs[k]))
		wantBlock(t, "a whole cell", impl.SeenFrom(blockOf(whole(2)), k), blockOf(whole(2)))
	}
}

func TestRoundBlocksAreTheSameFromAllSides(t *testing.T) {
	for _, b := range roundBlocks() {
		for k := range 8 {
			wantBlock(t, "view "+impl.FormatInt(k), impl.SeenFrom(b, k), b)
		}
	}
}

func TestPicturesOfAllViews(t *testing.T) {
	for _, b := range turnBlocks() {
		front := pictureOf(b)
		back := mirroredPicture(front, b.Size)
		for k := range 4 {
			wantPicture(t, "view "+impl.FormatInt(k), impl.SeenFrom(b, k), b.Size, front)
			wantPicture(t, "view "+impl.FormatInt(k+4), impl.SeenFrom(b, k+4), b.Size, back)
			front, back = turnedPicture(front, b.Size), turnedPicture(back, b.Size)
		}
	}
}

func TestViewsAreMoves(t *testing.T) {
	for _, b := range turnBlocks() {
		for k := range 4 {
			wantBlock(t, "view "+impl.FormatInt(k), impl.SeenFrom(b, k), turned(b, k))
			wantBlock(t, "view "+impl.FormatInt(k+4), impl.SeenFrom(b, k+4), turned(impl.MirrorBlock(b), k))
		}
	}
}

func TestViewsAreUndone(t *testing.T) {
	for _, b := range turnBlocks() {
		for k := range 4 {
			wantBlock(t, "turned back", impl.SeenFrom(impl.SeenFrom(b, k), (4-k)%4), b)
			wantBlock(t, "mirrored back", impl.SeenFrom(impl.SeenFrom(b, k+4), k+4), b)
		}
	}
}

func TestMovesKeepTheAreas(t *testing.T) {
	for _, b := range turnBlocks() {
		want := impl.AreaTable(b)
		for k := range 8 {
			if got := impl.AreaTable(impl.SeenFrom(b, k)); !slices.Equal(got, want) {
				t.Errorf("%v has the areas %v, but %v in view %d", b, want, got, k)
			}
		}
	}
}

func TestNoSuchView(t *testing.T) {
	numbers := []int{-1, 8, -2, -3, -4, -5, -8, 9, 12, 15, 16, 1 << 32, -1 << 32, math.MaxInt, math.MinInt}
	for _, b := range append(validBlocks(), cornerBlock(), impl.StarBlock(), impl.Block{}) {
		for _, k := range numbers {
			wantZeroBlock(t, "view "+impl.FormatInt(k), impl.SeenFrom(b, k))
		}
	}
}

func TestMovesOfInvalidBlocks(t *testing.T) {
	for _, b := range invalidBlocks() {
		wantZeroBlock(t, "TurnBlock", impl.TurnBlock(b))
		wantZeroBlock(t, "MirrorBlock", impl.MirrorBlock(b))
		for k := -1; k <= 8; k++ {
			wantZeroBlock(t, "view "+impl.FormatInt(k), impl.SeenFrom(b, k))
		}
	}
}

func TestOneBadCellIsNotMoved(t *testing.T) {
	for size := 1; size <= 4; size++ {
		for i := range size * size {
			for _, bad := range badCells() {
				b := oneColor(size, 1)
				b.Cells[i] = bad
				wantZeroBlock(t, "TurnBlock", impl.TurnBlock(b))
				wantZeroBlock(t, "MirrorBlock", impl.MirrorBlock(b))
				for k := range 8 {
					wantZeroBlock(t, "view "+impl.FormatInt(k), impl.SeenFrom(b, k))
				}
			}
		}
	}
}

// movesOf calls each function of the chapter that takes a block, SeenFrom also for numbers that are not views.
func movesOf(b impl.Block) []impl.Block {
	moved := []impl.Block{impl.TurnBlock(b), impl.MirrorBlock(b)}
	for k := -1; k <= 8; k++ {
		moved = append(moved, impl.SeenFrom(b, k))
	}
	return moved
}

func TestMovedArgumentsStay(t *testing.T) {
	for _, b := range append(turnBlocks(), invalidBlocks()...) {
		wantUntouched(t, b, func(d impl.Block) { movesOf(d) })
	}
}

// wantNewBlocks checks that the results share no memory with the argument, and that none of them is kept for the next call.
func wantNewBlocks(t *testing.T, b impl.Block, results func(b impl.Block) []impl.Block) {
	t.Helper()
	d, room := roomyBlock(b)
	old := slices.Clone(room)
	want := results(copyOf(b))
	for i, got := range results(d) {
		wipe(got.Cells)
		if !slices.Equal(room, old) {
			t.Fatalf("result %d of %v shares the cells of the argument", i, b)
		}
		wantBlock(t, "result "+impl.FormatInt(i)+" again", results(d)[i], want[i])
	}
	got := results(d)
	wipe(d.Cells)
	for i := range got {
		wantBlock(t, "result "+impl.FormatInt(i)+" after a change of the argument", got[i], want[i])
	}
}

func TestMovedBlocksShareNoMemory(t *testing.T) {
	for _, b := range append(turnBlocks(), invalidBlocks()...) {
		wantNewBlocks(t, b, movesOf)
	}
}
