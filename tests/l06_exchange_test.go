package tests

import (
	"math"
	"slices"
	"testing"

	"loop.example/g03304/impl"
)

// Promise 6: an exchange of colors can be undone, and the first use has its own order.

// allLists are the lists of six numbers from 0 to 5, which are all lists that are valid.
func allLists() [][]int {
	lists := [][]int{{}}
	for range 6 {
		var longer [][]int
		for _, l := range lists {
			for a := range 6 {
				longer = append(longer, append(slices.Clone(l), a))
			}
		}
		lists = longer
	}
	return lists
}

// isExchange says once more which valid lists are exchanges: those that lose no color.
func isExchange(l []int) bool {
	for a := range 6 {
		if !slices.Contains(l, a) {
			return false
		}
	}
	return true
}

// allExchanges are the 720 lists whose numbers are all different.
func allExchanges() [][]int {
	var exchanges [][]int
	for _, l := range allLists() {
		if isExchange(l) {
			exchanges = append(exchanges, l)
		}
	}
	return exchanges
}

// losingLists are valid, but they make several colors the same.
func losingLists() [][]int {
	return [][]int{
		{0, 0, 0, 0, 0, 0}, {5, 5, 5, 5, 5, 5}, {0, 5, 0, 5, 0, 5}, {5, 0, 0, 0, 0, 5}, {0, 0, 1, 2, 3, 4},
		{0, 1, 2, 3, 4, 4}, {5, 1, 2, 3, 4, 5}, {3, 3, 0, 0, 0, 0}, {1, 0, 3, 2, 5, 5}, {2, 2, 4, 4, 0, 0},
	}
}

// fewExchanges are exchanges of several kinds: none, two or more colors, some of them their own undoing.
func fewExchanges() [][]int {
	return [][]int{
		{0, 1, 2, 3, 4, 5}, {5, 1, 2, 3, 4, 0}, {0, 1, 3, 2, 4, 5}, {5, 4, 3, 2, 1, 0}, {1, 0, 3, 2, 5, 4},
		{1, 2, 0, 3, 4, 5}, {1, 2, 3, 4, 5, 0}, {5, 0, 1, 2, 3, 4}, {0, 1, 2, 4, 5, 3}, {3, 5, 1, 0, 2, 4},
	}
}

// badLists are lists that are not valid. Each of the middle part has one wrong number.
func badLists() [][]int {
	lists := [][]int{
		nil, {}, {0}, {0, 1, 2}, {0, 1, 2, 3, 4}, {0, 1, 2, 3, 4, 5, 0}, {0, 1, 2, 3, 4, 5, 6},
		{0, 0, 0, 0, 0}, {0, 0, 0, 0, 0, 0, 0}, make([]int, 12), make([]int, 36),
		// The next number behind this list would be valid.
		[]int{0, 1, 2, 3, 4, 5}[:5],
	}
	for i := range 6 {
		for _, a := range []int{-1, 6, -6, 7, 12, math.MinInt, math.MaxInt, 1 << 32} {
			kept, plain := []int{0, 1, 2, 3, 4, 5}, make([]int, 6)
			kept[i], plain[i] = a, a
			lists = append(lists, kept, plain)
		}
	}
	return append(lists, []int{1, 2, 3, 4, 5, 6}, []int{-1, 0, 1, 2, 3, 4}, []int{-1, -1, -1, -1, -1, -1}, []int{6, 6, 6, 6, 6, 6})
}

// exchangedCell replaces the colors in another way than the program: by the sides where they are seen.
func exchangedCell(c impl.Cell, l []int) impl.Cell {
	sides := sidesOf(c)
	left, right := l[sides[0]], l[sides[2]]
	if left == right {
		return whole(left)
	}
	return impl.Cell{Split: c.Split, A: left, B: right}
}

// exchangedBlock replaces the colors of all cells.
func exchangedBlock(b impl.Block, l []int) impl.Block {
	d := impl.Block{Size: b.Size}
	for _, c := range b.Cells {
		d.Cells = append(d.Cells, exchangedCell(c, l))
	}
	return d
}

// wantList checks that two lists have the same numbers. A nil list is an empty one.
func wantList(t *testing.T, what string, got []int, want []int) {
	t.Helper()
	if !slices.Equal(got, want) {
		t.Errorf("%s: got %v, want %v", what, got, want)
	}
}

// exchanged checks that ExchangeBlock takes its arguments, and returns the block.
func exchanged(t *testing.T, b impl.Block, l []int) impl.Block {
	t.Helper()
	got, ok := impl.ExchangeBlock(b, l)
	if !ok {
		t.Errorf("ExchangeBlock(%v, %v) returns false", b, l)
	}
	return got
}

// exchangeBlocks are a few valid blocks of each Size.
func exchangeBlocks() []impl.Block {
	blocks := append(roundBlocks(), cornerBlock(), blockOf(up(0, 5)), blockOf(down(5, 0)), blockOf(down(2, 3)))
	for size := 1; size <= 4; size++ {
		blocks = append(blocks, mixedBlock(size, 1), mixedBlock(size, 40), trianglesOnly(size))
	}
	for _, c := range firstUseCases() {
		blocks = append(blocks, c.b)
	}
	return blocks
}

func TestListOk(t *testing.T) {
	for _, l := range allLists() {
		if !impl.ListOk(l) {
			t.Errorf("ListOk(%v) = false", l)
		}
	}
	for _, l := range badLists() {
		if impl.ListOk(l) {
			t.Errorf("ListOk(%v) = true", l)
		}
	}
}

func TestIsExchange(t *testing.T) {
	count := 0
	for _, l := range allLists() {
		got := impl.IsExchange(l)
		if got != isExchange(l) {
			t.Errorf("IsExchange(%v) = %v", l, got)
		}
		if got {
			count++
		}
	}
	if count != 720 {
		t.Errorf("there are %d exchanges, want 720", count)
	}
}

func TestIsExchangeByHand(t *testing.T) {
	for _, l := range fewExchanges() {
		if !impl.IsExchange(l) {
			t.Errorf("IsExchange(%v) = false", l)
		}
	}
	for _, l := range append(losingLists(), badLists()...) {
		if impl.IsExchange(l) {
			t.Errorf("IsExchange(%v) = true", l)
		}
	}
}

func TestExchangeCell(t *testing.T) {
	cases := []struct {
		c    impl.Cell
		l    []int
		want impl.Cell
	}{
		{impl.Cell{}, []int{4, 0, 0, 0, 0, 0}, whole(4)},
		{whole(5), []int{5, 4, 3, 2, 1, 0}, whole(0)},
		{whole(2), []int{0, 1, 2, 3, 4, 5}, whole(2)},
		{whole(1), []int{3, 3, 0, 0, 0, 0}, whole(3)},
		{up(0, 1), []int{0, 1, 2, 3, 4, 5}, up(0, 1)},
		{up(0, 1), []int{1, 0, 2, 3, 4, 5}, up(1, 0)},
		{up(0, 5), []int{5, 1, 2, 3, 4, 0}, up(5, 0)},
		{up(4, 2), []int{1, 2, 3, 4, 5, 0}, up(5, 3)},
		{down(0, 1), []int{1, 0, 2, 3, 4, 5}, down(1, 0)},
		{down(4, 2), []int{1, 2, 3, 4, 5, 0}, down(5, 3)},
		{down(3, 5), []int{0, 0, 0, 5, 0, 0}, down(5, 0)},
		// The two colors become the same.
		{up(0, 1), []int{3, 3, 0, 0, 0, 0}, whole(3)},
		{up(0, 1), []int{0, 0, 1, 2, 3, 4}, whole(0)},
		{up(5, 2), []int{5, 5, 5, 5, 5, 5}, whole(5)},
		{down(4, 5), []int{0, 1, 2, 3, 4, 4}, whole(4)},
		{down(5, 0), []int{0, 1, 2, 3, 4, 0}, whole(0)},
		// And here others do.
		{up(0, 1), []int{0, 1, 1, 1, 1, 1}, up(0, 1)},
		{down(2, 0), []int{0, 0, 5, 5, 5, 5}, down(5, 0)},
	}
	for _, c := range cases {
		if got := impl.ExchangeCell(c.c, c.l); got != c.want {
			t.Errorf("ExchangeCell(%v, %v) = %v, want %v", c.c, c.l, got, c.want)
		}
	}
}

func TestExchangeCellForAllCellsAndLists(t *testing.T) {
	cells := validCells()
	for _, l := range allLists() {
		for _, c := range cells {
			got := impl.ExchangeCell(c, l)
			if want := (impl.Cell{Split: c.Split, A: l[c.A], B: l[c.B]}); l[c.A] != l[c.B] && got != want {
				t.Fatalf("ExchangeCell(%v, %v) = %v, want %v", c, l, got, want)
			}
			if l[c.A] == l[c.B] && got != whole(l[c.A]) {
				t.Fatalf("ExchangeCell(%v, %v) = %v, want a whole cell of %d", c, l, got, l[c.A])
			}
		}
	}
}

func TestSidesOfExchangedCells(t *testing.T) {
	for _, l := range append(fewExchanges(), losingLists()...) {
		for _, c := range validCells() {
			var want []int
			for _, color := range sidesOf(c) {
				want = append(want, l[color])
			}
			wantList(t, "the sides of "+impl.CellText(c)+" exchanged", sidesOf(impl.ExchangeCell(c, l)), want)
		}
	}
}

func TestExchangesOfCellsAreUndone(t *testing.T) {
	for _, l := range allExchanges() {
		undo := impl.UndoList(l)
		for _, c := range validCells() {
			d := impl.ExchangeCell(c, l)
			if !impl.CellOk(d) || d.Split != c.Split {
				t.Errorf("ExchangeCell(%v, %v) = %v", c, l, d)
			}
			if got := impl.ExchangeCell(d, undo); got != c {
				t.Errorf("%v becomes %v by %v, and %v by %v", c, d, l, got, undo)
			}
		}
	}
}

func TestExchangeOfInvalidCells(t *testing.T) {
	lists := slices.Concat(fewExchanges(), losingLists(), badLists())
	for _, c := range append(invalidCells(), badCells()...) {
		for _, l := range lists {
			if got := impl.ExchangeCell(c, l); got != (impl.Cell{}) {
				t.Fatalf("ExchangeCell(%v, %v) = %v, want the zero Cell", c, l, got)
			}
		}
	}
}

func TestExchangeOfCellsByInvalidLists(t *testing.T) {
	for _, l := range badLists() {
		for _, c := range validCells() {
			if got := impl.ExchangeCell(c, l); got != (impl.Cell{}) {
				t.Errorf("ExchangeCell(%v, %v) = %v, want the zero Cell", c, l, got)
			}
		}
	}
}

func TestExchangeBlockByHand(t *testing.T) {
	w := whole
	turn, merge := []int{1, 2, 0, 5, 3, 4}, []int{3, 3, 0, 5, 5, 1}
	nine := blockOf(w(0), up(0, 1), w(2), down(3, 4), w(5), up(1, 3), w(3), down(2, 0), up(4, 5))
	sixteen := blockOf(
		w(0), w(1), w(2), w(3), up(0, 1), up(2, 3), up(4, 5), up(0, 5),
		down(0, 1), down(4, 3), down(5, 4), down(5, 0), w(4), w(5), up(3, 4), up(1, 0))
	cases := []struct {
		name string
		b    impl.Block
		l    []int
		want impl.Block
	}{
		{"one cell", blockOf(down(0, 4)), turn, blockOf(down(1, 3))},
		{"one cell that becomes whole", blockOf(down(0, 1)), merge, blockOf(w(3))},
		{"four cells", blockOf(up(0, 1), w(2), w(1), down(5, 3)), turn, blockOf(up(1, 2), w(0), w(2), down(4, 5))},
		{"four cells, one becomes whole", blockOf(up(0, 1), w(2), w(1), down(5, 3)), merge, blockOf(w(3), w(0), w(3), down(1, 5))},
		{"nine cells", nine, turn, blockOf(w(1), up(1, 2), w(0), down(5, 3), w(4), up(2, 5), w(5), down(0, 1), up(3, 4))},
		{"nine cells, two become whole", nine, merge, blockOf(w(3), w(3), w(0), w(5), w(1), up(3, 5), w(5), down(0, 3), up(5, 1))},
		{"sixteen cells", sixteen, turn, blockOf(
			w(1), w(2), w(0), w(5), up(1, 2), up(0, 5), up(3, 4), up(1, 4),
			down(1, 2), down(3, 5), down(4, 3), down(4, 1), w(3), w(4), up(5, 3), up(2, 1))},
		{"sixteen cells, some become whole", sixteen, merge, blockOf(
			w(3), w(3), w(0), w(5), w(3), up(0, 5), up(5, 1), up(3, 1),
			w(3), w(5), down(1, 5), down(1, 3), w(5), w(1), w(5), w(3))},
		{"the star, all of 0", impl.StarBlock(), make([]int, 6), oneColor(3, 0)},
	}
	for _, c := range cases {
		wantBlock(t, c.name, exchanged(t, c.b, c.l), c.want)
	}
}

func TestExchangeBlock(t *testing.T) {
	lists := append(fewExchanges(), losingLists()...)
	for _, b := range turnBlocks() {
		for _, l := range lists {
			got := exchanged(t, b, l)
			if want := exchangedBlock(b, l); !equalBlocks(got, want) || !impl.BlockOk(got) {
				t.Errorf("ExchangeBlock(%v, %v) = %v, want %v", b, l, got, want)
			}
		}
	}
}

func TestExchangesOfBlocksAreUndone(t *testing.T) {
	for _, b := range turnBlocks() {
		for _, l := range fewExchanges() {
			wantBlock(t, "undone", exchanged(t, exchanged(t, b, l), impl.UndoList(l)), b)
			wantBlock(t, "undone before", exchanged(t, exchanged(t, b, impl.UndoList(l)), l), b)
		}
	}
	for _, b := range exchangeBlocks() {
		for _, l := range allExchanges() {
			wantBlock(t, "undone", exchanged(t, exchanged(t, b, l), impl.UndoList(l)), b)
		}
	}
}

func TestSwapsOfBlocksUndoThemselves(t *testing.T) {
	for _, b := range exchangeBlocks() {
		for x := range 6 {
			for y := range 6 {
				swap := impl.SwapList(x, y)
				wantBlock(t, "swapped twice", exchanged(t, exchanged(t, b, swap), swap), b)
			}
		}
	}
}

func TestKeepingEachColor(t *testing.T) {
	for _, b := range turnBlocks() {
		wantBlock(t, "nothing exchanged", exchanged(t, b, []int{0, 1, 2, 3, 4, 5}), b)
	}
}

func TestLostColorsDoNotComeBack(t *testing.T) {
	// Two blocks become the same, so that no list could make both of them again.
	l := []int{0, 0, 1, 2, 3, 4}
	b, d := blockOf(whole(0), whole(1), up(0, 1), whole(5)), blockOf(whole(1), whole(1), down(1, 0), whole(5))
	wantBlock(t, "the first block", exchanged(t, b, l), blockOf(whole(0), whole(0), whole(0), whole(4)))
	wantBlock(t, "the other block", exchanged(t, d, l), blockOf(whole(0), whole(0), whole(0), whole(4)))
	wantList(t, "UndoList of a list that loses a color", impl.UndoList(l), nil)
}

func TestExchangesMoveTheAreas(t *testing.T) {
	for _, b := range exchangeBlocks() {
		for _, l := range append(fewExchanges(), losingLists()...) {
			want := make([]int, 6)
			for a, area := range impl.AreaTable(b) {
				want[l[a]] += area
			}
			wantList(t, "the areas of an exchanged block", impl.AreaTable(exchanged(t, b, l)), want)
		}
	}
}

func TestExchangesAndViews(t *testing.T) {
	for _, b := range exchangeBlocks() {
		for _, l := range append(fewExchanges(), losingLists()...) {
			for k := range 8 {
				wantBlock(t, "view "+impl.FormatInt(k), exchanged(t, impl.SeenFrom(b, k), l), impl.SeenFrom(exchanged(t, b, l), k))
			}
		}
	}
}

func TestOneListAfterAnother(t *testing.T) {
	lists := append(fewExchanges(), losingLists()...)
	for _, b := range exchangeBlocks() {
		for _, l := range lists {
			for _, m := range lists {
				var both []int
				for _, a := range l {
					both = append(both, m[a])
				}
				wantBlock(t, "one list after another", exchanged(t, exchanged(t, b, l), m), exchanged(t, b, both))
			}
		}
	}
}

// wantNotExchanged checks that ExchangeBlock returns the block unchanged and false.
func wantNotExchanged(t *testing.T, b impl.Block, l []int) {
	t.Helper()
	got, ok := impl.ExchangeBlock(b, l)
	if ok || !equalBlocks(got, b) {
		t.Errorf("ExchangeBlock(%v, %v) = %v, %v, want the block unchanged and false", b, l, got, ok)
	}
}

func TestExchangeOfInvalidBlocks(t *testing.T) {
	lists := slices.Concat(fewExchanges(), losingLists(), badLists())
	for _, b := range invalidBlocks() {
		for _, l := range lists {
			wantNotExchanged(t, b, l)
		}
	}
}

func TestExchangeOfBlocksByInvalidLists(t *testing.T) {
	for _, b := range append(validBlocks(), exchangeBlocks()...) {
		for _, l := range badLists() {
			wantNotExchanged(t, b, l)
		}
	}
}

func TestOneBadCellIsNotExchanged(t *testing.T) {
	for size := 1; size <= 4; size++ {
		for i := range size * size {
			for _, bad := range badCells() {
				b := mixedBlock(size, 9)
				b.Cells[i] = bad
				wantNotExchanged(t, b, []int{5, 4, 3, 2, 1, 0})
				wantList(t, "FirstUse of a block with a bad cell", impl.FirstUse(b), nil)
			}
		}
	}
}

func TestSwapListByHand(t *testing.T) {
	cases := []struct {
		a, b int
		want []int
	}{
		{0, 5, []int{5, 1, 2, 3, 4, 0}},
		{5, 0, []int{5, 1, 2, 3, 4, 0}},
		{0, 2, []int{2, 1, 0, 3, 4, 5}},
		{4, 1, []int{0, 4, 2, 3, 1, 5}},
		{4, 5, []int{0, 1, 2, 3, 5, 4}},
		{0, 0, []int{0, 1, 2, 3, 4, 5}},
		{3, 3, []int{0, 1, 2, 3, 4, 5}},
		{5, 5, []int{0, 1, 2, 3, 4, 5}},
	}
	for _, c := range cases {
		wantList(t, "SwapList of "+impl.FormatInt(c.a)+" and "+impl.FormatInt(c.b), impl.SwapList(c.a, c.b), c.want)
	}
}

func TestSwapListOfAllNumbers(t *testing.T) {
	for _, a := range oddInts() {
		for _, b := range oddInts() {
			got := impl.SwapList(a, b)
			if a < 0 || a > 5 || b < 0 || b > 5 {
				wantList(t, "SwapList of "+impl.FormatInt(a)+" and "+impl.FormatInt(b), got, nil)
				continue
			}
			if !impl.IsExchange(got) {
				t.Errorf("SwapList(%d, %d) = %v, want an exchange", a, b, got)
				continue
			}
			for color, by := range got {
				want := color
				switch color {
				case a:
					want = b
				case b:
					want = a
				}
				if by != want {
					t.Errorf("SwapList(%d, %d) replaces %d by %d, want %d", a, b, color, by, want)
				}
			}
			wantList(t, "the undoing of a swap", impl.UndoList(got), got)
		}
	}
}

func TestUndoListByHand(t *testing.T) {
	cases := []struct{ l, want []int }{
		{[]int{0, 1, 2, 3, 4, 5}, []int{0, 1, 2, 3, 4, 5}},
		{[]int{5, 1, 2, 3, 4, 0}, []int{5, 1, 2, 3, 4, 0}},
		{[]int{5, 4, 3, 2, 1, 0}, []int{5, 4, 3, 2, 1, 0}},
		// These are not their own undoing.
		{[]int{1, 2, 0, 3, 4, 5}, []int{2, 0, 1, 3, 4, 5}},
		{[]int{2, 0, 1, 3, 4, 5}, []int{1, 2, 0, 3, 4, 5}},
		{[]int{1, 2, 3, 4, 5, 0}, []int{5, 0, 1, 2, 3, 4}},
		{[]int{3, 5, 1, 0, 2, 4}, []int{3, 2, 4, 0, 5, 1}},
	}
	for _, c := range cases {
		wantList(t, "UndoList", impl.UndoList(c.l), c.want)
	}
}

func TestUndoListOfAllExchanges(t *testing.T) {
	for _, l := range allExchanges() {
		undo := impl.UndoList(l)
		if !impl.IsExchange(undo) {
			t.Errorf("UndoList(%v) = %v, want an exchange", l, undo)
			continue
		}
		for a := range 6 {
			if undo[l[a]] != a || l[undo[a]] != a {
				t.Errorf("UndoList(%v) = %v does not bring back the color %d", l, undo, a)
			}
		}
		wantList(t, "undone twice", impl.UndoList(undo), l)
	}
}

func TestUndoListOfNoExchange(t *testing.T) {
	for _, l := range append(allLists(), badLists()...) {
		if got := impl.UndoList(l); !isExchange(l) && len(got) != 0 {
			t.Errorf("UndoList(%v) = %v, want nil", l, got)
		}
	}
	for _, l := range append(losingLists(), badLists()...) {
		wantList(t, "UndoList of a list that is no exchange", impl.UndoList(l), nil)
	}
}

type firstUseCase struct {
	name string
	b    impl.Block
	want []int
}

// firstUseCases are blocks of each Size.
func firstUseCases() []firstUseCase {
	w := whole
	return []firstUseCase{
		{"the first color", blockOf(w(0)), []int{0, 1, 2, 3, 4, 5}},
		{"one color", blockOf(w(3)), []int{1, 2, 3, 0, 4, 5}},
		{"the last color", blockOf(w(5)), []int{1, 2, 3, 4, 5, 0}},
		{"one color in many cells", oneColor(4, 1), []int{1, 0, 2, 3, 4, 5}},
		{"A before B, with a diagonal up", blockOf(up(4, 1)), []int{2, 1, 3, 4, 0, 5}},
		{"A before B, with a diagonal down", blockOf(down(4, 1)), []int{2, 1, 3, 4, 0, 5}},
		{"A before B, also if it is less", blockOf(down(1, 4)), []int{2, 0, 3, 4, 1, 5}},
		{"A is new and B was used", blockOf(w(2), up(5, 2), w(2), w(2)), []int{2, 3, 0, 4, 5, 1}},
		{"A was used and B is new", blockOf(w(2), up(2, 5), w(2), w(2)), []int{2, 3, 0, 4, 5, 1}},
		{"B was used, and a new color follows", blockOf(up(3, 0), down(5, 3), w(4), w(0)), []int{1, 4, 5, 0, 3, 2}},
		{"row by row", blockOf(w(4), w(0), w(2), w(5)), []int{1, 4, 2, 5, 0, 3}},
		{"the star", impl.StarBlock(), []int{0, 1, 2, 3, 4, 5}},
		{
			"all colors in nine cells", blockOf(w(5), w(5), up(4, 5), w(4), down(3, 4), w(2), w(2), up(0, 3), w(1)),
			[]int{4, 5, 3, 2, 1, 0},
		},
		{"all colors in triangles", blockOf(up(2, 4), down(0, 2), up(5, 1), down(3, 0)), []int{2, 4, 0, 5, 1, 3}},
		{
			"the last of sixteen cells is new",
			blockOf(w(3), w(3), w(3), w(3), w(3), w(3), w(3), w(3), w(3), w(3), w(3), w(3), w(3), w(3), w(3), down(5, 1)),
			[]int{3, 2, 4, 0, 5, 1},
		},
	}
}

// firstUseByPlaces finds the list in another way than the program: the number of a color is how many colors come before it.
func firstUseByPlaces(b impl.Block) []int {
	// A color that is not used comes after all cells.
	places := [6]int{100, 101, 102, 103, 104, 105}
	for i, c := range b.Cells {
		places[c.A] = min(places[c.A], 2*i)
		places[c.B] = min(places[c.B], 2*i+1)
	}
	list := make([]int, 6)
	for a := range list {
		for _, place := range places {
			if place < places[a] {
				list[a]++
			}
		}
	}
	return list
}

func TestFirstUseByHand(t *testing.T) {
	for _, c := range firstUseCases() {
		wantList(t, c.name, impl.FirstUse(c.b), c.want)
	}
}

func TestFirstUseOfAllBlocks(t *testing.T) {
	for _, b := range turnBlocks() {
		got := impl.FirstUse(b)
		if !impl.IsExchange(got) {
			t.Errorf("FirstUse(%v) = %v, want an exchange", b, got)
		}
		if want := firstUseByPlaces(b); !slices.Equal(got, want) {
			t.Errorf("FirstUse(%v) = %v, want %v", b, got, want)
		}
	}
}

func TestFirstUseHasItsOwnOrder(t *testing.T) {
	for _, b := range turnBlocks() {
		ordered := exchanged(t, b, impl.FirstUse(b))
		wantList(t, "FirstUse after the exchange", impl.FirstUse(ordered), []int{0, 1, 2, 3, 4, 5})
		var want []int
		for a := range impl.ColorsOf(b) {
			want = append(want, a)
		}
		wantList(t, "the colors after the exchange", impl.ColorsOf(ordered), want)
		wantBlock(t, "the exchange undone", exchanged(t, ordered, impl.UndoList(impl.FirstUse(b))), b)
	}
}

func TestFirstUseIsTheSameInAllCloths(t *testing.T) {
	for _, b := range exchangeBlocks() {
		want := exchanged(t, b, impl.FirstUse(b))
		for _, l := range allExchanges() {
			d := exchanged(t, b, l)
			wantBlock(t, "in other cloth", exchanged(t, d, impl.FirstUse(d)), want)
		}
	}
}

func TestFirstUseOfInvalidBlocks(t *testing.T) {
	for _, b := range invalidBlocks() {
		wantList(t, "FirstUse of an invalid block", impl.FirstUse(b), nil)
	}
}

// roomyList returns a copy of l that lies in the middle of a longer slice, and this slice.
func roomyList(l []int) ([]int, []int) {
	room := make([]int, 2+len(l)+20)
	for i := range room {
		room[i] = 70 + i
	}
	copy(room[2:], l)
	return room[2 : 2+len(l)], room
}

// wipeList writes into the list and into the spare capacity behind it.
func wipeList(l []int) {
	for i := range l[:cap(l)] {
		l[:cap(l)][i] = 99
	}
}

func TestExchangeArgumentsStay(t *testing.T) {
	blocks := append(exchangeBlocks(), invalidBlocks()...)
	for _, l := range slices.Concat(fewExchanges(), losingLists(), badLists()) {
		m, room := roomyList(l)
		old := slices.Clone(room)
		impl.ListOk(m)
		impl.IsExchange(m)
		impl.UndoList(m)
		impl.ExchangeCell(up(0, 1), m)
		impl.ExchangeCell(impl.Cell{Split: 3}, m)
		for _, b := range blocks {
			d, cells := roomyBlock(b)
			oldCells := slices.Clone(cells)
			impl.ExchangeBlock(d, m)
			impl.FirstUse(d)
			if !slices.Equal(cells, oldCells) {
				t.Fatalf("the cells %v or their neighbours were changed: %v", oldCells, cells)
			}
		}
		wantList(t, "the list and its neighbours after all calls", room, old)
	}
}

func TestExchangedBlocksShareNoMemory(t *testing.T) {
	for _, b := range append(exchangeBlocks(), invalidBlocks()...) {
		// The first list keeps all colors, and with the last one the block is returned unchanged and false.
		for _, l := range [][]int{{0, 1, 2, 3, 4, 5}, {5, 4, 3, 2, 1, 0}, {0, 0, 0, 0, 0, 0}, {0}} {
			d, cells := roomyBlock(b)
			old := slices.Clone(cells)
			want, wantOk := impl.ExchangeBlock(copyOf(b), l)
			got, _ := impl.ExchangeBlock(d, l)
			wipe(got.Cells)
			if !slices.Equal(cells, old) {
				t.Fatalf("the result of ExchangeBlock(%v, %v) shares the cells of the argument", b, l)
			}
			// Nor is a result kept for the next call.
			again, ok := impl.ExchangeBlock(d, l)
			wipe(d.Cells)
			if ok != wantOk || !equalBlocks(again, want) {
				t.Errorf("ExchangeBlock(%v, %v) = %v, %v after other blocks were changed, want %v, %v", b, l, again, ok, want, wantOk)
			}
		}
	}
}

func TestUndoListsShareNoMemory(t *testing.T) {
	for _, l := range allExchanges() {
		m, room := roomyList(l)
		old := slices.Clone(room)
		want := slices.Clone(impl.UndoList(l))
		wipeList(impl.UndoList(m))
		wantList(t, "the argument after a change of the result", room, old)
		again := impl.UndoList(m)
		wipeList(m)
		wantList(t, "UndoList after other lists were changed", again, want)
	}
}

func TestListsAreNew(t *testing.T) {
	for a := range 6 {
		for b := range 6 {
			want := slices.Clone(impl.SwapList(a, b))
			wipeList(impl.SwapList(a, b))
			wantList(t, "SwapList after another list was changed", impl.SwapList(a, b), want)
		}
	}
	for _, b := range exchangeBlocks() {
		d := copyOf(b)
		wipeList(impl.FirstUse(d))
		wantBlock(t, "the block after a change of its FirstUse", d, b)
		again := impl.FirstUse(d)
		wipe(d.Cells)
		wantList(t, "FirstUse after another list was changed", again, firstUseByPlaces(b))
	}
}
