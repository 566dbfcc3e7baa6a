package tests

import (
	"slices"
	"testing"

	"loop.example/g03304/impl"
)

// Promise 7: a block is the same from all sides, and the same pattern in all cloths.

// textByHand writes the cells once more, without the functions that are tested.
func textByHand(b impl.Block) string {
	var text []byte
	for _, c := range b.Cells {
		text = append(text, "012345"[c.A])
		if c.Split != 0 {
			text = append(text, " /\\"[c.Split], "012345"[c.B])
		}
		text = append(text, ';')
	}
	return string(text)
}

// leastOf returns the block with the least text.
func leastOf(blocks []impl.Block) impl.Block {
	least := blocks[0]
	for _, b := range blocks {
		if textByHand(b) < textByHand(least) {
			least = b
		}
	}
	return least
}

// viewsOf are the eight views of a block, in its own colors.
func viewsOf(b impl.Block) []impl.Block {
	var views []impl.Block
	for k := range 8 {
		views = append(views, impl.SeenFrom(b, k))
	}
	return views
}

// orderedViewsOf are the eight views of a block, each in the colors of its own first use.
func orderedViewsOf(b impl.Block) []impl.Block {
	var views []impl.Block
	for _, d := range viewsOf(b) {
		views = append(views, exchangedBlock(d, firstUseByPlaces(d)))
	}
	return views
}

// isOneOf reports whether one of the blocks is b.
func isOneOf(blocks []impl.Block, b impl.Block) bool {
	return slices.ContainsFunc(blocks, func(d impl.Block) bool { return equalBlocks(d, b) })
}

// patternIsSeen tries whether some exchange makes one of the views of b to d.
func patternIsSeen(b impl.Block, d impl.Block, exchanges [][]int) bool {
	views := viewsOf(b)
	for _, l := range exchanges {
		if isOneOf(views, exchangedBlock(d, l)) {
			return true
		}
	}
	return false
}

// sameCase is a block with what the chapter says of it, written by hand. The form and the pattern are texts.
type sameCase struct {
	name, text, form, pattern string
	b                         impl.Block
	forms                     int
}

// smallSameCases are blocks of the Size 1 and 2.
func smallSameCases() []sameCase {
	w := whole
	return []sameCase{
		{"the zero Cell", "0;", "0;", "0;", blockOf(w(0)), 1},
		{"a whole cell", "5;", "5;", "0;", blockOf(w(5)), 1},
		{"a diagonal up", "2/5;", "2/5;", "0/1;", blockOf(up(2, 5)), 4},
		{"a diagonal up, with the greater color first", "5/2;", "2/5;", "0/1;", blockOf(up(5, 2)), 4},
		{"a diagonal down", `4\1;`, "1/4;", "0/1;", blockOf(down(4, 1)), 4},
		{"a plain block", "3;3;3;3;", "3;3;3;3;", "0;0;0;0;", oneColor(2, 3), 1},
		{"a checkerboard", "4;1;1;4;", "1;4;4;1;", "0;1;1;0;", blockOf(w(4), w(1), w(1), w(4)), 2},
		{"a pinwheel", `0\1;0/1;1/0;1\0;`, `0\1;0/1;1/0;1\0;`, `0\1;0/1;1/0;1\0;`, blockOf(down(0, 1), up(0, 1), up(1, 0), down(1, 0)), 2},
		{"two rows", "5;5;2;2;", "2;2;5;5;", "0;0;1;1;", blockOf(w(5), w(5), w(2), w(2)), 4},
		{"two columns", "5;2;5;2;", "2;2;5;5;", "0;0;1;1;", blockOf(w(5), w(2), w(5), w(2)), 4},
		{"one corner, of a greater color", "0;3;0;0;", "0;0;0;3;", "0;0;0;1;", blockOf(w(0), w(3), w(0), w(0)), 4},
		{"one corner, of a less color", "4;3;4;4;", "3;4;4;4;", "0;0;0;1;", blockOf(w(4), w(3), w(4), w(4)), 4},
		{"the same after a half turn", "0;2/3;3/2;0;", "0;2/3;3/2;0;", "0;1/2;2/1;0;", blockOf(w(0), up(2, 3), up(3, 2), w(0)), 4},
		{"four colors", "3;2;1;0;", "0;1;2;3;", "0;1;2;3;", blockOf(w(3), w(2), w(1), w(0)), 8},
		{"three colors", "3;3;1;0;", "0;1;3;3;", "0;0;1;2;", blockOf(w(3), w(3), w(1), w(0)), 8},
		{"one cell of triangles", "0/1;2;1;1;", "0/1;1;2;1;", "0/1;1;2;1;", blockOf(up(0, 1), w(2), w(1), w(1)), 8},
		{"a block in its least form", "0/1;2;3;4;", "0/1;2;3;4;", "0/1;2;3;4;", cornerBlock(), 8},
		// The slash is less than the semicolon, and the backslash is greater.
		{"a slash before the semicolon", "0;0;0;1/0;", "0/1;0;0;0;", "0/1;0;0;0;", blockOf(w(0), w(0), w(0), up(1, 0)), 4},
		{"the semicolon before a backslash", `0\1;0;0;0;`, "0;0/1;0;0;", "0;0/1;0;0;", blockOf(down(0, 1), w(0), w(0), w(0)), 8},
		{"a color before the diagonal", "1;0/1;1;1;", `0\1;1;1;1;`, "0;0/1;0;0;", blockOf(w(1), up(0, 1), w(1), w(1)), 8},
	}
}

// largeSameCases are blocks of the Size 3 and 4.
func largeSameCases() []sameCase {
	w := whole
	dots := oneColor(4, 5)
	dots.Cells[1], dots.Cells[15] = up(0, 5), w(2)
	wheel := oneColor(4, 3)
	for _, i := range []int{1, 7, 8, 14} {
		wheel.Cells[i] = w(2)
	}
	return []sameCase{
		{
			"the star", `0/1;1;1\0;1;1;1;0\1;1;1/0;`, `0/1;1;1\0;1;1;1;0\1;1;1/0;`, `0/1;1;1\0;1;1;1;0\1;1;1/0;`,
			impl.StarBlock(), 1,
		},
		{
			"three rows", "1;1;1;4;4;4;1;1;1;", "1;1;1;4;4;4;1;1;1;", "0;0;0;1;1;1;0;0;0;",
			blockOf(w(1), w(1), w(1), w(4), w(4), w(4), w(1), w(1), w(1)), 2,
		},
		{
			"a dot beside the middle", "4;4;4;4;4;2;4;4;4;", "4;2;4;4;4;4;4;4;4;", "0;0;0;0;0;0;0;1;0;",
			blockOf(w(4), w(4), w(4), w(4), w(4), w(2), w(4), w(4), w(4)), 4,
		},
		{
			"all colors in nine cells", `0;1/2;3;4;5;0\1;2\3;1;4/5;`, `0;1/2;3;4;5;0\1;2\3;1;4/5;`, `0/1;2;3;4;5;0\4;5\2;3/4;1;`,
			blockOf(w(0), up(1, 2), w(3), w(4), w(5), down(0, 1), down(2, 3), w(1), up(4, 5)), 8,
		},
		{
			"a plain block of sixteen cells", "5;5;5;5;5;5;5;5;5;5;5;5;5;5;5;5;", "5;5;5;5;5;5;5;5;5;5;5;5;5;5;5;5;", "0;0;0;0;0;0;0;0;0;0;0;0;0;0;0;0;",
			oneColor(4, 5), 1,
		},
		{
			"a wheel", "3;2;3;3;3;3;3;2;2;3;3;3;3;3;2;3;", "3;2;3;3;3;3;3;2;2;3;3;3;3;3;2;3;", "0;0;1;0;1;0;0;0;0;0;0;1;0;1;0;0;",
			wheel, 2,
		},
		{
			"two dots", "5;0/5;5;5;5;5;5;5;5;5;5;5;5;5;5;2;", "2;5;5;5;5;5;5;5;5;5;5;5/0;5;5;5;5;", `0;0;0;0;0;0;0;0\1;0;0;0;0;2;0;0;0;`,
			dots, 8,
		},
	}
}

func sameCases() []sameCase {
	return append(smallSameCases(), largeSameCases()...)
}

// sameBlocks are valid blocks of each Size, fewer than turnBlocks.
func sameBlocks() []impl.Block {
	blocks := exchangeBlocks()
	for _, c := range sameCases() {
		blocks = append(blocks, c.b)
	}
	return blocks
}

func TestSamenessByHand(t *testing.T) {
	for _, c := range sameCases() {
		if got := impl.TextOf(c.b); got != c.text {
			t.Errorf("%s: TextOf is %q, want %q", c.name, got, c.text)
		}
		if got := impl.LeastForm(c.b); textByHand(got) != c.form || got.Size != c.b.Size {
			t.Errorf("%s: LeastForm is %v, want %q", c.name, got, c.form)
		}
		if got := impl.LeastPattern(c.b); textByHand(got) != c.pattern || got.Size != c.b.Size {
			t.Errorf("%s: LeastPattern is %v, want %q", c.name, got, c.pattern)
		}
		if got := impl.CountForms(c.b); got != c.forms {
			t.Errorf("%s: CountForms is %d, want %d", c.name, got, c.forms)
		}
	}
}

func TestTextOfAllBlocks(t *testing.T) {
	texts := map[string]impl.Block{}
	for _, b := range turnBlocks() {
		got := impl.TextOf(b)
		if want := textByHand(b); got != want {
			t.Errorf("TextOf(%v) = %q, want %q", b, got, want)
		}
		if d, ok := texts[got]; ok && !equalBlocks(b, d) {
			t.Errorf("%v and %v have the text %q", b, d, got)
		}
		texts[got] = b
	}
}

func TestTextOfAllCells(t *testing.T) {
	for _, c := range validCells() {
		if got, want := impl.TextOf(blockOf(c)), impl.CellText(c)+";"; got != want {
			t.Errorf("TextOf of the cell %v = %q, want %q", c, got, want)
		}
	}
}

func TestLeastOfAllBlocks(t *testing.T) {
	for _, b := range turnBlocks() {
		wantBlock(t, "the least form of "+textByHand(b), impl.LeastForm(b), leastOf(viewsOf(b)))
		wantBlock(t, "the least pattern of "+textByHand(b), impl.LeastPattern(b), leastOf(orderedViewsOf(b)))
	}
}

func TestLeastPatternHasTheLeastTextOfAllExchanges(t *testing.T) {
	exchanges := allExchanges()
	for _, b := range sameBlocks() {
		var shown []impl.Block
		for _, d := range viewsOf(b) {
			for _, l := range exchanges {
				shown = append(shown, exchangedBlock(d, l))
			}
		}
		wantBlock(t, "the least pattern of "+textByHand(b), impl.LeastPattern(b), leastOf(shown))
	}
}

func TestLeastBlocksAreTheirOwn(t *testing.T) {
	for _, b := range turnBlocks() {
		form, pattern := impl.LeastForm(b), impl.LeastPattern(b)
		if !isOneOf(viewsOf(b), form) || !isOneOf(orderedViewsOf(b), pattern) {
			t.Errorf("%v has the least form %v and the least pattern %v", b, form, pattern)
		}
		wantBlock(t, "the least form of a least form", impl.LeastForm(form), form)
		wantBlock(t, "the least pattern of a least pattern", impl.LeastPattern(pattern), pattern)
		wantBlock(t, "the least pattern of a least form", impl.LeastPattern(form), pattern)
		wantList(t, "the first use of a least pattern", impl.FirstUse(pattern), []int{0, 1, 2, 3, 4, 5})
		if n := impl.CountTriangles(b); impl.CountTriangles(form) != n || impl.CountTriangles(pattern) != n {
			t.Errorf("%v has other cells of one color than %v or %v", b, form, pattern)
		}
	}
}

// wantSameFrom checks that the block, seen from the side k, is the same in all that the chapter says.
func wantSameFrom(t *testing.T, b impl.Block, k int) {
	t.Helper()
	d := impl.SeenFrom(b, k)
	wantBlock(t, "the least form from another side", impl.LeastForm(d), impl.LeastForm(b))
	wantBlock(t, "the least pattern from another side", impl.LeastPattern(d), impl.LeastPattern(b))
	wantSame(t, b, d, true, true)
	if got, want := impl.CountForms(d), impl.CountForms(b); got != want {
		t.Errorf("%v has %d forms, but %d seen from %d", b, want, got, k)
	}
}

func TestTheSameFromAllSides(t *testing.T) {
	for i, b := range turnBlocks() {
		wantSameFrom(t, b, i%8)
	}
	for _, b := range append(sameBlocks(), validBlocks()...) {
		for k := range 8 {
			wantSameFrom(t, b, k)
		}
	}
}

// wantSame checks both answers, in both orders of the blocks.
func wantSame(t *testing.T, b impl.Block, d impl.Block, same bool, patternsSame bool) {
	t.Helper()
	if impl.AreSame(b, d) != same || impl.AreSame(d, b) != same {
		t.Errorf("AreSame of %v and %v, in both orders: %v, %v, want %v", b, d, impl.AreSame(b, d), impl.AreSame(d, b), same)
	}
	if impl.ArePatternsSame(b, d) != patternsSame || impl.ArePatternsSame(d, b) != patternsSame {
		t.Errorf("ArePatternsSame of %v and %v, in both orders: %v, %v, want %v", b, d, impl.ArePatternsSame(b, d), impl.ArePatternsSame(d, b), patternsSame)
	}
}

// wantInOtherCloth checks that a block in other cloth, seen from the side k, has the same pattern and as many forms.
func wantInOtherCloth(t *testing.T, b impl.Block, l []int, k int) {
	t.Helper()
	d := impl.SeenFrom(exchangedBlock(b, l), k)
	wantBlock(t, "the least pattern of "+textByHand(d), impl.LeastPattern(d), impl.LeastPattern(b))
	wantSame(t, b, d, isOneOf(viewsOf(b), d), true)
	if got, want := impl.CountForms(d), impl.CountForms(b); got != want {
		t.Errorf("%v has %d forms, but %v has %d", b, want, d, got)
	}
}

func TestTheSamePatternInAllCloths(t *testing.T) {
	for i, b := range turnBlocks() {
		lists := fewExchanges()
		wantInOtherCloth(t, b, lists[i%len(lists)], i%8)
	}
	exchanges := allExchanges()
	for _, b := range sameBlocks() {
		pattern := impl.LeastPattern(b)
		for _, l := range exchanges {
			wantBlock(t, "the least pattern in other cloth", impl.LeastPattern(exchangedBlock(b, l)), pattern)
		}
		for _, l := range fewExchanges() {
			for k := range 8 {
				wantInOtherCloth(t, b, l, k)
			}
		}
	}
}

func TestPairsOfBlocks(t *testing.T) {
	blocks := sameBlocks()
	for _, c := range sameCases() {
		blocks = append(blocks, impl.SeenFrom(exchangedBlock(c.b, []int{3, 5, 1, 0, 2, 4}), 3))
	}
	exchanges := allExchanges()
	for i, b := range blocks {
		for _, d := range blocks[i:] {
			seen := b.Size == d.Size && patternIsSeen(b, d, exchanges)
			wantSame(t, b, d, isOneOf(viewsOf(b), d), seen)
		}
	}
}

func TestSameByHand(t *testing.T) {
	w := whole
	cases := []struct {
		name               string
		b, d               impl.Block
		same, patternsSame bool
	}{
		{"the same block", cornerBlock(), cornerBlock(), true, true},
		{"its turn", cornerBlock(), impl.TurnBlock(cornerBlock()), true, true},
		{"its mirror", cornerBlock(), impl.MirrorBlock(cornerBlock()), true, true},
		{"the same cells in another order", cornerBlock(), blockOf(up(0, 1), w(4), w(3), w(2)), false, true},
		{"the other diagonal in a corner", cornerBlock(), blockOf(down(0, 1), w(2), w(3), w(4)), false, false},
		{"one cell of each color", blockOf(w(0)), blockOf(w(5)), false, true},
		{"one cell, another diagonal", blockOf(up(0, 1)), blockOf(down(0, 1)), true, true},
		{"one cell, the other color first", blockOf(up(0, 1)), blockOf(up(1, 0)), true, true},
		{"one cell, other colors", blockOf(up(0, 1)), blockOf(down(4, 2)), false, true},
		{"a whole cell and two triangles", blockOf(w(0)), blockOf(up(0, 1)), false, false},
		{"the same pattern from the same side", blockOf(w(0), w(1), w(2), w(2)), blockOf(w(5), w(3), w(4), w(4)), false, true},
		{"the same pattern from another side only", blockOf(w(0), w(0), w(1), w(2)), blockOf(w(3), w(4), w(5), w(5)), false, true},
		{"neighbours, and not", blockOf(w(0), w(0), w(1), w(2)), blockOf(w(0), w(1), w(2), w(0)), false, false},
		{"two colors that become one", blockOf(w(0), w(1), w(2), w(2)), blockOf(w(0), w(0), w(2), w(2)), false, false},
		{"pinwheels to the left and to the right, with the colors exchanged", blockOf(down(0, 1), up(0, 1), up(1, 0), down(1, 0)), blockOf(down(1, 0), up(1, 0), up(0, 1), down(0, 1)), true, true},
		{"a pinwheel and four corners", blockOf(down(0, 1), up(0, 1), up(1, 0), down(1, 0)), blockOf(up(0, 1), down(1, 0), down(0, 1), up(1, 0)), false, false},
		{"stars in two cloths", impl.StarBlock(), exchangedBlock(impl.StarBlock(), []int{1, 0, 2, 3, 4, 5}), false, true},
		{"stars, one with another middle", impl.StarBlock(), blockOf(up(0, 1), w(1), down(1, 0), w(1), w(0), w(1), down(0, 1), w(1), up(1, 0)), false, false},
		{"plain blocks of one Size", oneColor(4, 1), oneColor(4, 5), false, true},
	}
	for _, c := range cases {
		t.Log(c.name)
		wantSame(t, c.b, c.d, c.same, c.patternsSame)
	}
}

func TestOnlyAnotherSideShowsThePattern(t *testing.T) {
	b, d := blockOf(whole(0), whole(0), whole(1), whole(2)), blockOf(whole(3), whole(4), whole(5), whole(5))
	for _, l := range allExchanges() {
		if equalBlocks(exchangedBlock(b, l), d) {
			t.Errorf("%v makes %v of %v from the same side", l, d, b)
		}
	}
	wantSame(t, b, d, false, true)
}

func TestLeastFormsInOtherClothAreNotLeastPatterns(t *testing.T) {
	// The form puts the dot first, because its color is less. In the pattern the color that is used first is the least.
	b := oneColor(3, 4)
	b.Cells[5] = whole(2)
	form := impl.LeastForm(b)
	if equalBlocks(exchangedBlock(form, firstUseByPlaces(form)), impl.LeastPattern(b)) {
		t.Errorf("the least pattern of %v is its least form in other cloth", b)
	}
}

func TestBlocksOfDifferentSizes(t *testing.T) {
	// The text of each block begins with those of the ones before it.
	chains := [][]impl.Block{
		{oneColor(1, 0), oneColor(2, 0), oneColor(3, 0), oneColor(4, 0)},
		{oneColor(1, 5), oneColor(2, 5), oneColor(3, 5), oneColor(4, 5)},
	}
	var mixed []impl.Block
	for size := 1; size <= 4; size++ {
		mixed = append(mixed, trianglesOnly(size))
	}
	for _, chain := range append(chains, mixed) {
		for i, b := range chain {
			for _, d := range chain[:i] {
				if text := impl.TextOf(b); text[:len(impl.TextOf(d))] != impl.TextOf(d) {
					t.Errorf("%q does not begin with %q", text, impl.TextOf(d))
				}
				wantSame(t, b, d, false, false)
			}
		}
	}
	for _, b := range sameBlocks() {
		for _, d := range sameBlocks() {
			if b.Size != d.Size {
				wantSame(t, b, d, false, false)
			}
		}
	}
}

func TestCountFormsOfAllBlocks(t *testing.T) {
	for _, b := range turnBlocks() {
		var different []impl.Block
		for _, d := range viewsOf(b) {
			if !isOneOf(different, d) {
				different = append(different, d)
			}
		}
		if got := impl.CountForms(b); got != len(different) {
			t.Errorf("CountForms(%v) = %d, want %d", b, got, len(different))
		}
	}
	for _, b := range roundBlocks() {
		if got := impl.CountForms(b); got != 1 {
			t.Errorf("CountForms(%v) = %d, want 1: it is the same from all sides", b, got)
		}
	}
}

// blocksOfFour are all blocks of Size 2 that are made of the kinds of cells.
func blocksOfFour(kinds []impl.Cell) []impl.Block {
	var blocks []impl.Block
	for _, a := range kinds {
		for _, b := range kinds {
			for _, c := range kinds {
				for _, d := range kinds {
					blocks = append(blocks, blockOf(a, b, c, d))
				}
			}
		}
	}
	return blocks
}

func TestNumbersOfFormsAndPatterns(t *testing.T) {
	var cells []impl.Block
	for _, c := range validCells() {
		cells = append(cells, blockOf(c))
	}
	wholes := []impl.Cell{whole(0), whole(1), whole(2), whole(3), whole(4), whole(5)}
	two := []impl.Cell{whole(0), whole(1), up(0, 1), up(1, 0), down(0, 1), down(1, 0)}
	cases := []struct {
		name            string
		blocks          []impl.Block
		forms, patterns int
	}{
		// Six whole cells, and one cell for each two colors.
		{"one cell", cells, 21, 2},
		// The means of how many of the 1296 blocks each view keeps, and each view together with each exchange.
		{"four whole cells of six colors", blocksOfFour(wholes), (1296 + 6 + 36 + 6 + 36 + 36 + 216 + 216) / 8, 7},
		{"four cells of two colors", blocksOfFour(two), (1296 + 6 + 36 + 6 + 36 + 36 + 96 + 96) / 8, (1608 + 0 + 6 + 36 + 6 + 36 + 36 + 24 + 24) / 16},
	}
	for _, c := range cases {
		forms, patterns := map[string]int{}, map[string]bool{}
		for _, b := range c.blocks {
			forms[impl.TextOf(impl.LeastForm(b))]++
			patterns[impl.TextOf(impl.LeastPattern(b))] = true
		}
		if len(forms) != c.forms || len(patterns) != c.patterns {
			t.Errorf("%s: %d forms and %d patterns, want %d and %d", c.name, len(forms), len(patterns), c.forms, c.patterns)
		}
		for _, b := range c.blocks {
			if got, want := impl.CountForms(b), forms[impl.TextOf(impl.LeastForm(b))]; got != want {
				t.Errorf("CountForms(%v) = %d, but %d blocks have its least form", b, got, want)
			}
		}
	}
}

func TestSamenessOfInvalidBlocks(t *testing.T) {
	for _, b := range invalidBlocks() {
		if got := impl.TextOf(b); got != "" {
			t.Errorf("TextOf(%v) = %q, want nothing", b, got)
		}
		if got := impl.CountForms(b); got != 0 {
			t.Errorf("CountForms(%v) = %d, want 0", b, got)
		}
		wantZeroBlock(t, "LeastForm", impl.LeastForm(b))
		wantZeroBlock(t, "LeastPattern", impl.LeastPattern(b))
	}
}

func TestInvalidBlocksAreNotTheSame(t *testing.T) {
	blocks := invalidBlocks()
	for i, b := range blocks {
		// The same block, an equal one, the zero Block, another invalid one, and valid ones that have some of its cells.
		others := []impl.Block{b, copyOf(b), {}, blocks[(i+1)%len(blocks)], impl.StarBlock()}
		for size := 1; size <= 4; size++ {
			others = append(others, oneColor(size, 0), mixedBlock(size, 5))
		}
		for _, d := range others {
			wantSame(t, b, d, false, false)
		}
	}
}

func TestOneBadCellIsNotTheSame(t *testing.T) {
	for size := 1; size <= 4; size++ {
		for i := range size * size {
			for _, bad := range badCells() {
				b := oneColor(size, 1)
				b.Cells[i] = bad
				if impl.TextOf(b) != "" || impl.CountForms(b) != 0 {
					t.Errorf("%v has the text %q and %d forms", b, impl.TextOf(b), impl.CountForms(b))
				}
				wantZeroBlock(t, "LeastForm", impl.LeastForm(b))
				wantZeroBlock(t, "LeastPattern", impl.LeastPattern(b))
				wantSame(t, b, b, false, false)
				wantSame(t, b, oneColor(size, 1), false, false)
			}
		}
	}
}

// callSameness calls each function of the chapter and returns the blocks that are results.
func callSameness(b impl.Block) []impl.Block {
	impl.TextOf(b)
	impl.CountForms(b)
	impl.AreSame(b, b)
	impl.ArePatternsSame(b, b)
	impl.AreSame(b, impl.StarBlock())
	impl.ArePatternsSame(impl.StarBlock(), b)
	return []impl.Block{impl.LeastForm(b), impl.LeastPattern(b)}
}

func TestSamenessArgumentsStay(t *testing.T) {
	for _, b := range append(turnBlocks(), invalidBlocks()...) {
		wantUntouched(t, b, func(d impl.Block) { callSameness(d) })
	}
	// Here two different blocks have the same pattern.
	wantUntouched(t, cornerBlock(), func(b impl.Block) {
		wantUntouched(t, exchangedBlock(impl.TurnBlock(cornerBlock()), []int{5, 4, 3, 2, 1, 0}), func(d impl.Block) {
			wantSame(t, b, d, false, true)
		})
	})
}

func TestLeastBlocksShareNoMemory(t *testing.T) {
	for _, b := range append(sameBlocks(), invalidBlocks()...) {
		wantNewBlocks(t, b, callSameness)
	}
	for _, b := range sameBlocks() {
		// These blocks are their own least form or pattern.
		wantNewBlocks(t, copyOf(impl.LeastForm(b)), callSameness)
		wantNewBlocks(t, copyOf(impl.LeastPattern(b)), callSameness)
	}
}
