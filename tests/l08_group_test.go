package tests

import (
	"maps"
	"math"
	"slices"
	"testing"

	"loop.example/g03304/impl"
)

// Promise 8: the symmetries of a block are a group, and forms times symmetries are eight.

// allViews are the numbers of the views, and with them the group of a block that is the same from all sides.
func allViews() []int {
	return []int{0, 1, 2, 3, 4, 5, 6, 7}
}

// closedLists are all lists that are closed.
func closedLists() [][]int {
	return [][]int{
		{0},
		{0, 2}, {0, 4}, {0, 5}, {0, 6}, {0, 7},
		{0, 1, 2, 3}, {0, 2, 4, 6}, {0, 2, 5, 7},
		allViews(),
	}
}

// productsByHand has ProductOf(i, k) in row i and column k.
func productsByHand() [][]int {
	return [][]int{
		{0, 1, 2, 3, 4, 5, 6, 7},
		{1, 2, 3, 0, 7, 4, 5, 6},
		{2, 3, 0, 1, 6, 7, 4, 5},
		{3, 0, 1, 2, 5, 6, 7, 4},
		{4, 5, 6, 7, 0, 1, 2, 3},
		{5, 6, 7, 4, 3, 0, 1, 2},
		{6, 7, 4, 5, 2, 3, 0, 1},
		{7, 4, 5, 6, 1, 2, 3, 0},
	}
}

// noViews are numbers that are not those of views.
func noViews() []int {
	return []int{-1, 8, -2, -3, -4, -7, -8, 9, 12, 15, 16, 1 << 32, -1 << 32, math.MaxInt - 7, math.MaxInt, math.MinInt + 8, math.MinInt}
}

// wholes is the block of whole cells of these colors.
func wholes(colors ...int) impl.Block {
	var cells []impl.Cell
	for _, a := range colors {
		cells = append(cells, whole(a))
	}
	return blockOf(cells...)
}

// groupCase is a block with the views that keep it, and those that do so in some cloth, written by hand.
type groupCase struct {
	name                 string
	b                    impl.Block
	symmetries, inCloths []int
}

// smallGroupCases are blocks of the Size 1 and 2. One group is missing, because no block of Size 2 has just the two straight mirrors.
func smallGroupCases() []groupCase {
	w, all := whole, allViews()
	turns, straight, slanted := []int{0, 1, 2, 3}, []int{0, 2, 4, 6}, []int{0, 2, 5, 7}
	return []groupCase{
		{"the zero Cell", blockOf(w(0)), all, all},
		{"a whole cell", blockOf(w(5)), all, all},
		{"a diagonal up", blockOf(up(2, 5)), []int{0, 7}, slanted},
		{"a diagonal down", blockOf(down(4, 1)), []int{0, 5}, slanted},
		{"a corner of triangles", cornerBlock(), []int{0}, []int{0, 7}},
		{"the same after a half turn", blockOf(w(0), up(2, 3), up(3, 2), w(0)), []int{0, 2}, slanted},
		{"two rows", wholes(5, 5, 2, 2), []int{0, 4}, straight},
		{"one corner on the right", wholes(0, 3, 0, 0), []int{0, 5}, []int{0, 5}},
		{"two columns", wholes(5, 2, 5, 2), []int{0, 6}, straight},
		{"one corner on the left", wholes(4, 0, 0, 0), []int{0, 7}, []int{0, 7}},
		{"a pinwheel", blockOf(down(0, 1), up(0, 1), up(1, 0), down(1, 0)), turns, all},
		{"a diamond", blockOf(up(1, 4), down(4, 1), down(1, 4), up(4, 1)), all, all},
		{"a diamond between two colors", blockOf(up(1, 4), down(4, 2), down(1, 4), up(4, 2)), []int{0, 6}, straight},
		{"a checkerboard", wholes(4, 1, 1, 4), slanted, all},
		{"a plain block", oneColor(2, 3), all, all},
		{"four colors", wholes(3, 2, 1, 0), []int{0}, all},
		{"three colors", wholes(3, 3, 1, 0), []int{0}, []int{0, 4}},
		{"two corners of one color", wholes(5, 1, 2, 5), []int{0, 5}, slanted},
		{"one cell of triangles", blockOf(up(0, 1), w(2), w(1), w(1)), []int{0}, []int{0}},
		{"a mirror in other cloth", blockOf(up(0, 1), down(2, 3), w(4), w(4)), []int{0}, []int{0, 4}},
	}
}

// largeGroupCases are blocks of the Size 3 and 4.
func largeGroupCases() []groupCase {
	all := allViews()
	turns, straight, slanted := []int{0, 1, 2, 3}, []int{0, 2, 4, 6}, []int{0, 2, 5, 7}
	// wheel puts the colors on the four places that a quarter turn moves around.
	wheel := func(a int, b int, c int, d int) impl.Block {
		return wholes(3, a, 3, 3, 3, 3, 3, b, d, 3, 3, 3, 3, 3, c, 3)
	}
	return []groupCase{
		{"the star", impl.StarBlock(), all, all},
		{"three rows", wholes(1, 1, 1, 4, 4, 4, 1, 1, 1), straight, straight},
		{"three rows of three colors", wholes(1, 1, 1, 4, 4, 4, 2, 2, 2), []int{0, 4}, straight},
		{"two bars that cross", wholes(2, 0, 2, 1, 2, 1, 2, 0, 2), straight, all},
		{"two corners and a middle", wholes(5, 0, 0, 0, 3, 0, 0, 0, 5), slanted, slanted},
		{"a dot beside the middle", wholes(4, 4, 4, 4, 4, 2, 4, 4, 4), []int{0, 6}, []int{0, 6}},
		{"a dot above the middle", wholes(4, 2, 4, 4, 4, 4, 4, 4, 4), []int{0, 4}, []int{0, 4}},
		{"dots of two colors, a half turn apart", wholes(0, 2, 4, 4, 4, 4, 4, 3, 1), []int{0}, []int{0, 2}},
		{"dots of one color, a half turn apart", wholes(0, 0, 4, 4, 4, 4, 4, 0, 0), []int{0, 2}, []int{0, 2}},
		{"nine cells that are all different", moveCases()[6].b, []int{0}, []int{0}},
		{"a plain block of sixteen cells", oneColor(4, 5), all, all},
		{"a wheel of one color", wheel(2, 2, 2, 2), turns, turns},
		{"a wheel of two colors", wheel(2, 4, 2, 4), []int{0, 2}, turns},
		{"a wheel of four colors", wheel(2, 4, 5, 1), []int{0}, turns},
		{"a wheel of three colors", wheel(2, 4, 2, 1), []int{0}, []int{0, 2}},
		{"sixteen cells in no order", moveCases()[7].b, []int{0}, []int{0}},
	}
}

func groupCases() []groupCase {
	return append(smallGroupCases(), largeGroupCases()...)
}

// differentBlocks are valid blocks of which no two views are the same. A block of one cell has four views at most.
func differentBlocks() []impl.Block {
	var blocks []impl.Block
	for _, c := range groupCases() {
		if len(c.symmetries) == 1 {
			blocks = append(blocks, c.b)
		}
	}
	for size := 2; size <= 4; size++ {
		blocks = append(blocks, mixedBlock(size, 1), mixedBlock(size, 40))
	}
	return blocks
}

// groupBlocks are valid blocks of each Size, fewer than turnBlocks.
func groupBlocks() []impl.Block {
	blocks := append(sameBlocks(), differentBlocks()...)
	for _, c := range groupCases() {
		blocks = append(blocks, c.b)
	}
	return blocks
}

// picturesOf are pictures of the eight views, made without SeenFrom.
func picturesOf(b impl.Block) []map[point]int {
	front := pictureOf(b)
	back := mirroredPicture(front, b.Size)
	pictures := make([]map[point]int, 8)
	for k := range 4 {
		pictures[k], pictures[k+4] = front, back
		front, back = turnedPicture(front, b.Size), turnedPicture(back, b.Size)
	}
	return pictures
}

// inOtherCloth reports whether some exchange makes the second picture of the first one: no color is replaced by two, and no two by one.
func inOtherCloth(from map[point]int, to map[point]int) bool {
	by, back := map[int]int{}, map[int]int{}
	for p, a := range from {
		c := to[p]
		if d, ok := by[a]; ok && d != c {
			return false
		}
		if d, ok := back[c]; ok && d != a {
			return false
		}
		by[a], back[c] = c, a
	}
	return true
}

// keepingByPicture are the views that keep the picture of the block, and those that do so in some cloth.
func keepingByPicture(b impl.Block) (symmetries []int, inCloths []int) {
	pictures := picturesOf(b)
	for k, picture := range pictures {
		if maps.Equal(picture, pictures[0]) {
			symmetries = append(symmetries, k)
		}
		if inOtherCloth(picture, pictures[0]) {
			inCloths = append(inCloths, k)
		}
	}
	return symmetries, inCloths
}

// conjugates are the symmetries of SeenFrom(b, k) if list are those of b: back to b, one of them, and to the side k again.
func conjugates(list []int, k int) []int {
	products := productsByHand()
	var moved []int
	for back := range 8 {
		for _, s := range list {
			if products[k][back] == 0 {
				moved = append(moved, products[products[back][s]][k])
			}
		}
	}
	slices.Sort(moved)
	return moved
}

func TestSymmetriesByHand(t *testing.T) {
	for _, c := range groupCases() {
		wantList(t, c.name, impl.SymmetriesOf(c.b), c.symmetries)
		wantList(t, c.name+", in other cloth", impl.ColorSymmetries(c.b), c.inCloths)
		if got, want := impl.IsMirrored(c.b), c.symmetries[len(c.symmetries)-1] >= 4; got != want {
			t.Errorf("%s: IsMirrored is %v, want %v", c.name, got, want)
		}
		if got, want := impl.CountForms(c.b), 8/len(c.symmetries); got != want {
			t.Errorf("%s: CountForms is %d, want %d", c.name, got, want)
		}
	}
}

// digitsOf makes a key of a list.
func digitsOf(list []int) string {
	digits := ""
	for _, k := range list {
		digits += impl.FormatInt(k)
	}
	return digits
}

func TestEachGroupIsFound(t *testing.T) {
	symmetries, inCloths := map[string]bool{}, map[string]bool{}
	for _, c := range groupCases() {
		symmetries[digitsOf(impl.SymmetriesOf(c.b))] = true
		inCloths[digitsOf(impl.ColorSymmetries(c.b))] = true
	}
	for _, list := range closedLists() {
		if !symmetries[digitsOf(list)] || !inCloths[digitsOf(list)] {
			t.Errorf("no block has the symmetries %v, in its own cloth or in others", list)
		}
	}
}

func TestSymmetriesOfAllBlocks(t *testing.T) {
	for _, b := range append(turnBlocks(), groupBlocks()...) {
		symmetries, inCloths := keepingByPicture(b)
		wantList(t, "the symmetries of "+textByHand(b), impl.SymmetriesOf(b), symmetries)
		wantList(t, "the symmetries in other cloth of "+textByHand(b), impl.ColorSymmetries(b), inCloths)
		if got, want := impl.IsMirrored(b), isOneOf(viewsOf(b)[4:], b); got != want {
			t.Errorf("IsMirrored(%v) = %v, want %v", b, got, want)
		}
	}
}

func TestColorSymmetriesByAllExchanges(t *testing.T) {
	exchanges := allExchanges()
	for _, b := range groupBlocks() {
		var want []int
		for k, d := range viewsOf(b) {
			for _, l := range exchanges {
				if equalBlocks(exchangedBlock(d, l), b) {
					want = append(want, k)
					break
				}
			}
		}
		wantList(t, "the symmetries in other cloth of "+textByHand(b), impl.ColorSymmetries(b), want)
	}
}

// wantGroup checks that a list has what makes it a group.
func wantGroup(t *testing.T, what string, list []int) {
	t.Helper()
	if len(list) == 0 || list[0] != 0 || 8%len(list) != 0 || !impl.IsClosed(list) {
		t.Errorf("%s: %v is not a group", what, list)
	}
	for _, i := range list {
		if !slices.Contains(list, impl.InverseOf(i)) {
			t.Errorf("%s: %v has no inverse of %d", what, list, i)
		}
		for _, k := range list {
			if !slices.Contains(list, impl.ProductOf(i, k)) {
				t.Errorf("%s: %v has no product of %d and %d", what, list, i, k)
			}
		}
	}
}

func TestSymmetriesAreGroups(t *testing.T) {
	for _, b := range append(turnBlocks(), groupBlocks()...) {
		symmetries, inCloths := impl.SymmetriesOf(b), impl.ColorSymmetries(b)
		wantGroup(t, "the symmetries of "+textByHand(b), symmetries)
		wantGroup(t, "the symmetries in other cloth of "+textByHand(b), inCloths)
		for _, k := range symmetries {
			if !slices.Contains(inCloths, k) {
				t.Errorf("%v is kept by %d, but not in other cloth", b, k)
			}
		}
	}
}

// countDifferent counts blocks, equal ones once.
func countDifferent(blocks []impl.Block) int {
	texts := map[string]bool{}
	for _, b := range blocks {
		texts[textByHand(b)] = true
	}
	return len(texts)
}

// wantEight checks the products of symmetries and forms, in the cloth of the block and in all others.
func wantEight(t *testing.T, b impl.Block) {
	t.Helper()
	if n, forms := len(impl.SymmetriesOf(b)), impl.CountForms(b); n*forms != 8 || forms != countDifferent(viewsOf(b)) {
		t.Errorf("%v has %d symmetries and %d forms", b, n, forms)
	}
	if n, patterns := len(impl.ColorSymmetries(b)), countDifferent(orderedViewsOf(b)); n*patterns != 8 {
		t.Errorf("%v has %d symmetries in other cloths, and %d patterns", b, n, patterns)
	}
}

func TestFormsTimesSymmetriesAreEight(t *testing.T) {
	for i, b := range turnBlocks() {
		wantEight(t, b)
		wantEight(t, impl.SeenFrom(b, i%8))
	}
	for _, b := range append(groupBlocks(), validBlocks()...) {
		for k := range 8 {
			wantEight(t, impl.SeenFrom(b, k))
		}
	}
}

// wantSymmetriesFrom checks the symmetries of the block as it is seen from the side k.
func wantSymmetriesFrom(t *testing.T, b impl.Block, k int) {
	t.Helper()
	d := impl.SeenFrom(b, k)
	wantList(t, "the symmetries of "+textByHand(d), impl.SymmetriesOf(d), conjugates(impl.SymmetriesOf(b), k))
	wantList(t, "the symmetries in other cloth of "+textByHand(d), impl.ColorSymmetries(d), conjugates(impl.ColorSymmetries(b), k))
	if got, want := impl.IsMirrored(d), impl.IsMirrored(b); got != want {
		t.Errorf("IsMirrored(%v) = %v, but %v from another side", d, got, want)
	}
}

func TestSymmetriesFromAllSides(t *testing.T) {
	for i, b := range turnBlocks() {
		wantSymmetriesFrom(t, b, i%8)
	}
	for _, b := range append(groupBlocks(), validBlocks()...) {
		for k := range 8 {
			wantSymmetriesFrom(t, b, k)
		}
	}
}

func TestSymmetriesAreTheSameInAllCloths(t *testing.T) {
	exchanges := allExchanges()
	for _, c := range groupCases() {
		for _, l := range exchanges {
			d := exchangedBlock(c.b, l)
			wantList(t, c.name+", exchanged", impl.SymmetriesOf(d), c.symmetries)
			wantList(t, c.name+", exchanged, in other cloth", impl.ColorSymmetries(d), c.inCloths)
		}
	}
}

func TestNumbersOfSymmetricBlocks(t *testing.T) {
	two := []impl.Cell{whole(0), whole(1), up(0, 1), up(1, 0), down(0, 1), down(1, 0)}
	six := []impl.Cell{whole(0), whole(1), whole(2), whole(3), whole(4), whole(5)}
	cases := []struct {
		name           string
		kinds          []impl.Cell
		kept, inCloths []int
	}{
		// A quarter turn keeps what one cell decides, a half turn and a straight mirror what two of them do. On the line of the other mirrors, a cell is whole or its diagonal crosses the line.
		// With the two colors exchanged, the diagonals of these cells are on the line.
		{
			"cells of two colors", two,
			[]int{1296, 6, 36, 6, 36, 96, 36, 96},
			[]int{1296, 12, 72, 12, 72, 120, 72, 120},
		},
		// A quarter turn keeps one color, two that alternate and four, in any cloth. The other views exchange two cells or two pairs of them.
		{
			"whole cells of six colors", six,
			[]int{1296, 6, 36, 6, 36, 216, 36, 216},
			[]int{1296, 396, 696, 396, 696, 696, 696, 696},
		},
	}
	for _, c := range cases {
		kept, inCloths := make([]int, 8), make([]int, 8)
		for _, b := range blocksOfFour(c.kinds) {
			for _, k := range impl.SymmetriesOf(b) {
				kept[k]++
			}
			for _, k := range impl.ColorSymmetries(b) {
				inCloths[k]++
			}
		}
		wantList(t, c.name, kept, c.kept)
		wantList(t, c.name+", in other cloth", inCloths, c.inCloths)
	}
}

func TestProductsByHand(t *testing.T) {
	for i, row := range productsByHand() {
		for k, want := range row {
			if got := impl.ProductOf(i, k); got != want {
				t.Errorf("ProductOf(%d, %d) = %d, want %d", i, k, got, want)
			}
		}
	}
}

func TestProductsAreViewsOfViews(t *testing.T) {
	for _, b := range differentBlocks() {
		views := viewsOf(b)
		if n := countDifferent(views); n != 8 {
			t.Errorf("%v has %d views that are different, want 8", b, n)
		}
		for i := range 8 {
			for k := range 8 {
				got := slices.IndexFunc(views, func(d impl.Block) bool { return equalBlocks(d, impl.SeenFrom(views[i], k)) })
				if want := impl.ProductOf(i, k); got != want {
					t.Errorf("%v, seen from %d and then from %d, is its view %d, want %d", b, i, k, got, want)
				}
			}
		}
	}
}

func TestProductsForEveryBlock(t *testing.T) {
	for _, b := range append(validBlocks(), groupBlocks()...) {
		for i, d := range viewsOf(b) {
			for k := range 8 {
				wantBlock(t, "a view of a view", impl.SeenFrom(d, k), impl.SeenFrom(b, impl.ProductOf(i, k)))
			}
			wantBlock(t, "the mirror of a view", impl.MirrorBlock(d), impl.SeenFrom(b, impl.ProductOf(i, 4)))
			wantBlock(t, "the turn of a view", impl.TurnBlock(d), impl.SeenFrom(b, impl.ProductOf(i, 1)))
		}
	}
}

func TestMirrorsAfterTurnsAreProducts(t *testing.T) {
	for j := range 4 {
		back := (4 - j) % 4
		if got := impl.ProductOf(j, 4); got != 4+back {
			t.Errorf("a mirror after %d turns is the view %d, want %d", j, got, 4+back)
		}
		if got := impl.ProductOf(4, j); got != 4+j {
			t.Errorf("%d turns after a mirror are the view %d, want %d", j, got, 4+j)
		}
		// The second mirror undoes the first one, and makes turns to the left of those between them.
		for i := range 4 {
			if got, want := impl.ProductOf(4+i, 4+j), (j+4-i)%4; got != want {
				t.Errorf("ProductOf(%d, %d) = %d, want %d", 4+i, 4+j, got, want)
			}
		}
	}
}

func TestProductsAreAGroup(t *testing.T) {
	for i := range 8 {
		if impl.ProductOf(0, i) != i || impl.ProductOf(i, 0) != i {
			t.Errorf("0 and %d have the products %d and %d", i, impl.ProductOf(0, i), impl.ProductOf(i, 0))
		}
		var row, column []int
		for k := range 8 {
			row, column = append(row, impl.ProductOf(i, k)), append(column, impl.ProductOf(k, i))
			for m := range 8 {
				first, last := impl.ProductOf(impl.ProductOf(i, k), m), impl.ProductOf(i, impl.ProductOf(k, m))
				if first != last {
					t.Errorf("%d, %d and %d have the products %d and %d", i, k, m, first, last)
				}
			}
		}
		slices.Sort(row)
		slices.Sort(column)
		wantList(t, "the products that begin with "+impl.FormatInt(i), row, allViews())
		wantList(t, "the products that end with "+impl.FormatInt(i), column, allViews())
	}
}

func TestProductsOfNoViews(t *testing.T) {
	for _, bad := range noViews() {
		for k := range 8 {
			if impl.ProductOf(bad, k) != -1 || impl.ProductOf(k, bad) != -1 {
				t.Errorf("%d and %d have the products %d and %d, want -1", bad, k, impl.ProductOf(bad, k), impl.ProductOf(k, bad))
			}
		}
		for _, other := range noViews() {
			if got := impl.ProductOf(bad, other); got != -1 {
				t.Errorf("ProductOf(%d, %d) = %d, want -1", bad, other, got)
			}
		}
	}
}

func TestInverses(t *testing.T) {
	for k, want := range []int{0, 3, 2, 1, 4, 5, 6, 7} {
		got := impl.InverseOf(k)
		if got != want || impl.InverseOf(got) != k {
			t.Errorf("InverseOf(%d) = %d, want %d, and its inverse is %d", k, got, want, impl.InverseOf(got))
		}
		if impl.ProductOf(k, got) != 0 || impl.ProductOf(got, k) != 0 {
			t.Errorf("%d and its inverse %d have the products %d and %d", k, got, impl.ProductOf(k, got), impl.ProductOf(got, k))
		}
		for _, b := range groupBlocks() {
			wantBlock(t, "a view undone", impl.SeenFrom(impl.SeenFrom(b, k), got), b)
			wantBlock(t, "a view undone before", impl.SeenFrom(impl.SeenFrom(b, got), k), b)
		}
		for i := range 8 {
			product := impl.ProductOf(impl.InverseOf(i), impl.InverseOf(k))
			if got := impl.InverseOf(impl.ProductOf(k, i)); got != product {
				t.Errorf("the inverse of the product of %d and %d is %d, want %d", k, i, got, product)
			}
		}
	}
	for _, bad := range noViews() {
		if got := impl.InverseOf(bad); got != -1 {
			t.Errorf("InverseOf(%d) = %d, want -1", bad, got)
		}
	}
}

// isClosedList reports whether a list is one of those that are closed.
func isClosedList(list []int) bool {
	return slices.ContainsFunc(closedLists(), func(closed []int) bool { return slices.Equal(closed, list) })
}

// wantClosed checks the answer for a list.
func wantClosed(t *testing.T, list []int, want bool) {
	t.Helper()
	if got := impl.IsClosed(list); got != want {
		t.Errorf("IsClosed(%v) = %v, want %v", list, got, want)
	}
}

func TestClosedListsOfAllViews(t *testing.T) {
	count := 0
	for set := range 256 {
		var list []int
		for k := range 8 {
			if set>>k&1 == 1 {
				list = append(list, k)
			}
		}
		wantClosed(t, list, isClosedList(list))
		if impl.IsClosed(list) {
			count++
		}
	}
	if count != 10 {
		t.Errorf("%d lists are closed, want 10", count)
	}
}

func TestClosedListsAreSeenOnABlock(t *testing.T) {
	b := cornerBlock()
	for set := range 256 {
		var list []int
		var seen, again []impl.Block
		for k := range 8 {
			if set>>k&1 == 1 {
				list = append(list, k)
				seen = append(seen, impl.SeenFrom(b, k))
			}
		}
		for _, d := range seen {
			for _, k := range list {
				again = append(again, impl.SeenFrom(d, k))
			}
		}
		// Views of these views show nothing new, and the block itself is among them.
		stays := set != 0 && !slices.ContainsFunc(again, func(d impl.Block) bool { return !isOneOf(seen, d) })
		wantClosed(t, list, stays && isOneOf(seen, b))
	}
}

func TestClosedListsOfFewNumbers(t *testing.T) {
	lists := [][]int{{}}
	for range 4 {
		for _, list := range lists {
			wantClosed(t, list, isClosedList(list))
		}
		var longer [][]int
		for _, list := range lists {
			for k := -1; k <= 8; k++ {
				longer = append(longer, append(slices.Clone(list), k))
			}
		}
		lists = longer
	}
	for _, list := range lists {
		wantClosed(t, list, isClosedList(list))
	}
}

func TestListsThatAreNotClosed(t *testing.T) {
	lists := [][]int{
		nil, {},
		{1}, {2}, {4}, {7}, {2, 4, 6}, {1, 2, 3}, {4, 5, 6, 7}, {1, 2, 3, 4, 5, 6, 7},
		{0, 1}, {0, 3}, {0, 1, 2}, {0, 1, 3}, {0, 2, 4}, {0, 4, 6}, {0, 4, 5}, {0, 5, 7}, {0, 2, 4, 5}, {0, 4, 5, 6, 7}, {0, 1, 2, 3, 4}, {0, 1, 2, 3, 4, 5, 6},
		{2, 0}, {4, 0}, {0, 3, 2, 1}, {0, 2, 6, 4}, {7, 6, 5, 4, 3, 2, 1, 0}, {0, 1, 2, 3, 4, 5, 7, 6}, {1, 0, 2, 3, 4, 5, 6, 7},
		{0, 0}, {0, 0, 2}, {0, 2, 2}, {0, 5, 5}, {0, 1, 2, 2, 3}, {0, 1, 2, 3, 4, 5, 6, 7, 7}, {0, 0, 1, 2, 3, 4, 5, 6, 7}, {0, 2, 0, 2},
		make([]int, 1000), append(allViews(), allViews()...),
	}
	for _, list := range lists {
		wantClosed(t, list, false)
	}
	for _, list := range closedLists() {
		wantClosed(t, list, true)
		for _, bad := range noViews() {
			wantClosed(t, []int{bad}, false)
			wantClosed(t, append([]int{bad}, list...), false)
			wantClosed(t, append(slices.Clone(list), bad), false)
			for at := range list {
				changed := slices.Clone(list)
				changed[at] = bad
				wantClosed(t, changed, false)
			}
		}
	}
}

func TestClosedListsAreGroups(t *testing.T) {
	for _, list := range closedLists() {
		wantGroup(t, "a closed list", list)
		// A list that is cut off is another one, whatever lies behind it.
		for n := range list {
			wantClosed(t, list[:n], isClosedList(list[:n]))
		}
	}
}

// wantNoSymmetries checks that a block is not valid for any function of the chapter.
func wantNoSymmetries(t *testing.T, b impl.Block) {
	t.Helper()
	wantList(t, "the symmetries of a block that is not valid", impl.SymmetriesOf(b), nil)
	wantList(t, "the symmetries in other cloth of a block that is not valid", impl.ColorSymmetries(b), nil)
	if impl.IsMirrored(b) {
		t.Errorf("IsMirrored(%v) = true", b)
	}
}

func TestSymmetriesOfInvalidBlocks(t *testing.T) {
	for _, b := range invalidBlocks() {
		wantNoSymmetries(t, b)
	}
}

func TestOneBadCellHasNoSymmetries(t *testing.T) {
	for _, b := range roundBlocks() {
		wantNoSymmetries(t, impl.Block{Size: b.Size, Cells: b.Cells[1:]})
		wantNoSymmetries(t, impl.Block{Size: b.Size, Cells: append(copyOf(b).Cells, b.Cells[0])})
		for i := range b.Cells {
			for _, bad := range badCells() {
				d := copyOf(b)
				d.Cells[i] = bad
				wantNoSymmetries(t, d)
			}
		}
	}
}

func TestGroupArgumentsStay(t *testing.T) {
	for _, b := range append(turnBlocks(), invalidBlocks()...) {
		wantUntouched(t, b, func(d impl.Block) {
			impl.SymmetriesOf(d)
			impl.ColorSymmetries(d)
			impl.IsMirrored(d)
		})
	}
	lists := append(closedLists(), nil, []int{}, []int{0, 1}, []int{3, 2, 1, 0}, []int{0, 2, 2}, []int{-1, 0}, []int{0, 8}, allViews()[1:])
	for _, list := range lists {
		l, room := roomyList(list)
		old := slices.Clone(room)
		impl.IsClosed(l)
		wantList(t, "the list and its neighbours after the call", room, old)
	}
}

// wantNewList checks that no result is kept for the next call, and that none changes with the argument or with another result.
func wantNewList(t *testing.T, b impl.Block, result func(b impl.Block) []int) {
	t.Helper()
	d, room := roomyBlock(b)
	old := slices.Clone(room)
	want := slices.Clone(result(copyOf(b)))
	first, second := result(d), result(d)
	wipeList(first)
	wantList(t, "a result after a change of an equal one", second, want)
	if !slices.Equal(room, old) {
		t.Errorf("the cells %v were changed with a result: %v", old, room)
	}
	again := result(d)
	wipe(d.Cells)
	wantList(t, "a result after a change of the argument", again, want)
}

func TestSymmetriesShareNoMemory(t *testing.T) {
	for _, b := range append(groupBlocks(), invalidBlocks()...) {
		wantNewList(t, b, impl.SymmetriesOf)
		wantNewList(t, b, impl.ColorSymmetries)
	}
}

func TestSymmetriesStayWhenOthersChange(t *testing.T) {
	b := impl.StarBlock()
	wipeList(impl.ColorSymmetries(b))
	wantList(t, "SymmetriesOf after a change of ColorSymmetries", impl.SymmetriesOf(b), allViews())
	wipeList(impl.SymmetriesOf(b))
	wantList(t, "ColorSymmetries after a change of SymmetriesOf", impl.ColorSymmetries(b), allViews())
	if !impl.IsMirrored(b) || !impl.IsClosed(allViews()) {
		t.Error("a change of the results changes IsMirrored or IsClosed")
	}
}
