package tests

import (
	"math"
	"math/bits"
	"slices"
	"strings"
	"testing"

	"loop.example/g03304/impl"
)

// Promise 11: the joins of a layout make the whole of it.

// joinsFrom reads joins like 1|2, with an upright seam, and 0-3, with a level one.
func joinsFrom(text string) []impl.Join {
	var joins []impl.Join
	for _, word := range strings.Fields(text) {
		at := strings.IndexAny(word, "|-")
		a, _ := impl.ParseUint(word[:at])
		b, _ := impl.ParseUint(word[at+1:])
		joins = append(joins, impl.Join{Upright: word[at] == '|', A: a, B: b})
	}
	return joins
}

func wantJoins(t *testing.T, name string, got []impl.Join, want []impl.Join) {
	t.Helper()
	if !slices.Equal(got, want) {
		t.Errorf("%s: the joins are %v, want %v", name, got, want)
	}
}

// treeByHand has the joins of a layout, their depth and the length of the longest seam, worked out by hand.
type treeByHand struct {
	joins   string
	depth   int
	longest int
}

// chain joins each of 12 patches with all behind it.
func chain(seam string) string {
	joins := []string{"10" + seam + "11"}
	for i := range 10 {
		joins = append(joins, impl.FormatInt(9-i)+seam+impl.FormatInt(12+i))
	}
	return strings.Join(joins, " ")
}

// treesByHand has a tree for each name of sewableCases.
func treesByHand() map[string]treeByHand {
	return map[string]treeByHand{
		"one square":                                         {"", 0, 0},
		"one patch":                                          {"", 0, 0},
		"one patch of 12 times 12":                           {"", 0, 0},
		"two squares in a row":                               {"0|1", 1, 1},
		"two squares in a column":                            {"1-0", 1, 1},
		"three squares in a row":                             {"2|0 1|3", 2, 1},
		"two patches of several squares":                     {"1|0", 1, 2},
		"two rows, of which the lower one has two patches":   {"1|2 0-3", 2, 4},
		"two columns, of which the left one has two patches": {"0-1 3|2", 2, 3},
		"four squares":                                       {"0-2 1-3 4|5", 2, 2},
		"four patches around a point":                        {"1-3 0-2 4|5", 2, 5},
		"nine squares":                                       {"3-6 0-9 4-7 1-11 5-8 2-13 12|14 10|15", 4, 3},
		"rows whose seams do not meet":                       {"0|1 2|3 4-5", 2, 4},
		"columns whose seams do not meet":                    {"0-1 2-3 4|5", 2, 4},
		"a line that ends before the last row":               {"0-2 5|1 3|4 6-7", 3, 3},
		"a line that begins after the first row":             {"2-3 1|4 0-5", 3, 3},
		"a line with a patch across its middle":              {"0|1 3|4 2-6 5-7", 3, 2},
		"an upright line with a patch across its middle":     {"0-1 3-4 2|6 5|7", 3, 2},
		"12 squares in a row":                                {chain("|"), 11, 1},
		"12 squares in a column":                             {chain("-"), 11, 1},
		"12 strips":                                          {chain("-"), 11, 12},
		"12 columns":                                         {chain("|"), 11, 12},
		"12 patches of 3 times 4":                            {"4-8 0-12 5-9 1-14 6-10 2-16 7-11 3-18 17|19 15|20 13|21", 5, 12},
		"a long first column":                                {"0|1", 1, 1},
		"12 patches inwards":                                 {"11|10 9-12 8|13 14-7 15|6 5-16 4|17 18-3 19|2 1-20 0|21", 11, 7},
	}
}

func wantDepth(t *testing.T, name string, joins []impl.Join, n int, want int) {
	t.Helper()
	if got := impl.DepthOf(joins, n); got != want {
		t.Errorf("%s: DepthOf(%v, %d) = %d, want %d", name, joins, n, got, want)
	}
}

func wantLongest(t *testing.T, name string, l impl.Layout, joins []impl.Join, want int) {
	t.Helper()
	if got := impl.LongestSeam(l, joins); got != want {
		t.Errorf("%s: LongestSeam(%v, %v) = %d, want %d", name, l, joins, got, want)
	}
}

func TestTreesByHand(t *testing.T) {
	trees := treesByHand()
	for _, c := range sewableCases() {
		tree, ok := trees[c.name]
		if !ok {
			t.Errorf("%s: no tree is worked out", c.name)
		}
		l := drawn(c.rows...)
		joins, ok := impl.JoinsOf(l)
		if !ok {
			t.Errorf("%s: JoinsOf(%v) returns false", c.name, l)
		}
		wantJoins(t, c.name, joins, joinsFrom(tree.joins))
		wantDepth(t, c.name, joins, len(l.Patches), tree.depth)
		wantLongest(t, c.name, l, joins, tree.longest)
	}
}

// wantUnit checks UnitBox.
func wantUnit(t *testing.T, l impl.Layout, joins []impl.Join, u int, want impl.Patch) {
	t.Helper()
	if got, ok := impl.UnitBox(l, joins, u); !ok || got != want {
		t.Errorf("UnitBox(%v, %v, %d) = %v, %v, want %v, true", l, joins, u, got, ok, want)
	}
}

func wantNoUnit(t *testing.T, l impl.Layout, joins []impl.Join, u int) {
	t.Helper()
	if got, ok := impl.UnitBox(l, joins, u); ok || got != (impl.Patch{}) {
		t.Errorf("UnitBox(%v, %v, %d) = %v, %v, want the zero Patch and false", l, joins, u, got, ok)
	}
}

func TestUnitsByHand(t *testing.T) {
	colored := func(x, y, w, h, color int) impl.Patch {
		return impl.Patch{X: x, Y: y, W: w, H: h, Color: color}
	}
	cases := []struct {
		rows  []string
		joins string
		units []impl.Patch
	}{
		{[]string{"aaaa", "bccc", "bccc"}, "1|2 0-3", []impl.Patch{colored(0, 1, 4, 2, 4), colored(0, 0, 4, 3, 5)}},
		{[]string{"ac", "ac", "bc"}, "0-1 3|2", []impl.Patch{colored(0, 0, 1, 3, 5), colored(0, 0, 2, 3, 5)}},
		{[]string{"bca"}, "2|0 1|3", []impl.Patch{colored(1, 0, 2, 1, 3), colored(0, 0, 3, 1, 4)}},
		{[]string{"bca"}, "1|2 3|0", []impl.Patch{colored(0, 0, 2, 1, 4), colored(0, 0, 3, 1, 4)}},
		{[]string{"ab", "cd"}, "0-2 1-3 4|5", []impl.Patch{colored(0, 0, 1, 2, 5), colored(1, 0, 1, 2, 4), colored(0, 0, 2, 2, 5)}},
		{[]string{"ab", "cd"}, "2|3 0|1 5-4", []impl.Patch{colored(0, 1, 2, 1, 3), colored(0, 0, 2, 1, 5), colored(0, 0, 2, 2, 5)}},
		{[]string{"dcba"}, "3|2 1|0 4|5", []impl.Patch{colored(0, 0, 2, 1, 2), colored(2, 0, 2, 1, 4), colored(0, 0, 4, 1, 2)}},
		{[]string{"d", "c", "b", "a"}, "2-1 4-0 3-5", []impl.Patch{colored(0, 1, 1, 2, 3), colored(0, 1, 1, 3, 3), colored(0, 0, 1, 4, 2)}},
		{[]string{"aab", "deb", "dcc"}, "", nil},
		{[]string{"aabf", "debg", "dccg"}, "5-6", []impl.Patch{colored(3, 0, 1, 3, 0)}},
	}
	for _, c := range cases {
		l, joins := drawn(c.rows...), joinsFrom(c.joins)
		for u, p := range append(slices.Clone(l.Patches), c.units...) {
			wantUnit(t, l, joins, u, p)
		}
		wantNoUnit(t, l, joins, len(l.Patches)+len(joins))
	}
}

// wantUnits checks that the units of a layout with joins are those from 0 up to count, and that the joins make the whole of it or not.
func wantUnits(t *testing.T, name string, l impl.Layout, joins []impl.Join, count int) {
	t.Helper()
	for u := range count {
		if _, ok := impl.UnitBox(l, joins, u); !ok {
			t.Errorf("%s: UnitBox(%v, %v, %d) returns false", name, l, joins, u)
		}
	}
	for u := count; u <= len(l.Patches)+len(joins)+2; u++ {
		wantNoUnit(t, l, joins, u)
	}
	for _, u := range append(farUnits(), -3, -2, -1) {
		wantNoUnit(t, l, joins, u)
	}
	whole := count > 0 && count == 2*len(l.Patches)-1 && len(joins) == len(l.Patches)-1
	if got := impl.AreJoins(l, joins); got != whole {
		t.Errorf("%s: AreJoins(%v, %v) = %v", name, l, joins, got)
	}
	if got := impl.LongestSeam(l, joins); whole == (got == -1) {
		t.Errorf("%s: LongestSeam(%v, %v) = %d", name, l, joins, got)
	}
}

// farUnits are so far away that they barely fit into an int, or would do so with some patches more or less.
func farUnits() []int {
	far := []int{-1 << 32, 1<<32 - 1, 1 << 32, 1<<32 + 1, 1<<32 + 3, 1 << 40}
	for i := range 14 {
		far = append(far, math.MinInt+i, math.MaxInt-i)
	}
	return far
}

// joinsCase has joins that are worked out by hand: the units from 0 up to count have a rectangle.
type joinsCase struct {
	name  string
	rows  []string
	joins []impl.Join
	count int
}

// wrongUnitsCases have joins whose units are not those that the document asks for.
func wrongUnitsCases() []joinsCase {
	rows := []string{"aaaa", "bccc", "bccc"}
	of := func(name string, joins string, count int) joinsCase {
		return joinsCase{name, rows, joinsFrom(joins), count}
	}
	cases := []joinsCase{
		of("the joins of the document", "1|2 0-3", 5),
		of("the first one only", "1|2", 4),
		of("no joins", "", 3),
		of("a join more, of the whole and a patch", "1|2 0-3 0-4", 5),
		of("a join more, of the whole and itself", "1|2 0-3 4-4", 5),
		of("a join more, of units that are joined", "1|2 0-3 1|2", 5),
		of("the right one first", "2|1 0-3", 3),
		of("the lower one first", "1|2 3-0", 4),
		of("a patch and itself", "1|1 0-3", 3),
		of("a unit and itself", "1|2 3-3", 4),
		of("a patch and itself, level", "0-0 1|2", 3),
		of("the join's own unit as A", "3|2 0-3", 3),
		of("the join's own unit as B", "1|3 0-3", 3),
		of("the join's own unit as A, at the end", "1|2 4-0", 4),
		of("the join's own unit as B, at the end", "1|2 0-4", 4),
		of("a unit behind the join as A", "4-0 1|2", 3),
		of("a unit behind the join as B", "0-4 1|2", 3),
		of("a unit that is not there as A", "1|2 5-3", 4),
		of("a unit that is not there as B", "1|2 0-5", 4),
		of("the joins in the other order", "0-3 1|2", 3),
		of("A is in another join", "1|2 1|3", 4),
		of("B is in another join", "1|2 0-2", 4),
		of("A and B are in another join", "1|2 1|2", 4),
		of("an upright seam that is said to be level", "1-2 0-3", 3),
		of("a level seam that is said to be upright", "1|2 0|3", 4),
		of("a part of a side, with the patch at its begin", "0-1 2|3", 3),
		of("a part of a side, with the patch at its end", "0-2 1|3", 3),
		of("a part of a side, of a longer one below", "0|1 2|3", 3),
	}
	for _, far := range append(farUnits(), -2, -1) {
		cases = append(cases,
			joinsCase{"A far away", rows, []impl.Join{{Upright: true, A: far, B: 2}, {A: 0, B: 3}}, 3},
			joinsCase{"B far away", rows, []impl.Join{{Upright: true, A: 1, B: far}, {A: 0, B: 3}}, 3},
			joinsCase{"both far away", rows, []impl.Join{{Upright: true, A: far, B: far}, {A: 0, B: 3}}, 3},
			joinsCase{"A far away at the end", rows, []impl.Join{{Upright: true, A: 1, B: 2}, {A: far, B: 3}}, 4},
			joinsCase{"B far away at the end", rows, []impl.Join{{Upright: true, A: 1, B: 2}, {A: 0, B: far}}, 4},
		)
	}
	return cases
}

// wrongSidesCases have joins of rectangles that have no whole side in common.
func wrongSidesCases() []joinsCase {
	four, nine := []string{"ab", "cd"}, []string{"abc", "def", "ghi"}
	return []joinsCase{
		{"a corner only, level", four, joinsFrom("0-3"), 4},
		{"a corner only, upright", four, joinsFrom("0|3"), 4},
		{"the other corner, level", four, joinsFrom("1-2"), 4},
		{"the other corner, upright", four, joinsFrom("2|1"), 4},
		{"three squares around a corner", four, joinsFrom("0|1 4-2"), 5},
		{"three squares, the lower row first", four, joinsFrom("2|3 0-4"), 5},
		{"two rows", four, joinsFrom("0|1 2|3 4-5"), 7},
		{"two rows, the lower one first", four, joinsFrom("2|3 0|1 5-4"), 7},
		{"two columns", four, joinsFrom("0-2 1-3 4|5"), 7},
		{"two columns, exchanged at the end", four, joinsFrom("0-2 1-3 5|4"), 6},
		{"two columns, with a level seam at the end", four, joinsFrom("0-2 1-3 4-5"), 6},
		{"squares of a row that are apart", []string{"abc"}, joinsFrom("0|2 3|1"), 3},
		{"squares of a column that are apart", []string{"a", "b", "c"}, joinsFrom("0-2 3-1"), 3},
		{"a row from the left", []string{"abc"}, joinsFrom("0|1 3|2"), 5},
		{"a row from the right", []string{"abc"}, joinsFrom("1|2 0|3"), 5},
		{"a column from above", []string{"a", "b", "c"}, joinsFrom("0-1 3-2"), 5},
		{"a column from below", []string{"a", "b", "c"}, joinsFrom("1-2 0-3"), 5},
		{"equal heights that do not meet on one line", []string{"aab", "ccb", "cce"}, joinsFrom("2|1"), 4},
		{"equal widths that do not meet on one line", []string{"aac", "bdd"}, joinsFrom("0-3"), 4},
		{"the same begin, but not the same height", []string{"ab", "ac"}, joinsFrom("0|1 3-2"), 3},
		{"the same end, but not the same height", []string{"ab", "ac"}, joinsFrom("0|2 1-3"), 3},
		{"the same begin, but not the same width", []string{"ab", "cc"}, joinsFrom("0-2 3|1"), 3},
		{"the same end, but not the same width", []string{"ab", "cc"}, joinsFrom("1-2 0|3"), 3},
		{"nine squares by rows", nine, joinsFrom("0|1 9|2 3|4 11|5 6|7 13|8 10-12 15-14"), 17},
		{"nine squares in two columns first", nine, joinsFrom("0|1 3|4 6|7 2-5 12-8 9-10 14-11 15|13"), 17},
		{"nine squares until they lie around each other", nine, joinsFrom("0|1 2-5 7|8 3-6"), 13},
		{"the same, and the middle", nine, joinsFrom("0|1 2-5 7|8 3-6 9-4"), 13},
		{"the same, and what touches it with a part of a side", nine, joinsFrom("0|1 2-5 7|8 3-6 9|10"), 13},
		{"patches around each other", roundKnot(), joinsFrom("0|1 5-2 3|4 7-6"), 5},
		{"patches around each other, from the middle", roundKnot(), joinsFrom("3|4 0-5 6|1 7-2"), 5},
		{"a knot and a column of two patches", []string{"aabf", "debg", "dccg"}, joinsFrom("5-6 0|7"), 8},
	}
}

func TestJoinsThatAreNotValid(t *testing.T) {
	for _, c := range append(wrongUnitsCases(), wrongSidesCases()...) {
		wantUnits(t, c.name, drawn(c.rows...), c.joins, c.count)
	}
}

func TestOnePatchHasNoJoins(t *testing.T) {
	for width := 1; width <= 12; width++ {
		for height := 1; height <= 12; height++ {
			l := layoutOf(width, height, impl.Patch{W: width, H: height, Color: (width + height) % 6})
			joins, ok := impl.JoinsOf(l)
			if !ok || len(joins) > 0 {
				t.Errorf("JoinsOf(%v) = %v, %v", l, joins, ok)
			}
			for _, none := range [][]impl.Join{nil, {}, joins} {
				wantUnit(t, l, none, 0, l.Patches[0])
				wantUnits(t, "one patch", l, none, 1)
				wantLongest(t, "one patch", l, none, 0)
				wantDepth(t, "one patch", none, 1, 0)
			}
			for _, more := range []string{"0|0", "0-0", "0|1", "1-0", "1|1", "0|1 1|2"} {
				wantUnits(t, "one patch and a join", l, joinsFrom(more), 1)
				wantUnit(t, l, joinsFrom(more), 0, l.Patches[0])
			}
		}
	}
}

// joinsIn splits a rectangle of the picture and adds its joins to the ones that are there. It returns the number of its unit too, and false if there is a knot.
func joinsIn(picture map[point]int, box impl.Patch, patches int, joins []impl.Join) ([]impl.Join, int, bool) {
	if isOnePatch(picture, box) {
		return joins, picture[point{box.X, box.Y}], true
	}
	cuts := cutsOfPicture(picture, box)
	if len(cuts) == 0 {
		return nil, -1, false
	}
	left, right := halves(box, cuts[0])
	joins, a, leftOk := joinsIn(picture, left, patches, joins)
	joins, b, rightOk := joinsIn(picture, right, patches, joins)
	if !leftOk || !rightOk {
		return nil, -1, false
	}
	return append(joins, impl.Join{Upright: cuts[0].Upright, A: a, B: b}), patches + len(joins), true
}

// squares has a bit for each square, row by row.
type squares [12]uint16

func squaresIn(p impl.Patch) squares {
	var s squares
	for y := range p.H {
		for x := range p.W {
			s[p.Y+y] |= 1 << (p.X + x)
		}
	}
	return s
}

func (s squares) with(other squares) squares {
	for y := range s {
		s[y] |= other[y]
	}
	return s
}

// bounds is the smallest rectangle around the squares.
func (s squares) bounds() impl.Patch {
	columns, top, below := uint16(0), 12, 0
	for y, row := range s {
		if row > 0 {
			columns, top, below = columns|row, min(top, y), y+1
		}
	}
	left := bits.TrailingZeros16(columns)
	return rect(left, top, bits.Len16(columns)-left, below-top)
}

func (s squares) isRectangle() bool {
	return s == squaresIn(s.bounds())
}

// firstPatch goes from a unit to A of its join until it comes to a patch.
func firstPatch(joins []impl.Join, patches int, u int) int {
	for u >= patches {
		u = joins[u-patches].A
	}
	return u
}

// isValidJoin looks at the squares: those of both units are a rectangle, which is as high as A if the seam is upright and as wide as A otherwise, and in which A is at the left and above.
func isValidJoin(joins []impl.Join, units []squares) bool {
	j, before := joins[len(joins)-1], joins[:len(joins)-1]
	if min(j.A, j.B) < 0 || max(j.A, j.B) >= len(units) || j.A == j.B {
		return false
	}
	for _, i := range []int{j.A, j.B} {
		if slices.ContainsFunc(before, func(other impl.Join) bool { return other.A == i || other.B == i }) {
			return false
		}
	}
	a, both := units[j.A].bounds(), units[j.A].with(units[j.B])
	box := both.bounds()
	return both.isRectangle() && a.X == box.X && a.Y == box.Y && (j.Upright && a.H == box.H || !j.Upright && a.W == box.W)
}

// unitsBySquares are the rectangles of the units up to the first join that is not valid.
func unitsBySquares(l impl.Layout, joins []impl.Join) []impl.Patch {
	var units []squares
	boxes := slices.Clone(l.Patches)
	for _, p := range l.Patches {
		units = append(units, squaresIn(p))
	}
	for k, j := range joins {
		if !isValidJoin(joins[:k+1], units) {
			break
		}
		units = append(units, units[j.A].with(units[j.B]))
		box := units[len(units)-1].bounds()
		box.Color = l.Patches[firstPatch(joins, len(l.Patches), j.A)].Color
		boxes = append(boxes, box)
	}
	return boxes
}

// seamsBySquares are the lengths of the seams of valid joins: how many squares of A are beside one of B.
func seamsBySquares(units []impl.Patch, joins []impl.Join) []int {
	var seams []int
	for _, j := range joins {
		a, b := units[j.A], units[j.B]
		length := 0
		for _, common := range commonSidesOf(pictureOfLayout(layoutOf(12, 12, a, b))) {
			length += common
		}
		seams = append(seams, length)
	}
	return seams
}

// depthByUnits goes down from a unit to all patches.
func depthByUnits(joins []impl.Join, patches int, u int) int {
	if u < patches {
		return 0
	}
	j := joins[u-patches]
	return 1 + max(depthByUnits(joins, patches, j.A), depthByUnits(joins, patches, j.B))
}

// wantTree checks joins that make the whole layout.
func wantTree(t *testing.T, name string, l impl.Layout, joins []impl.Join) {
	t.Helper()
	units := unitsBySquares(l, joins)
	for u, p := range units {
		wantUnit(t, l, joins, u, p)
	}
	wantUnits(t, name, l, joins, len(units))
	last, first := units[len(units)-1], l.Patches[firstPatch(joins, len(l.Patches), len(units)-1)]
	if len(units) != 2*len(l.Patches)-1 || last != (impl.Patch{W: l.Width, H: l.Height, Color: first.Color}) {
		t.Errorf("%s: the joins %v of %v make %v", name, joins, l, last)
	}
	wantDepth(t, name, joins, len(l.Patches), depthByUnits(joins, len(l.Patches), len(units)-1))
	seams := seamsBySquares(units, joins)
	wantLongest(t, name, l, joins, slices.Max(append(seams, 0)))
	length := 0
	for _, seam := range seams {
		length += seam
	}
	if length != impl.SeamLength(l) {
		t.Errorf("%s: the seams of %v are %d long, all seams of %v %d", name, joins, length, l, impl.SeamLength(l))
	}
}

// wantJoinsOf checks JoinsOf with the picture.
func wantJoinsOf(t *testing.T, name string, l impl.Layout) {
	t.Helper()
	want, _, ok := joinsIn(pictureOfLayout(l), rect(0, 0, l.Width, l.Height), len(l.Patches), nil)
	joins, got := impl.JoinsOf(l)
	if got != ok || got != impl.CanSew(l) {
		t.Errorf("%s: JoinsOf(%v) returns %v, want %v", name, l, got, ok)
	}
	wantJoins(t, name, joins, want)
	if !ok {
		wantUnits(t, name, l, nil, len(l.Patches))
		return
	}
	if len(joins) != len(l.Patches)-1 || len(joins) != impl.CountSeams(l) {
		t.Errorf("%s: %d joins of %v", name, len(joins), l)
	}
	wantTree(t, name, l, joins)
}

func TestJoinsMakeTheWhole(t *testing.T) {
	for _, l := range append(validLayouts(), cutLayouts()...) {
		wantJoinsOf(t, "a layout", l)
	}
	for _, c := range sewCases() {
		wantJoinsOf(t, c.name, drawn(c.rows...))
		wantJoinsOf(t, c.name+", reversed", reversed(drawn(c.rows...)))
	}
}

// wantNotSewn checks that JoinsOf returns nothing.
func wantNotSewn(t *testing.T, name string, l impl.Layout) {
	t.Helper()
	if joins, ok := impl.JoinsOf(l); ok || len(joins) > 0 {
		t.Errorf("%s: JoinsOf(%v) = %v, %v", name, l, joins, ok)
	}
}

func TestSampleLayoutHasNoJoins(t *testing.T) {
	l := impl.SampleLayout()
	for range 4 {
		wantNotSewn(t, "the sample", l)
		wantUnits(t, "the sample", l, nil, 5)
		l = impl.TurnLayout(l)
	}
}

// eachJoins visits all lists of so many joins, in one array, with numbers from low to high.
func eachJoins(count int, low int, high int, visit func(joins []impl.Join)) {
	joins := make([]impl.Join, count)
	var fill func(at int)
	fill = func(at int) {
		if at == count {
			visit(joins)
			return
		}
		for a := low; a <= high; a++ {
			for b := low; b <= high; b++ {
				joins[at] = impl.Join{A: a, B: b}
				fill(at + 1)
				joins[at].Upright = true
				fill(at + 1)
			}
		}
	}
	fill(0)
}

// wantAsBySquares compares UnitBox, AreJoins and LongestSeam with the squares of the units.
func wantAsBySquares(t *testing.T, l impl.Layout, joins []impl.Join) {
	t.Helper()
	units := unitsBySquares(l, joins)
	if len(units) == 2*len(l.Patches)-1 && len(joins) == len(l.Patches)-1 {
		wantTree(t, "joins of any order", l, joins)
		return
	}
	for u := -1; u <= len(l.Patches)+len(joins)+1; u++ {
		if u >= 0 && u < len(units) {
			wantUnit(t, l, joins, u, units[u])
		} else {
			wantNoUnit(t, l, joins, u)
		}
	}
	if impl.AreJoins(l, joins) {
		t.Errorf("AreJoins(%v, %v) = true", l, joins)
	}
	wantLongest(t, "joins that are not those of a layout", l, joins, -1)
}

func TestAllJoinsOfFewPatches(t *testing.T) {
	for _, l := range smallLayouts() {
		area, n := l.Width*l.Height, len(l.Patches)
		if n > 3 || n == 3 && area > 4 {
			continue
		}
		for count := range n + 1 {
			if n < 3 || count < 3 {
				eachJoins(count, -1, n+count, func(joins []impl.Join) { wantAsBySquares(t, l, joins) })
			}
		}
	}
}

// TestNumbersOfTrees has the number of all lists that are the joins of a layout: different trees, or the same one in another order.
func TestNumbersOfTrees(t *testing.T) {
	cases := []struct {
		name string
		rows []string
		want int
	}{
		{"one patch", []string{"aa"}, 1},
		{"two patches", []string{"ab"}, 1},
		{"a row of three", []string{"abc"}, 2},
		{"a column of three", []string{"b", "a", "c"}, 2},
		{"a row and two patches", []string{"aaaa", "bccc"}, 1},
		{"a row of four", []string{"abcd"}, 6},
		{"a column of four", []string{"d", "b", "c", "a"}, 6},
		{"four squares", []string{"ab", "cd"}, 4},
		{"rows whose seams do not meet", []string{"aaab", "cddd"}, 2},
		{"a column, a row and two patches", []string{"abb", "acd"}, 1},
		{"a row of three and one below", []string{"abc", "ddd"}, 2},
		{"two columns and two rows", []string{"abdd", "abcc"}, 3},
	}
	for _, c := range cases {
		l, count := drawn(c.rows...), 0
		eachJoins(len(l.Patches)-1, 0, 2*len(l.Patches)-2, func(joins []impl.Join) {
			if impl.AreJoins(l, joins) {
				count++
			}
		})
		if count != c.want {
			t.Errorf("%s: %d lists of joins, want %d", c.name, count, c.want)
		}
	}
}

// anyJoins joins units in no order until no two of them are a rectangle together. They make the whole layout or get stuck.
func anyJoins(l impl.Layout, s *series) []impl.Join {
	var joins []impl.Join
	for {
		units, valid := unitsBySquares(l, joins), []impl.Join(nil)
		var all []squares
		for _, p := range units {
			all = append(all, squaresIn(p))
		}
		for a := range units {
			for b := range units {
				for _, upright := range []bool{true, false} {
					j := impl.Join{Upright: upright, A: a, B: b}
					if isValidJoin(append(slices.Clone(joins), j), all) {
						valid = append(valid, j)
					}
				}
			}
		}
		if len(valid) == 0 {
			return joins
		}
		joins = append(joins, valid[s.below(len(valid))])
	}
}

// layoutsToJoin are layouts of few and of many patches, with knots and without.
func layoutsToJoin() []impl.Layout {
	layouts := []impl.Layout{impl.SampleLayout()}
	for _, c := range sewCases() {
		layouts = append(layouts, drawn(c.rows...), reversed(drawn(c.rows...)))
	}
	for i, l := range append(largeLayouts(), cutLayouts()...) {
		if i%16 == 0 {
			layouts = append(layouts, l)
		}
	}
	return layouts
}

func TestJoinsInAnyOrder(t *testing.T) {
	s := &series{last: 3}
	whole, stuck, knots, most := 0, 0, 0, 0
	for _, l := range layoutsToJoin() {
		joins := anyJoins(l, s)
		wantAsBySquares(t, l, joins)
		isWhole := impl.AreJoins(l, joins)
		if isWhole && !impl.CanSew(l) {
			t.Errorf("the joins %v make the whole of %v, which cannot be sewn", joins, l)
		}
		switch {
		case isWhole && len(joins) == 11:
			most++
		case isWhole:
			whole++
		case impl.CanSew(l):
			stuck++
		default:
			knots++
		}
	}
	nine := drawn("abc", "def", "ghi")
	for range 100 {
		joins := anyJoins(nine, s)
		wantAsBySquares(t, nine, joins)
		if !impl.AreJoins(nine, joins) {
			stuck++
		}
	}
	if min(whole, knots) < 100 || most < 20 || stuck < 10 {
		t.Errorf("%d trees, %d with 12 patches, %d that get stuck, %d in layouts with knots", whole, most, stuck, knots)
	}
}

// otherJoins are lists of joins with one other number, a join less or one twice, or two of them exchanged.
func otherJoins(joins []impl.Join, patches int) [][]impl.Join {
	var lists [][]impl.Join
	change := func(at int, j impl.Join) {
		list := slices.Clone(joins)
		list[at] = j
		lists = append(lists, list)
	}
	for at, j := range joins {
		change(at, impl.Join{Upright: !j.Upright, A: j.A, B: j.B})
		change(at, impl.Join{Upright: j.Upright, A: j.B, B: j.A})
		change(at, impl.Join{Upright: !j.Upright, A: j.B, B: j.A})
		for u := -1; u <= patches+len(joins); u++ {
			change(at, impl.Join{Upright: j.Upright, A: u, B: j.B})
			change(at, impl.Join{Upright: j.Upright, A: j.A, B: u})
		}
		for _, far := range []int{math.MinInt, math.MaxInt} {
			change(at, impl.Join{Upright: j.Upright, A: far, B: j.B})
			change(at, impl.Join{Upright: j.Upright, A: j.A, B: far})
		}
		lists = append(lists, slices.Delete(slices.Clone(joins), at, at+1), slices.Insert(slices.Clone(joins), at, j), append(slices.Clone(joins), j))
		if at > 0 {
			change(at, joins[at-1])
			lists[len(lists)-1][at-1] = j
		}
	}
	return lists
}

// TestOneOtherJoin takes one list in four of layouts with many patches, which have hundreds of them.
func TestOneOtherJoin(t *testing.T) {
	s := &series{last: 5}
	for _, l := range layoutsToJoin() {
		joins, _ := impl.JoinsOf(l)
		for _, list := range append(otherJoins(joins, len(l.Patches)), otherJoins(anyJoins(l, s), len(l.Patches))...) {
			if len(l.Patches) < 6 || s.below(4) == 0 {
				wantAsBySquares(t, l, list)
			}
		}
	}
}

// TestRenumberedPatches has the same patches with other indexes, which must be the only difference of the joins.
func TestRenumberedPatches(t *testing.T) {
	s := &series{last: 17}
	for _, l := range append(someLayouts(), cutLayouts()...) {
		m, n := copyOfLayout(l), len(l.Patches)
		places := make([]int, 2*n)
		for i := range places {
			places[i] = i
		}
		for i := range n {
			k := s.below(n)
			places[i], places[k] = places[k], places[i]
		}
		for i, p := range l.Patches {
			m.Patches[places[i]] = p
		}
		joins, ok := impl.JoinsOf(l)
		for i, j := range joins {
			joins[i] = impl.Join{Upright: j.Upright, A: places[j.A], B: places[j.B]}
		}
		got, gotOk := impl.JoinsOf(m)
		if gotOk != ok {
			t.Errorf("JoinsOf(%v) returns %v", m, gotOk)
		}
		wantJoins(t, "renumbered", got, joins)
	}
}

// TestTurnedTrees turns the joins too: what was on the left is above, and what was below is on the left.
func TestTurnedTrees(t *testing.T) {
	s := &series{last: 23}
	for _, l := range layoutsToJoin() {
		joins := anyJoins(l, s)
		turned, turnedJoins := impl.TurnLayout(l), []impl.Join(nil)
		for _, j := range joins {
			if j.Upright {
				turnedJoins = append(turnedJoins, impl.Join{A: j.A, B: j.B})
			} else {
				turnedJoins = append(turnedJoins, impl.Join{Upright: true, A: j.B, B: j.A})
			}
		}
		if impl.AreJoins(turned, turnedJoins) != impl.AreJoins(l, joins) || impl.LongestSeam(turned, turnedJoins) != impl.LongestSeam(l, joins) || impl.DepthOf(turnedJoins, len(l.Patches)) != impl.DepthOf(joins, len(l.Patches)) {
			t.Errorf("turned, %v has other joins than %v", l, joins)
		}
		for u := range len(l.Patches) + len(joins) {
			p, ok := impl.UnitBox(l, joins, u)
			q, turnedOk := impl.UnitBox(turned, turnedJoins, u)
			if p.Color = q.Color; ok != turnedOk || q != (impl.Patch{X: l.Height - p.Y - p.H, Y: p.X, W: p.H, H: p.W, Color: q.Color}) {
				t.Errorf("turned, the unit %d of %v is %v, and %v before", u, l, q, p)
			}
		}
	}
}

// TestColorsChangeNoJoin has other colors, which only the units show.
func TestColorsChangeNoJoin(t *testing.T) {
	s := &series{last: 29}
	for _, l := range layoutsToJoin() {
		m := copyOfLayout(l)
		for i := range m.Patches {
			m.Patches[i].Color = s.below(6)
		}
		want, ok := impl.JoinsOf(l)
		joins, got := impl.JoinsOf(m)
		if got != ok {
			t.Errorf("in other colors, JoinsOf(%v) returns %v", m, got)
		}
		wantJoins(t, "in other colors", joins, want)
		wantAsBySquares(t, m, joins)
	}
}

func TestKnotsHaveNoJoins(t *testing.T) {
	s := &series{last: 31}
	for _, c := range slices.Concat(knotCases(), sideCases(), deeperCases()) {
		l := drawn(c.rows...)
		wantNotSewn(t, c.name, l)
		for range 10 {
			joins := anyJoins(l, s)
			wantUnits(t, c.name, l, joins, len(l.Patches)+len(joins))
			if len(joins) >= len(l.Patches)-1 {
				t.Errorf("%s: %v has the joins %v", c.name, l, joins)
			}
		}
	}
}

// wantNoTree checks the results for a layout that is not valid, with joins that may be right for a valid one.
func wantNoTree(t *testing.T, name string, l impl.Layout, joins []impl.Join) {
	t.Helper()
	wantNotSewn(t, name, l)
	for _, list := range [][]impl.Join{nil, joins, joinsFrom("0|1"), joinsFrom("0-1")} {
		wantUnits(t, name, l, list, 0)
	}
}

func TestBadLayoutsHaveNoJoins(t *testing.T) {
	for _, c := range badLayouts() {
		wantNoTree(t, c.name, c.l, joinsFrom(chain("|")))
		wantNoTree(t, c.name, reversed(c.l), joinsFrom("0|1 2|3 4-5"))
		wantNoTree(t, c.name, c.l, joinsFrom(chain("-"))[:max(0, min(11, len(c.l.Patches)-1))])
	}
	for _, c := range sewableCases() {
		l := drawn(c.rows...)
		joins, _ := impl.JoinsOf(l)
		for _, m := range withOneChange(l, []int{math.MinInt, -1, 0, 13, math.MaxInt}) {
			wantNoTree(t, c.name+" with one other number", m, joins)
		}
	}
}

// TestOnlyTheWholeLayoutIsBad has joins whose own patches are right, in a layout that is not valid.
func TestOnlyTheWholeLayoutIsBad(t *testing.T) {
	row := drawn("abcdefghijkl").Patches
	for _, c := range []struct {
		name  string
		l     impl.Layout
		joins string
	}{
		{"no patches", layoutOf(1, 1), ""},
		{"nothing", impl.Layout{}, ""},
		{"a hole below", layoutOf(2, 2, rect(0, 0, 1, 1), rect(1, 0, 1, 1)), "0|1"},
		{"a hole on the right", layoutOf(3, 1, rect(0, 0, 1, 1), rect(1, 0, 1, 1)), "0|1"},
		{"a row too high", layoutOf(2, 2, rect(0, 0, 1, 1), rect(1, 0, 1, 1), rect(0, 1, 2, 2)), "0|1 3-2"},
		{"a wrong color", layoutOf(2, 1, impl.Patch{W: 1, H: 1, Color: 6}, rect(1, 0, 1, 1)), "0|1"},
		{"a color below 0", layoutOf(2, 1, rect(0, 0, 1, 1), impl.Patch{X: 1, W: 1, H: 1, Color: -1}), "0|1"},
		{"a patch twice", layoutOf(2, 1, rect(0, 0, 1, 1), rect(1, 0, 1, 1), rect(1, 0, 1, 1)), "0|1"},
		{"13 patches", layoutOf(13, 1, append(row, rect(12, 0, 1, 1))...), "0|1"},
		{"one patch that is too wide", layoutOf(13, 1, rect(0, 0, 13, 1)), ""},
		{"one patch that is too high", layoutOf(1, 13, rect(0, 0, 1, 13)), ""},
		{"one patch that is too small", layoutOf(3, 3, rect(0, 0, 2, 3)), ""},
		{"one patch of no width", layoutOf(1, 1, rect(0, 0, 0, 1)), ""},
		{"one patch of the color 6", layoutOf(1, 1, impl.Patch{W: 1, H: 1, Color: 6}), ""},
	} {
		wantNoTree(t, c.name, c.l, joinsFrom(c.joins))
	}
}

func TestDepthsByHand(t *testing.T) {
	doubled := make([]impl.Join, 11)
	for i := range doubled {
		doubled[i] = impl.Join{A: 11 + i, B: 11 + i}
	}
	cases := []struct {
		name  string
		joins []impl.Join
		n     int
		want  int
	}{
		{"one patch", nil, 1, 0},
		{"two patches", joinsFrom("0|1"), 2, 1},
		{"three patches", joinsFrom("1-2 0|3"), 3, 2},
		{"the deeper one is A", joinsFrom("1-2 3|0"), 3, 2},
		{"two pairs", joinsFrom("0-1 2-3 4|5"), 4, 2},
		{"a chain of four", joinsFrom("0-1 4-2 5-3"), 4, 3},
		{"A is deeper than B", joinsFrom("0-1 5-2 3-4 6-7"), 5, 3},
		{"B is deeper than A", joinsFrom("0-1 5-2 3-4 7-6"), 5, 3},
		{"12 patches in a chain", joinsFrom(chain("|")), 12, 11},
		{"12 patches by columns", joinsFrom("4-8 0-12 5-9 1-14 6-10 2-16 7-11 3-18 17|19 15|20 13|21"), 12, 5},
		{"12 patches in pairs", joinsFrom("0|1 2|3 4|5 6|7 8|9 10|11 12-13 14-15 16-17 18-19 20|21"), 12, 4},
		{"a patch and itself", joinsFrom("0|0"), 2, 1},
		{"a unit and itself, each time", doubled, 12, 11},
		{"a unit in two joins", joinsFrom("0|1 3|3"), 3, 2},
		{"a unit in two joins, the last one of patches", joinsFrom("0|1 1|2"), 3, 1},
		{"the same join twice", joinsFrom("0|1 0|1"), 3, 1},
		{"the deepest unit is not the last one", joinsFrom("0|1 5|2 6|3 0-1"), 5, 1},
		{"joins of the last two units", joinsFrom("0|1 5|2 0|1 7|6"), 5, 3},
	}
	for _, c := range cases {
		wantDepth(t, c.name, c.joins, c.n, c.want)
	}
}

func TestDepthsOfWrongNumbers(t *testing.T) {
	for count := range 16 {
		joins := joinsFrom(strings.Repeat("0|0 ", count))
		for _, n := range append(farUnits(), -2, -1, 0, 1, 2, 3, 4, 5, 6, 7, 8, 9, 10, 11, 12, 13, 14, 15, 16) {
			if n == count+1 && n <= 12 {
				wantDepth(t, "each join of one patch", joins, n, min(count, 1))
			} else {
				wantDepth(t, "another number of joins", joins, n, -1)
			}
		}
	}
	wantDepth(t, "no patches", nil, 0, -1)
	wantDepth(t, "13 patches", append(joinsFrom(chain("|")), impl.Join{A: 11, B: 11}), 13, -1)
	for _, text := range []string{"2|0", "0|2", "1|2", "3|0", "0|3", "12|13"} {
		wantDepth(t, "a unit of two that is not before the join", joinsFrom(text), 2, -1)
	}
	for _, text := range []string{"3|0 1|2", "0|3 1|2", "4|0 1|2", "0|4 1|2", "0|1 4|2", "0|1 2|4", "0|1 5|2", "0|1 2|5"} {
		wantDepth(t, "a unit of three that is not before the join", joinsFrom(text), 3, -1)
	}
	for at := range 11 {
		for _, u := range append(farUnits(), -12, -2, -1, 12+at, 13+at, 22, 23, 24) {
			for _, j := range []impl.Join{{A: u, B: 0}, {A: 0, B: u}, {A: u, B: u}, {Upright: true, A: u, B: 11}, {Upright: true, A: 11, B: u}} {
				joins := joinsFrom(chain("|"))
				joins[at] = j
				wantDepth(t, "a unit of 12 that is not before the join", joins, 12, -1)
			}
		}
	}
}

// TestDepthsOfAllJoins compares the depth with the one that is found from the last unit on.
func TestDepthsOfAllJoins(t *testing.T) {
	for n := 1; n <= 3; n++ {
		eachJoins(n-1, -1, 2*n, func(joins []impl.Join) {
			if areBefore(joins, n) {
				wantDepth(t, "joins of units before them", joins, n, depthByUnits(joins, n, 2*n-2))
			} else {
				wantDepth(t, "joins of units that are not before them", joins, n, -1)
			}
		})
	}
	s := &series{last: 37}
	for n := 4; n <= 12; n++ {
		for range 500 {
			var joins []impl.Join
			for u := n; u < 2*n-1; u++ {
				joins = append(joins, impl.Join{Upright: s.below(2) == 0, A: s.below(u), B: s.below(u)})
			}
			wantDepth(t, "any joins", joins, n, depthByUnits(joins, n, 2*n-2))
		}
	}
}

// areBefore reports whether each join is one of units before it.
func areBefore(joins []impl.Join, n int) bool {
	for k, j := range joins {
		if min(j.A, j.B) < 0 || max(j.A, j.B) >= n+k {
			return false
		}
	}
	return true
}

// roomyJoins are joins with others behind them, which no function may change.
func roomyJoins(joins []impl.Join) ([]impl.Join, []impl.Join) {
	room := append(slices.Clone(joins), joinsFrom("7|7 8-8 9|9")...)
	return room[:len(joins)], room
}

// callAllForTrees calls each function of the chapter.
func callAllForTrees(l impl.Layout, joins []impl.Join) {
	impl.JoinsOf(l)
	for u := -1; u <= len(l.Patches)+len(joins)+1; u++ {
		impl.UnitBox(l, joins, u)
	}
	impl.AreJoins(l, joins)
	impl.LongestSeam(l, joins)
	impl.DepthOf(joins, len(l.Patches))
	impl.DepthOf(joins, len(joins)+1)
}

func TestJoinArgumentsStay(t *testing.T) {
	s := &series{last: 41}
	layouts := layoutsToJoin()
	for _, c := range badLayouts() {
		layouts = append(layouts, c.l)
	}
	for _, l := range layouts {
		lists := [][]impl.Join{joinsFrom("0|1 1-2"), joinsFrom(chain("-"))}
		if impl.LayoutOk(l) {
			lists = append(lists, anyJoins(l, s))
		}
		if joins, ok := impl.JoinsOf(l); ok {
			lists = append(lists, joins)
		}
		for _, list := range lists {
			m, patches := roomyLayout(l)
			joins, room := roomyJoins(list)
			oldPatches, oldRoom := slices.Clone(patches), slices.Clone(room)
			callAllForTrees(m, joins)
			if !slices.Equal(patches, oldPatches) || !slices.Equal(room, oldRoom) {
				t.Errorf("%v or %v or their neighbours were changed: %v, %v", oldPatches, oldRoom, patches, room)
			}
		}
	}
}

func TestJoinsShareNoMemory(t *testing.T) {
	for _, l := range layoutsToJoin() {
		m, patches := roomyLayout(l)
		oldPatches := slices.Clone(patches)
		first, _ := impl.JoinsOf(m)
		second, _ := impl.JoinsOf(m)
		want := slices.Clone(second)
		all := first[:cap(first)]
		for i := range all {
			all[i] = impl.Join{Upright: true, A: 99, B: 99}
		}
		wantJoins(t, "after a change of another list", second, want)
		third, _ := impl.JoinsOf(m)
		wantJoins(t, "the next list", third, want)
		if !slices.Equal(patches, oldPatches) {
			t.Errorf("the patches %v were changed with the joins: %v", oldPatches, patches)
		}
		wipePatches(patches)
		wantJoins(t, "after a change of the patches", third, want)
	}
}
