package tests

import (
	"math"
	"slices"
	"strings"
	"testing"

	"loop.example/g03304/impl"
)

// Promise 9: the patches cover the layout, and all common sides together are the seams.

// rect is a patch of the color 0.
func rect(x int, y int, w int, h int) impl.Patch {
	return impl.Patch{X: x, Y: y, W: w, H: h}
}

// layoutOf is a layout of these patches, also where they do not cover it.
func layoutOf(width int, height int, patches ...impl.Patch) impl.Layout {
	return impl.Layout{Width: width, Height: height, Patches: patches}
}

// drawn is the layout of a drawing: the squares of each letter are a patch, those of a the first one. The colors go down from 5.
func drawn(rows ...string) impl.Layout {
	l := layoutOf(len(rows[0]), len(rows))
	for i := range 26 {
		letter := string(rune('a' + i))
		p := impl.Patch{Color: 5 - i%6}
		for y, row := range rows {
			if n := strings.Count(row, letter); n > 0 {
				p.X, p.Y, p.W, p.H = strings.Index(row, letter), y-p.H, n, p.H+1
			}
		}
		if p.H > 0 {
			l.Patches = append(l.Patches, p)
		}
	}
	return l
}

// copyOfLayout returns a layout with patches of its own.
func copyOfLayout(l impl.Layout) impl.Layout {
	return layoutOf(l.Width, l.Height, append([]impl.Patch(nil), l.Patches...)...)
}

// equalLayouts compares all numbers.
func equalLayouts(l impl.Layout, m impl.Layout) bool {
	return l.Width == m.Width && l.Height == m.Height && slices.Equal(l.Patches, m.Patches)
}

func wantLayout(t *testing.T, what string, got impl.Layout, want impl.Layout) {
	t.Helper()
	if !equalLayouts(got, want) {
		t.Errorf("%s: got %v, want %v", what, got, want)
	}
}

// pictureOfLayout has the index of its patch for each square. All patches lie within the layout, which they cover.
func pictureOfLayout(l impl.Layout) map[point]int {
	picture := map[point]int{}
	for i, p := range l.Patches {
		for y := range p.H {
			for x := range p.W {
				picture[point{p.X + x, p.Y + y}] = i
			}
		}
	}
	return picture
}

// commonSidesOf is how much of their sides each pair of patches has in common, the smaller index first.
func commonSidesOf(picture map[point]int) map[[2]int]int {
	common := map[[2]int]int{}
	for s, i := range picture {
		for _, beside := range []point{{s.x + 1, s.y}, {s.x, s.y + 1}} {
			if k, ok := picture[beside]; ok && i != k {
				common[[2]int{min(i, k), max(i, k)}]++
			}
		}
	}
	return common
}

// layoutCase is a layout with the pairs of patches that are beside each other and the length of all seams, worked out by hand.
type layoutCase struct {
	name   string
	rows   []string
	beside string
	seams  int
}

// narrowLayoutCases are one square wide or high.
func narrowLayoutCases() []layoutCase {
	letters := strings.Split("abcdefghijkl", "")
	chain := "ab bc cd de ef fg gh hi ij jk kl"
	return []layoutCase{
		{"one square", []string{"a"}, "", 0},
		{"two squares in a row", []string{"ab"}, "ab", 1},
		{"two squares in a column", []string{"a", "b"}, "ab", 1},
		{"three squares in a row", []string{"abc"}, "ab bc", 2},
		{"three squares in a column, not in their order", []string{"b", "c", "a"}, "ac bc", 2},
		{"one patch in a row of 12", []string{"aaaaaaaaaaaa"}, "", 0},
		{"one patch in a column of 12", strings.Split("aaaaaaaaaaaa", ""), "", 0},
		{"three patches in a row of 12", []string{"bbbbbaaaaccc"}, "ab ac", 2},
		{"three patches in a column of 12", strings.Split("abbbbbbccccc", ""), "ab bc", 2},
		{"12 patches in a row of 12", []string{strings.Join(letters, "")}, chain, 11},
		{"12 patches in a column of 12", letters, chain, 11},
	}
}

// cornerLayoutCases have patches that have only a point in common, or that lie on one line with nothing in common.
func cornerLayoutCases() []layoutCase {
	return []layoutCase{
		{"four squares around a point", []string{"ab", "cd"}, "ab ac bd cd", 4},
		{"four patches around a point", []string{"bba", "bba", "ddc", "ddc", "ddc"}, "ab ac bd cd", 8},
		{"a corner on a longer side", []string{"ab", "cc"}, "ab ac bc", 3},
		{"a corner below a longer side", []string{"aa", "bc"}, "ab ac bc", 3},
		{"a corner beside a longer side", []string{"ab", "cb"}, "ab ac bc", 3},
		{"a corner before a longer side", []string{"ab", "ac"}, "ab ac bc", 3},
		{"sides on one line that do not reach each other", []string{"ab", "cb", "cd"}, "ab ac bc bd cd", 5},
		{"the same from the side", []string{"abb", "ccd"}, "ab ac bc bd cd", 5},
		{"sides that have one square in common", []string{"aaab", "cddd"}, "ab ac ad bd cd", 6},
		{"the same, not in this order", []string{"cddd", "aaab"}, "ab ac ad bd cd", 6},
		{"nine squares", []string{"abc", "def", "ghi"}, "ab ad bc be cf de dg ef eh fi gh hi", 12},
		{"patches of one row that are apart", []string{"abc", "adc", "aec"}, "ab ad ae bc bd cd ce de", 8},
	}
}

// wideLayoutCases have rows and columns of several squares.
func wideLayoutCases() []layoutCase {
	letters := strings.Split("abcdefghijkl", "")
	strips, columns := make([]string, 12), make([]string, 12)
	for i := range 12 {
		strips[i] = strings.Repeat(letters[i], 12)
		columns[i] = strings.Join(letters, "")
	}
	chain := "ab bc cd de ef fg gh hi ij jk kl"
	a, b, c := "aaabbbcccddd", "eeefffggghhh", "iiijjjkkklll"
	return []layoutCase{
		{"one patch of 2 times 3", []string{"aa", "aa", "aa"}, "", 0},
		{"two rows, of which the lower one has two patches", []string{"aaaa", "bccc", "bccc"}, "ab ac bc", 6},
		{"one patch in a layout of 12 times 12", slices.Repeat([]string{strings.Repeat("a", 12)}, 12), "", 0},
		{"12 strips", strips, chain, 132},
		{"12 columns", columns, chain, 132},
		{"12 patches of 3 times 4", []string{a, a, a, a, b, b, b, b, c, c, c, c}, "ab ae bc bf cd cg dh ef ei fg fj gh gk hl ij jk kl", 60},
		{"patches around each other", []string{"aab", "deb", "dcc"}, "ab ad ae bc be cd ce de", 8},
		{"patches around each other the other way", []string{"abb", "aec", "ddc"}, "ab ad ae bc be cd ce de", 8},
		{"patches around a larger one", []string{"aaabb", "cddbb", "cddbb", "ceeee"}, "ab ac ad bd be cd ce de", 13},
		{"patches around four squares", []string{"aaaabb", "ffcdbb", "ffghbb", "ffeeee"}, "ab ac ad af bd be bh cd cf cg dh ef eg eh fg gh", 18},
	}
}

func layoutCases() []layoutCase {
	return slices.Concat(narrowLayoutCases(), cornerLayoutCases(), wideLayoutCases())
}

// wantPatches checks PatchAt with a picture, for the squares of the layout and around it.
func wantPatches(t *testing.T, l impl.Layout, picture map[point]int) {
	t.Helper()
	for y := -2; y <= 14; y++ {
		for x := -2; x <= 14; x++ {
			want, ok := picture[point{x, y}]
			if !ok {
				want = -1
			}
			if got := impl.PatchAt(l, x, y); got != want {
				t.Errorf("PatchAt(%v, %d, %d) = %d, want %d", l, x, y, got, want)
			}
		}
	}
}

// wantBeside checks AreBeside for all indexes of the layout and those around them.
func wantBeside(t *testing.T, l impl.Layout, beside func(i int, k int) bool) {
	t.Helper()
	for i := -1; i <= len(l.Patches); i++ {
		for k := -1; k <= len(l.Patches); k++ {
			if got, want := impl.AreBeside(l, i, k), beside(min(i, k), max(i, k)); got != want {
				t.Errorf("AreBeside(%v, %d, %d) = %v, want %v", l, i, k, got, want)
			}
		}
	}
}

// pictureOfRows is the picture that is drawn.
func pictureOfRows(rows []string) map[point]int {
	picture := map[point]int{}
	for y, row := range rows {
		for x := range len(row) {
			picture[point{x, y}] = int(row[x] - 'a')
		}
	}
	return picture
}

func TestLayoutsByHand(t *testing.T) {
	for _, c := range layoutCases() {
		l := drawn(c.rows...)
		if !impl.LayoutOk(l) {
			t.Errorf("%s: LayoutOk(%v) = false", c.name, l)
		}
		if got := impl.SeamLength(l); got != c.seams {
			t.Errorf("%s: SeamLength is %d, want %d", c.name, got, c.seams)
		}
		wantPatches(t, l, pictureOfRows(c.rows))
		pairs := strings.Fields(c.beside)
		wantBeside(t, l, func(i int, k int) bool {
			return slices.Contains(pairs, string(rune('a'+i))+string(rune('a'+k)))
		})
	}
}

func TestDrawingsAreCopied(t *testing.T) {
	l := drawn("aab", "deb", "dcc")
	wantLayout(t, "a drawing", l, layoutOf(3, 3,
		impl.Patch{X: 0, Y: 0, W: 2, H: 1, Color: 5}, impl.Patch{X: 2, Y: 0, W: 1, H: 2, Color: 4},
		impl.Patch{X: 1, Y: 2, W: 2, H: 1, Color: 3}, impl.Patch{X: 0, Y: 1, W: 1, H: 2, Color: 2},
		impl.Patch{X: 1, Y: 1, W: 1, H: 1, Color: 1}))
	for _, c := range layoutCases() {
		if len(c.rows) != drawn(c.rows...).Height || len(c.rows[0]) != drawn(c.rows...).Width {
			t.Errorf("%s: the layout has another size", c.name)
		}
	}
}

// allLayouts are all layouts of this width and height: the first square that is free gets a patch of each size for which there is room.
func allLayouts(width int, height int) []impl.Layout {
	var layouts []impl.Layout
	var fill func(patches []impl.Patch, taken map[point]int)
	fill = func(patches []impl.Patch, taken map[point]int) {
		first := 0
		for first < width*height {
			if _, ok := taken[point{first % width, first / width}]; !ok {
				break
			}
			first++
		}
		if first == width*height {
			layouts = append(layouts, layoutOf(width, height, slices.Clone(patches)...))
			return
		}
		x, y := first%width, first/width
		room := width - x
		for h := 1; y+h <= height; h++ {
			for w := 1; w <= room; w++ {
				if _, ok := taken[point{x + w - 1, y + h - 1}]; ok {
					room = w - 1
					break
				}
				p := rect(x, y, w, h)
				p.Color = (w + 2*h + 5*len(patches)) % 6
				more := append(slices.Clone(patches), p)
				fill(more, pictureOfLayout(impl.Layout{Patches: more}))
			}
		}
	}
	fill(nil, map[point]int{})
	return layouts
}

// smallLayouts are all layouts of at most 12 squares.
func smallLayouts() []impl.Layout {
	var layouts []impl.Layout
	for width := 1; width <= 12; width++ {
		for height := 1; width*height <= 12; height++ {
			layouts = append(layouts, allLayouts(width, height)...)
		}
	}
	return layouts
}

func TestNumbersOfLayouts(t *testing.T) {
	cases := []struct{ width, height, want int }{
		{1, 1, 1}, {2, 1, 2}, {1, 2, 2}, {3, 1, 4}, {1, 3, 4}, {1, 12, 2048}, {12, 1, 2048},
		{2, 2, 8}, {2, 3, 34}, {3, 2, 34}, {4, 2, 148}, {2, 6, 2864}, {3, 3, 322}, {4, 3, 3164}, {3, 4, 3164},
	}
	for _, c := range cases {
		count := 0
		for _, l := range allLayouts(c.width, c.height) {
			if impl.LayoutOk(l) {
				count++
			}
		}
		if count != c.want {
			t.Errorf("%d layouts of %d times %d, want %d", count, c.width, c.height, c.want)
		}
	}
}

// series gives the same numbers in each run, in no order that one sees.
type series struct{ last uint32 }

func (s *series) below(limit int) int {
	s.last = s.last*1664525 + 1013904223
	return int(s.last>>8) % limit
}

// parted are the two parts of a patch, or those of five that lie around each other.
func parted(p impl.Patch, s *series, five bool) []impl.Patch {
	if five && p.W >= 3 && p.H >= 3 {
		w, h := 1+s.below(p.W-2), 1+s.below(p.H-2)
		wide, high := w+1+s.below(p.W-1-w), h+1+s.below(p.H-1-h)
		return []impl.Patch{
			rect(p.X, p.Y, wide, h), rect(p.X+wide, p.Y, p.W-wide, high), rect(p.X+w, p.Y+high, p.W-w, p.H-high),
			rect(p.X, p.Y+h, w, p.H-h), rect(p.X+w, p.Y+h, wide-w, high-h),
		}
	}
	if p.W > 1 && (p.H == 1 || s.below(2) == 0) {
		w := 1 + s.below(p.W-1)
		return []impl.Patch{rect(p.X, p.Y, w, p.H), rect(p.X+w, p.Y, p.W-w, p.H)}
	}
	if p.H > 1 {
		h := 1 + s.below(p.H-1)
		return []impl.Patch{rect(p.X, p.Y, p.W, h), rect(p.X, p.Y+h, p.W, p.H-h)}
	}
	return []impl.Patch{p}
}

// partedLayout is a layout of at most count patches in no order, of which some lie around each other.
func partedLayout(width int, height int, count int, s *series) impl.Layout {
	patches := []impl.Patch{rect(0, 0, width, height)}
	for range 40 {
		at := s.below(len(patches))
		parts := parted(patches[at], s, s.below(4) > 0)
		if len(patches)-1+len(parts) <= count {
			patches = append(slices.Delete(patches, at, at+1), parts...)
		}
	}
	for i := range patches {
		k := s.below(len(patches))
		patches[i], patches[k] = patches[k], patches[i]
		patches[i].Color = s.below(6)
	}
	return layoutOf(width, height, patches...)
}

// largeLayouts are layouts of each width and height.
func largeLayouts() []impl.Layout {
	var layouts []impl.Layout
	s := &series{last: 9}
	for width := 1; width <= 12; width++ {
		for height := 1; height <= 12; height++ {
			for _, count := range []int{1, 2 + s.below(10), 12} {
				layouts = append(layouts, partedLayout(width, height, count, s))
			}
		}
	}
	return layouts
}

// someLayouts are fewer layouts: those that are drawn and the large ones.
func someLayouts() []impl.Layout {
	layouts := largeLayouts()
	for _, c := range layoutCases() {
		layouts = append(layouts, drawn(c.rows...))
	}
	return layouts
}

// reversed has the patches in the opposite order.
func reversed(l impl.Layout) impl.Layout {
	m := copyOfLayout(l)
	slices.Reverse(m.Patches)
	return m
}

func validLayouts() []impl.Layout {
	layouts := smallLayouts()
	for _, l := range someLayouts() {
		layouts = append(layouts, l, reversed(l))
	}
	return layouts
}

func TestLayoutsOfAllKindsAreTried(t *testing.T) {
	twelve, around := 0, 0
	for _, l := range largeLayouts() {
		if len(l.Patches) == 12 {
			twelve++
		}
		if lineOf(l) == "" && len(l.Patches) > 1 {
			around++
		}
	}
	if twelve < 100 || around < 50 {
		t.Errorf("%d layouts of 12 patches, and %d of patches around each other", twelve, around)
	}
}

// lineOf names a straight line through the layout that goes through no patch, if there is one.
func lineOf(l impl.Layout) string {
	for at := 1; at < l.Width; at++ {
		if !slices.ContainsFunc(l.Patches, func(p impl.Patch) bool { return p.X < at && at < p.X+p.W }) {
			return "x " + impl.FormatInt(at)
		}
	}
	for at := 1; at < l.Height; at++ {
		if !slices.ContainsFunc(l.Patches, func(p impl.Patch) bool { return p.Y < at && at < p.Y+p.H }) {
			return "y " + impl.FormatInt(at)
		}
	}
	return ""
}

func TestEachSquareHasOnePatch(t *testing.T) {
	for _, l := range validLayouts() {
		if !impl.LayoutOk(l) {
			t.Fatalf("LayoutOk(%v) = false", l)
		}
		wantPatches(t, l, pictureOfLayout(l))
		squares := make([]int, len(l.Patches))
		for y := range l.Height {
			for x := range l.Width {
				squares[impl.PatchAt(l, x, y)]++
			}
		}
		for i, p := range l.Patches {
			if squares[i] != p.W*p.H {
				t.Errorf("the patch %d of %v covers %d squares", i, l, squares[i])
			}
		}
	}
}

func TestCommonSidesAreTheSeams(t *testing.T) {
	for _, l := range validLayouts() {
		common := commonSidesOf(pictureOfLayout(l))
		wantBeside(t, l, func(i int, k int) bool { return common[[2]int{i, k}] > 0 })
		length := 0
		for _, part := range common {
			length += part
		}
		if got := impl.SeamLength(l); got != length {
			t.Errorf("SeamLength(%v) = %d, want %d", l, got, length)
		}
	}
}

func TestColorsChangeNoSeam(t *testing.T) {
	for _, l := range someLayouts() {
		for a := range 6 {
			m := copyOfLayout(l)
			for i := range m.Patches {
				m.Patches[i].Color = a
			}
			if !impl.LayoutOk(m) || impl.SeamLength(m) != impl.SeamLength(l) {
				t.Errorf("with one color, %v has other seams", l)
			}
			wantPatches(t, m, pictureOfLayout(l))
			wantBeside(t, m, func(i int, k int) bool { return impl.AreBeside(l, i, k) })
		}
	}
}

func TestLayoutTakesEachColor(t *testing.T) {
	for _, l := range someLayouts() {
		for i := range l.Patches {
			for a := range 6 {
				m := copyOfLayout(l)
				m.Patches[i].Color = a
				if !impl.LayoutOk(m) {
					t.Errorf("LayoutOk(%v) = false", m)
				}
			}
		}
	}
}

func TestPatchAtFarFromTheLayout(t *testing.T) {
	far := []int{math.MinInt, math.MinInt + 1, -1 << 32, -13, -1, 12, 13, 1 << 32, math.MaxInt - 1, math.MaxInt}
	for _, l := range someLayouts() {
		for _, n := range far {
			for _, near := range append([]int{0, 1, 11}, far...) {
				if impl.PatchAt(l, n, near) != -1 || impl.PatchAt(l, near, n) != -1 {
					t.Errorf("%v has a patch at %d, %d or at %d, %d", l, n, near, near, n)
				}
			}
		}
	}
}

func TestAreBesideWithoutPatch(t *testing.T) {
	for _, l := range someLayouts() {
		n := len(l.Patches)
		for _, no := range []int{math.MinInt, -1 << 32, -n - 1, -n, -2, -1, n, n + 1, 2 * n, 13, 1 << 32, math.MaxInt} {
			for _, i := range []int{math.MinInt, -1, 0, 1, n - 2, n - 1, n, math.MaxInt} {
				if impl.AreBeside(l, no, i) || impl.AreBeside(l, i, no) {
					t.Errorf("in %v, %d and %d are beside each other", l, no, i)
				}
			}
		}
	}
}

func TestTurnLayoutByHand(t *testing.T) {
	cases := []struct {
		name      string
		l, turned impl.Layout
	}{
		{"one square", drawn("a"), drawn("a")},
		{"a row", drawn("abc"), drawn("a", "b", "c")},
		{"a column", drawn("a", "b", "c"), drawn("cba")},
		{"four squares", drawn("ab", "cd"), drawn("ca", "db")},
		{"a row above two patches", drawn("aaaa", "bccc", "bccc"), drawn("bba", "cca", "cca", "cca")},
		{"a column beside two patches", drawn("bba", "cca", "cca", "cca"), drawn("cccb", "cccb", "aaaa")},
		{"patches around each other", drawn("aab", "deb", "dcc"), drawn("dda", "cea", "cbb")},
		{"the other way", drawn("abb", "aec", "ddc"), drawn("daa", "deb", "ccb")},
		{"a row of 12", drawn("aaaabbbbbbbc"), drawn(strings.Split("aaaabbbbbbbc", "")...)},
		{"a column of 12", drawn(strings.Split("aaaabbbbbbbc", "")...), drawn("cbbbbbbbaaaa")},
		{
			"its numbers",
			layoutOf(5, 2, impl.Patch{X: 3, Y: 0, W: 2, H: 1, Color: 4}, impl.Patch{X: 0, Y: 0, W: 3, H: 2, Color: 1}, impl.Patch{X: 3, Y: 1, W: 2, H: 1, Color: 0}),
			layoutOf(2, 5, impl.Patch{X: 1, Y: 3, W: 1, H: 2, Color: 4}, impl.Patch{X: 0, Y: 0, W: 2, H: 3, Color: 1}, impl.Patch{X: 0, Y: 3, W: 1, H: 2, Color: 0}),
		},
	}
	for _, c := range cases {
		wantLayout(t, c.name, impl.TurnLayout(c.l), c.turned)
	}
}

func TestTurnLayoutMovesEachSquare(t *testing.T) {
	for _, l := range validLayouts() {
		turned := impl.TurnLayout(l)
		if !impl.LayoutOk(turned) || turned.Width != l.Height || turned.Height != l.Width {
			t.Fatalf("TurnLayout(%v) = %v", l, turned)
		}
		picture := map[point]int{}
		for s, i := range pictureOfLayout(l) {
			picture[point{l.Height - 1 - s.y, s.x}] = i
		}
		wantPatches(t, turned, picture)
		for i, p := range l.Patches {
			if turned.Patches[i].Color != p.Color {
				t.Errorf("the patch %d of %v has another color in %v", i, l, turned)
			}
		}
	}
}

func TestTurnLayoutKeepsTheSeams(t *testing.T) {
	for _, l := range validLayouts() {
		turned := impl.TurnLayout(l)
		if got, want := impl.SeamLength(turned), impl.SeamLength(l); got != want {
			t.Errorf("SeamLength(%v) = %d, but %d before the turn", turned, got, want)
		}
		wantBeside(t, turned, func(i int, k int) bool { return impl.AreBeside(l, i, k) })
	}
}

func TestFourTurnsOfLayouts(t *testing.T) {
	for _, l := range validLayouts() {
		half := impl.TurnLayout(impl.TurnLayout(l))
		for i, p := range half.Patches {
			q := l.Patches[i]
			if want := (impl.Patch{X: l.Width - q.X - q.W, Y: l.Height - q.Y - q.H, W: q.W, H: q.H, Color: q.Color}); p != want {
				t.Errorf("the patch %d of %v is %v after a half turn, want %v", i, l, p, want)
			}
		}
		wantLayout(t, "after four turns", impl.TurnLayout(impl.TurnLayout(half)), l)
	}
}

func TestSampleLayout(t *testing.T) {
	l := impl.SampleLayout()
	wantLayout(t, "the sample", l, layoutOf(3, 3,
		impl.Patch{X: 0, Y: 0, W: 2, H: 1, Color: 0}, impl.Patch{X: 2, Y: 0, W: 1, H: 2, Color: 1},
		impl.Patch{X: 1, Y: 2, W: 2, H: 1, Color: 2}, impl.Patch{X: 0, Y: 1, W: 1, H: 2, Color: 3},
		impl.Patch{X: 1, Y: 1, W: 1, H: 1, Color: 4}))
	if !impl.LayoutOk(l) || impl.SeamLength(l) != 8 {
		t.Errorf("LayoutOk is %v and SeamLength %d for the sample, want true and 8", impl.LayoutOk(l), impl.SeamLength(l))
	}
	if line := lineOf(l); line != "" {
		t.Errorf("a straight seam leads through the sample, at %s", line)
	}
	wantPatches(t, l, pictureOfRows([]string{"aab", "deb", "dcc"}))
	apart := []string{"02", "13"}
	wantBeside(t, l, func(i int, k int) bool {
		return i >= 0 && i < k && k < 5 && !slices.Contains(apart, digitsOf([]int{i, k}))
	})
}

// badLayout is a layout that is not valid.
type badLayout struct {
	name string
	l    impl.Layout
}

// layoutsOfWrongSize have a width or a height that is not allowed, and patches that would cover them.
func layoutsOfWrongSize() []badLayout {
	layouts := []badLayout{
		{"the zero Layout", impl.Layout{}},
		{"an empty list of patches", impl.Layout{Patches: []impl.Patch{}}},
		{"nothing, with a patch of nothing", layoutOf(0, 0, rect(0, 0, 0, 0))},
		{"nothing, with a patch", layoutOf(0, 0, rect(0, 0, 1, 1))},
		{"a negative size", layoutOf(-2, -2, rect(0, 0, -2, -2))},
		{"a negative size, with a patch that is as large", layoutOf(-2, -2, rect(0, 0, 2, 2))},
		{"a negative size, with a patch before 0", layoutOf(-2, -2, rect(-2, -2, 2, 2))},
		{"a product that is 0", layoutOf(1<<32, 1<<32)},
		{"products that are 0", layoutOf(1<<32, 1<<32, rect(0, 0, 1<<32, 1<<32))},
		{"products that are 1", layoutOf(math.MaxInt, math.MaxInt, rect(0, 0, math.MaxInt, math.MaxInt))},
		{"the least int", layoutOf(math.MinInt, math.MinInt, rect(0, 0, math.MinInt, math.MinInt))},
	}
	for _, n := range []int{math.MinInt, -1 << 32, -13, -1, 0, 13, 14, 24, 1 << 32, math.MaxInt} {
		for _, m := range []int{1, 2, 12} {
			layouts = append(layouts,
				badLayout{"a wrong width without patches", layoutOf(n, m)},
				badLayout{"a wrong height without patches", layoutOf(m, n)},
				badLayout{"a wrong width", layoutOf(n, m, rect(0, 0, n, m))},
				badLayout{"a wrong height", layoutOf(m, n, rect(0, 0, m, n))},
				badLayout{"a wrong width and a patch that is not", layoutOf(n, m, rect(0, 0, m, m))},
				badLayout{"a wrong height and a patch that is not", layoutOf(m, n, rect(0, 0, m, m))},
				badLayout{"a wrong width in two parts", layoutOf(n, m, rect(0, 0, 6, m), rect(6, 0, n-6, m))},
				badLayout{"a wrong height in two parts", layoutOf(m, n, rect(0, 0, m, 6), rect(0, 6, m, n-6))})
		}
		layouts = append(layouts, badLayout{"a wrong width and height", layoutOf(n, n, rect(0, 0, n, n))})
	}
	return layouts
}

// squaresOf are patches of one square each, which cover a layout.
func squaresOf(width int, height int) []impl.Patch {
	var patches []impl.Patch
	for i := range width * height {
		patches = append(patches, rect(i%width, i/width, 1, 1))
	}
	return patches
}

// layoutsOfWrongNumber have no patches, or more than 12.
func layoutsOfWrongNumber() []badLayout {
	strips := drawn("a", "b", "c", "d", "e", "f", "g", "h", "i", "j", "k", "l").Patches
	for i := range strips {
		strips[i].W = 12
	}
	thirteen := append(slices.Clone(strips), rect(6, 11, 6, 1))
	thirteen[11].W = 6
	return []badLayout{
		{"no patches", layoutOf(1, 1)},
		{"no patches in a larger layout", layoutOf(12, 12)},
		{"an empty list", layoutOf(4, 3, []impl.Patch{}...)},
		{"13 patches", layoutOf(12, 12, thirteen...)},
		{"13 patches, reversed", reversed(layoutOf(12, 12, thirteen...))},
		{"13 patches in a layout of 7 times 2", layoutOf(7, 2, append(squaresOf(7, 2)[2:], rect(0, 0, 2, 1))...)},
		{"14 patches in a layout of 7 times 2", layoutOf(7, 2, squaresOf(7, 2)...)},
		{"13 squares in a row", layoutOf(13, 1, squaresOf(13, 1)...)},
		{"13 squares in a column", layoutOf(1, 13, squaresOf(1, 13)...)},
		{"144 patches", layoutOf(12, 12, squaresOf(12, 12)...)},
		{"13 times the same patch", layoutOf(1, 1, slices.Repeat(squaresOf(1, 1), 13)...)},
		{"12 patches and one of nothing", layoutOf(12, 12, append(slices.Clone(strips), impl.Patch{})...)},
	}
}

// layoutsThatOverlap have as many squares as their patches, but one is in two of them and one in none, or they have fewer.
func layoutsThatOverlap() []badLayout {
	return []badLayout{
		{"the same patch twice", layoutOf(1, 1, rect(0, 0, 1, 1), rect(0, 0, 1, 1))},
		{"the same patch twice, and none beside it", layoutOf(2, 1, rect(0, 0, 1, 1), rect(0, 0, 1, 1))},
		{"the same row twice", layoutOf(2, 2, rect(0, 0, 2, 1), rect(0, 0, 2, 1))},
		{"the same square in two colors", layoutOf(2, 1, rect(0, 0, 1, 1), impl.Patch{W: 1, H: 1, Color: 1})},
		{"a row and a column", layoutOf(2, 2, rect(0, 0, 2, 1), rect(0, 0, 1, 2))},
		{"a column and a row below", layoutOf(2, 2, rect(1, 0, 1, 2), rect(0, 1, 2, 1))},
		{"a patch on all", layoutOf(2, 2, rect(0, 0, 2, 2), rect(1, 1, 1, 1))},
		{"a patch below all", layoutOf(2, 2, rect(1, 1, 1, 1), rect(0, 0, 2, 2))},
		{"a bar across a bar", layoutOf(3, 3, rect(0, 1, 3, 1), rect(1, 0, 1, 3), rect(0, 0, 1, 1), rect(2, 0, 1, 1), rect(2, 2, 1, 1))},
		{"a patch within another one", layoutOf(4, 3, rect(0, 0, 3, 3), rect(1, 1, 1, 1), rect(3, 0, 1, 2))},
		{"the last on the first", layoutOf(4, 1, rect(0, 0, 1, 1), rect(1, 0, 1, 1), rect(2, 0, 1, 1), rect(0, 0, 1, 1))},
		{"the last on the one before", layoutOf(4, 1, rect(0, 0, 1, 1), rect(1, 0, 1, 1), rect(2, 0, 1, 1), rect(2, 0, 1, 1))},
		{"overlapping by a column", layoutOf(5, 2, rect(0, 0, 3, 2), rect(2, 0, 2, 2))},
		{"overlapping by a row", layoutOf(2, 5, rect(0, 2, 2, 3), rect(0, 1, 2, 2))},
		{"overlapping in a corner", layoutOf(4, 4, rect(0, 0, 2, 2), rect(1, 1, 3, 3), rect(2, 0, 2, 1), rect(0, 2, 1, 1))},
	}
}

// layoutsWithHoles leave a square uncovered.
func layoutsWithHoles() []badLayout {
	return []badLayout{
		{"no last square", layoutOf(2, 1, rect(0, 0, 1, 1))},
		{"no first square", layoutOf(1, 2, rect(0, 1, 1, 1))},
		{"no middle", layoutOf(3, 3, impl.SampleLayout().Patches[:4]...)},
		{"no corner", layoutOf(3, 3, impl.SampleLayout().Patches[1:]...)},
		{"too small", layoutOf(12, 12, rect(0, 0, 12, 11))},
		{"one square in a large layout", layoutOf(12, 12, rect(5, 5, 1, 1))},
		{"no last column", layoutOf(4, 3, rect(0, 0, 3, 1), rect(0, 1, 3, 2))},
		{"width and height exchanged", layoutOf(3, 2, rect(0, 0, 2, 2), rect(2, 0, 2, 1))},
	}
}

// layoutsThatReachOut have patches outside, though they have as many squares as the layout.
func layoutsThatReachOut() []badLayout {
	layouts := []badLayout{
		{"a row to the left", layoutOf(2, 1, rect(-1, 0, 2, 1))},
		{"a row to the right", layoutOf(2, 1, rect(1, 0, 2, 1))},
		{"a column up", layoutOf(1, 2, rect(0, -1, 1, 2))},
		{"a column down", layoutOf(1, 2, rect(0, 1, 1, 2))},
		{"a column instead of a row", layoutOf(2, 1, rect(0, 0, 1, 2))},
		{"a row instead of a column", layoutOf(1, 2, rect(0, 0, 2, 1))},
		{"a larger patch", layoutOf(2, 2, rect(0, 0, 3, 3))},
		{"a larger patch on all sides", layoutOf(1, 1, rect(-1, -1, 3, 3))},
		{"a second patch outside", layoutOf(2, 2, rect(0, 0, 2, 2), rect(2, 0, 1, 1))},
		{"a second patch below", layoutOf(2, 2, rect(0, 0, 2, 2), rect(0, 2, 2, 1))},
		{"a second patch before 0", layoutOf(2, 2, rect(0, 0, 2, 2), rect(-1, 0, 1, 2))},
		{"a second patch in the row above 0", layoutOf(2, 2, rect(0, 0, 2, 2), rect(0, -1, 2, 1))},
	}
	for _, far := range []int{1, 2, 7, 12} {
		layouts = append(layouts,
			badLayout{"moved to the left", layoutOf(2, 2, rect(-far, 0, 2, 2))},
			badLayout{"moved to the right", layoutOf(2, 2, rect(far, 0, 2, 2))},
			badLayout{"moved up", layoutOf(2, 2, rect(0, -far, 2, 2))},
			badLayout{"moved down", layoutOf(2, 2, rect(0, far, 2, 2))},
			badLayout{"moved both ways", layoutOf(2, 2, rect(far, -far, 2, 2))})
	}
	return layouts
}

// layoutsOfNothing have patches without squares, or with less than none.
func layoutsOfNothing() []badLayout {
	return []badLayout{
		{"the zero Patch", layoutOf(1, 1, impl.Patch{})},
		{"the zero Patch after all", layoutOf(1, 1, rect(0, 0, 1, 1), impl.Patch{})},
		{"no width", layoutOf(2, 2, rect(0, 0, 2, 2), rect(1, 0, 0, 2))},
		{"no height", layoutOf(2, 2, rect(0, 0, 2, 2), rect(0, 1, 2, 0))},
		{"no width, before all", layoutOf(2, 2, rect(0, 0, 0, 2), rect(0, 0, 2, 2))},
		{"no height, at the lower right corner", layoutOf(2, 2, rect(0, 0, 2, 2), rect(2, 2, 0, 0))},
		{"no width at the right side", layoutOf(2, 2, rect(0, 0, 2, 2), rect(2, 0, 0, 1))},
		{"backwards", layoutOf(2, 2, rect(2, 2, -2, -2))},
		{"backwards from 0", layoutOf(2, 2, rect(0, 0, -2, -2))},
		{"backwards to the left", layoutOf(2, 2, rect(2, 0, -2, 2))},
		{"backwards and up", layoutOf(2, 2, rect(0, 2, 2, -2))},
		{"less than nothing", layoutOf(1, 2, rect(0, 0, 1, 1), rect(0, 1, 1, 1), rect(0, 0, 0, -1))},
		{"a part that takes away what another one has too much", layoutOf(2, 1, rect(0, 0, 2, 2), rect(2, 0, -2, 1))},
	}
}

// layoutsOfHugeNumbers have numbers whose sums and products do not fit into an int, so that some of them seem to be right.
func layoutsOfHugeNumbers() []badLayout {
	most, least := math.MaxInt, math.MinInt
	layouts := []badLayout{
		{"a product that is 1", layoutOf(1, 1, rect(0, 0, most, most))},
		{"a product that is 0, after all", layoutOf(1, 1, rect(0, 0, 1, 1), rect(0, 0, 1<<32, 1<<32))},
		{"a product that is 0, outside", layoutOf(1, 1, rect(0, 0, 1, 1), rect(1, 1, 1<<32, 1<<32))},
		{"a product that is 4", layoutOf(1, 4, rect(0, 0, 1<<62+1, 4))},
		{"a product of rows that is 4", layoutOf(4, 1, rect(0, 0, 4, 1<<62+1))},
		{"a product that is 4 and a sum that is less than nothing", layoutOf(1, 4, rect(most-1<<62, 0, 1<<62+1, 4))},
		{"the same with rows", layoutOf(4, 1, rect(0, most-1<<62, 4, 1<<62+1))},
		{"a sum that is 1", layoutOf(1, 1, rect(1-most, 0, most, 1))},
		{"a sum that is too large by 1", layoutOf(2, 2, rect(1, 0, most, 2))},
		{"a sum that is less than nothing", layoutOf(1, 1, rect(most, 0, most, 1))},
		{"a sum of rows that is less than nothing", layoutOf(1, 1, rect(0, most, 1, most))},
		{"sums that are 0", layoutOf(1, 1, rect(least, least, least, least))},
		{"a difference that is too large", layoutOf(12, 12, rect(0, 0, least, 12))},
		{"a difference of rows that is too large", layoutOf(12, 12, rect(0, 0, 12, least))},
	}
	odd := []int{least, least + 1, -1 << 62, -1 << 32, 1 << 32, 1<<62 - 1, 1 << 62, most - 1, most}
	for _, n := range odd {
		layouts = append(layouts,
			badLayout{"a huge X", layoutOf(2, 2, rect(n, 0, 2, 2))},
			badLayout{"a huge Y", layoutOf(2, 2, rect(0, n, 2, 2))},
			badLayout{"a huge W", layoutOf(2, 2, rect(0, 0, n, 2))},
			badLayout{"a huge H", layoutOf(2, 2, rect(0, 0, 2, n))},
			badLayout{"a huge color", layoutOf(2, 2, impl.Patch{W: 2, H: 2, Color: n})},
			badLayout{"a huge second patch", layoutOf(2, 2, rect(0, 0, 2, 2), rect(n, n, 1, 1))})
		for _, m := range odd {
			layouts = append(layouts,
				badLayout{"a huge X and W", layoutOf(2, 2, rect(n, 0, m, 2))},
				badLayout{"a huge Y and H", layoutOf(2, 2, rect(0, n, 2, m))},
				badLayout{"a huge W and H", layoutOf(2, 2, rect(0, 0, n, m))},
				badLayout{"a huge X and Y", layoutOf(2, 2, rect(n, m, 2, 2))},
				badLayout{"huge numbers only", layoutOf(2, 2, rect(n, m, n, m), rect(m, n, m, n))})
		}
	}
	return layouts
}

// layoutsOfWrongColor have a color that does not exist.
func layoutsOfWrongColor() []badLayout {
	var layouts []badLayout
	for _, l := range []impl.Layout{drawn("a"), drawn("aaaa", "bccc", "bccc"), impl.SampleLayout(), drawn("abcdefghijkl")} {
		for i := range l.Patches {
			for _, a := range []int{math.MinInt, -6, -1, 6, 7, 12, math.MaxInt} {
				m := copyOfLayout(l)
				m.Patches[i].Color = a
				layouts = append(layouts, badLayout{"the color " + impl.FormatInt(a), m})
			}
		}
	}
	return layouts
}

func badLayouts() []badLayout {
	return slices.Concat(layoutsOfWrongSize(), layoutsOfWrongNumber(), layoutsThatOverlap(), layoutsWithHoles(),
		layoutsThatReachOut(), layoutsOfNothing(), layoutsOfHugeNumbers(), layoutsOfWrongColor())
}

// wantNoLayout checks the results for a layout that is not valid.
func wantNoLayout(t *testing.T, name string, l impl.Layout) {
	t.Helper()
	if impl.LayoutOk(l) {
		t.Errorf("%s: LayoutOk(%v) = true", name, l)
	}
	if got := impl.SeamLength(l); got != -1 {
		t.Errorf("%s: SeamLength(%v) = %d, want -1", name, l, got)
	}
	wantLayout(t, name+", turned", impl.TurnLayout(l), impl.Layout{})
	for i := -1; i <= 3; i++ {
		for k := -1; k <= 3; k++ {
			if got := impl.PatchAt(l, i, k); got != -1 {
				t.Errorf("%s: PatchAt(%v, %d, %d) = %d, want -1", name, l, i, k, got)
			}
			if impl.AreBeside(l, i, k) {
				t.Errorf("%s: AreBeside(%v, %d, %d) = true", name, l, i, k)
			}
		}
	}
}

func TestBadLayouts(t *testing.T) {
	for _, c := range badLayouts() {
		wantNoLayout(t, c.name, c.l)
		wantNoLayout(t, c.name+", reversed", reversed(c.l))
		for _, n := range []int{math.MinInt, -2, 11, 12, 13, math.MaxInt} {
			if impl.PatchAt(c.l, n, n) != -1 || impl.PatchAt(c.l, n, 0) != -1 || impl.PatchAt(c.l, 0, n) != -1 {
				t.Errorf("%s: %v has a patch at %d", c.name, c.l, n)
			}
			if impl.AreBeside(c.l, n, 0) || impl.AreBeside(c.l, 0, n) || impl.AreBeside(c.l, n, n) {
				t.Errorf("%s: in %v, the patch %d is beside another one", c.name, c.l, n)
			}
		}
	}
}

// withOneChange are the layouts that have just one number, apart from the colors, that is another one. Then they are not covered any more.
func withOneChange(l impl.Layout, numbers []int) []impl.Layout {
	var layouts []impl.Layout
	add := func(number func(m *impl.Layout) *int) {
		for _, n := range numbers {
			m := copyOfLayout(l)
			if place := number(&m); *place != n {
				*place = n
				layouts = append(layouts, m)
			}
		}
	}
	add(func(m *impl.Layout) *int { return &m.Width })
	add(func(m *impl.Layout) *int { return &m.Height })
	for i := range l.Patches {
		add(func(m *impl.Layout) *int { return &m.Patches[i].X })
		add(func(m *impl.Layout) *int { return &m.Patches[i].Y })
		add(func(m *impl.Layout) *int { return &m.Patches[i].W })
		add(func(m *impl.Layout) *int { return &m.Patches[i].H })
	}
	return layouts
}

func TestOneOtherNumber(t *testing.T) {
	numbers := []int{math.MinInt, -12, math.MaxInt, 1 << 32}
	for n := -2; n <= 14; n++ {
		numbers = append(numbers, n)
	}
	for _, l := range someLayouts() {
		for _, m := range withOneChange(l, numbers) {
			wantNoLayout(t, "one other number", m)
		}
	}
}

func TestOnePatchLessOrMore(t *testing.T) {
	for _, l := range someLayouts() {
		for i, p := range l.Patches {
			less := copyOfLayout(l)
			less.Patches = slices.Delete(less.Patches, i, i+1)
			wantNoLayout(t, "one patch less", less)
			more := copyOfLayout(l)
			more.Patches = append(more.Patches, p)
			wantNoLayout(t, "one patch twice", more)
			for k := range l.Patches {
				if k != i {
					other := copyOfLayout(l)
					other.Patches[k] = p
					wantNoLayout(t, "one patch instead of another one", other)
				}
			}
		}
	}
}

// coversOnce says once more which layouts the document allows, for numbers that are not large.
func coversOnce(l impl.Layout) bool {
	if l.Width < 1 || l.Width > 12 || l.Height < 1 || l.Height > 12 || len(l.Patches) < 1 || len(l.Patches) > 12 {
		return false
	}
	var times [12][12]int
	for _, p := range l.Patches {
		if p.W < 1 || p.H < 1 || p.Color < 0 || p.Color > 5 {
			return false
		}
		for y := p.Y; y < p.Y+p.H; y++ {
			for x := p.X; x < p.X+p.W; x++ {
				if x < 0 || x >= l.Width || y < 0 || y >= l.Height {
					return false
				}
				times[y][x]++
			}
		}
	}
	for y := range l.Height {
		for x := range l.Width {
			if times[y][x] != 1 {
				return false
			}
		}
	}
	return true
}

// patchesFrom are all patches with these numbers.
func patchesFrom(places []int, sizes []int) []impl.Patch {
	var patches []impl.Patch
	for _, x := range places {
		for _, y := range places {
			for _, w := range sizes {
				for _, h := range sizes {
					patches = append(patches, rect(x, y, w, h))
				}
			}
		}
	}
	return patches
}

// eachLayout goes through all lists of count patches, for layouts up to 3 times 3.
func eachLayout(patches []impl.Patch, count int, visit func(l impl.Layout)) {
	list := make([]impl.Patch, count)
	var choose func(at int)
	choose = func(at int) {
		if at < count {
			for _, p := range patches {
				list[at] = p
				choose(at + 1)
			}
			return
		}
		for width := range 4 {
			for height := range 4 {
				visit(layoutOf(width, height, list...))
			}
		}
	}
	choose(0)
}

func TestLayoutOkOfAllLists(t *testing.T) {
	lists := []struct {
		places, sizes []int
		count         int
	}{
		{[]int{-2, -1, 0, 1, 2, 3}, []int{-2, -1, 0, 1, 2, 3, 4}, 1},
		{[]int{-1, 0, 1, 2}, []int{0, 1, 2, 3}, 2},
		{[]int{0, 1, 2}, []int{1, 2, 3}, 2},
		{[]int{0, 1}, []int{0, 1, 2}, 3},
		{[]int{0, 1}, []int{1, 2}, 4},
	}
	valid := 0
	for _, c := range lists {
		eachLayout(patchesFrom(c.places, c.sizes), c.count, func(l impl.Layout) {
			want := coversOnce(l)
			if got := impl.LayoutOk(l); got != want {
				t.Errorf("LayoutOk(%v) = %v", l, got)
			}
			if want {
				valid++
			}
		})
	}
	if valid < 100 {
		t.Errorf("only %d of these layouts are valid", valid)
	}
}

// callAllForLayout calls each function that takes a layout.
func callAllForLayout(l impl.Layout) {
	impl.LayoutOk(l)
	impl.SeamLength(l)
	impl.TurnLayout(l)
	for i := -1; i <= 3; i++ {
		impl.PatchAt(l, i, 0)
		impl.PatchAt(l, 0, i)
		for k := -1; k <= 3; k++ {
			impl.AreBeside(l, i, k)
		}
	}
}

// roomyLayout has the same patches in the middle of a longer list, which it returns too.
func roomyLayout(l impl.Layout) (impl.Layout, []impl.Patch) {
	n := len(l.Patches)
	room := make([]impl.Patch, 2+n+20)
	for i := range room {
		room[i] = impl.Patch{X: 70 + i, Y: 70, W: 70, H: 70, Color: 70}
	}
	copy(room[2:], l.Patches)
	return layoutOf(l.Width, l.Height, room[2:2+n]...), room
}

func TestLayoutArgumentsStay(t *testing.T) {
	layouts := someLayouts()
	for _, c := range badLayouts() {
		layouts = append(layouts, c.l)
	}
	for _, l := range layouts {
		m, room := roomyLayout(l)
		old := slices.Clone(room)
		callAllForLayout(m)
		if !slices.Equal(room, old) {
			t.Errorf("the patches %v or their neighbours were changed: %v", old, room)
		}
	}
}

// wipePatches writes into the list and into the spare capacity behind it.
func wipePatches(patches []impl.Patch) {
	for i := range patches[:cap(patches)] {
		patches[:cap(patches)][i] = impl.Patch{X: 99, Y: 99, W: 99, H: 99, Color: 99}
	}
}

func TestTurnLayoutSharesNoMemory(t *testing.T) {
	for _, l := range append(someLayouts(), impl.Layout{}, layoutOf(2, 2, rect(0, 0, 1, 1))) {
		m, room := roomyLayout(l)
		old := slices.Clone(room)
		want := copyOfLayout(impl.TurnLayout(l))
		first, second := impl.TurnLayout(m), impl.TurnLayout(m)
		wipePatches(first.Patches)
		wantLayout(t, "a result after a change of an equal one", second, want)
		if !slices.Equal(room, old) {
			t.Errorf("the patches %v were changed with a result: %v", old, room)
		}
		again := impl.TurnLayout(m)
		wipePatches(m.Patches)
		wantLayout(t, "a result after a change of the argument", again, want)
	}
}

func TestSampleLayoutsShareNoMemory(t *testing.T) {
	want := copyOfLayout(impl.SampleLayout())
	first, second := impl.SampleLayout(), impl.SampleLayout()
	wipePatches(first.Patches)
	wantLayout(t, "a sample after a change of another one", second, want)
	wantLayout(t, "the next sample", impl.SampleLayout(), want)
}
