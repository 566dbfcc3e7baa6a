package tests

import (
	"math"
	"slices"
	"strings"
	"testing"

	"loop.example/g03304/impl"
)

// Promise 10: if a layout can be sewn, every cut leaves parts that can be sewn, and otherwise there is a knot.

// cutFrom reads a cut like x3 or y12.
func cutFrom(text string) impl.Cut {
	at, _ := impl.ParseUint(text[1:])
	return impl.Cut{Upright: text[0] == 'x', At: at}
}

// cutsFrom reads several cuts.
func cutsFrom(text string) []impl.Cut {
	var cuts []impl.Cut
	for _, word := range strings.Fields(text) {
		cuts = append(cuts, cutFrom(word))
	}
	return cuts
}

func wantCuts(t *testing.T, name string, got []impl.Cut, want []impl.Cut) {
	t.Helper()
	if !slices.Equal(got, want) {
		t.Errorf("%s: the cuts are %v, want %v", name, got, want)
	}
}

// sewCase is a drawn layout with its cuts and its first knot, which are worked out by hand. A layout without a knot can be sewn.
type sewCase struct {
	name string
	rows []string
	cuts string
	knot []string
}

// roundKnot and otherKnot are patches around each other.
func roundKnot() []string { return []string{"aab", "deb", "dcc"} }
func otherKnot() []string { return []string{"ffg", "ijg", "ihh"} }

// sewableCases have no knot.
func sewableCases() []sewCase {
	letters := strings.Split("abcdefghijkl", "")
	strips := make([]string, 12)
	for i := range 12 {
		strips[i] = strings.Repeat(letters[i], 12)
	}
	a, b, c := "aaabbbcccddd", "eeefffggghhh", "iiijjjkkklll"
	return []sewCase{
		{"one square", []string{"a"}, "", nil},
		{"one patch", []string{"aa", "aa", "aa"}, "", nil},
		{"one patch of 12 times 12", slices.Repeat([]string{strings.Repeat("a", 12)}, 12), "", nil},
		{"two squares in a row", []string{"ab"}, "x1", nil},
		{"two squares in a column", []string{"b", "a"}, "y1", nil},
		{"three squares in a row", []string{"bca"}, "x1 x2", nil},
		{"two patches of several squares", []string{"bbbaaaaa", "bbbaaaaa"}, "x3", nil},
		{"two rows, of which the lower one has two patches", []string{"aaaa", "bccc", "bccc"}, "y1", nil},
		{"two columns, of which the left one has two patches", []string{"ac", "ac", "bc"}, "x1", nil},
		{"four squares", []string{"ab", "cd"}, "x1 y1", nil},
		{"four patches around a point", []string{"bba", "bba", "ddc", "ddc", "ddc"}, "x2 y2", nil},
		{"nine squares", []string{"abc", "def", "ghi"}, "x1 x2 y1 y2", nil},
		{"rows whose seams do not meet", []string{"aaab", "cddd"}, "y1", nil},
		{"columns whose seams do not meet", []string{"ac", "ad", "ad", "bd"}, "x1", nil},
		{"a line that ends before the last row", []string{"aab", "ccb", "dee"}, "y2", nil},
		{"a line that begins after the first row", []string{"aaa", "bcc", "bdd"}, "y1", nil},
		{"a line with a patch across its middle", []string{"ab", "cc", "de"}, "y1 y2", nil},
		{"an upright line with a patch across its middle", []string{"acd", "bce"}, "x1 x2", nil},
		{"12 squares in a row", []string{strings.Join(letters, "")}, "x1 x2 x3 x4 x5 x6 x7 x8 x9 x10 x11", nil},
		{"12 squares in a column", letters, "y1 y2 y3 y4 y5 y6 y7 y8 y9 y10 y11", nil},
		{"12 strips", strips, "y1 y2 y3 y4 y5 y6 y7 y8 y9 y10 y11", nil},
		{"12 columns", slices.Repeat([]string{strings.Join(letters, "")}, 12), "x1 x2 x3 x4 x5 x6 x7 x8 x9 x10 x11", nil},
		{"12 patches of 3 times 4", []string{a, a, a, a, b, b, b, b, c, c, c, c}, "x3 x6 x9 y4 y8", nil},
		{"a long first column", []string{"aaaaaaaaaaab"}, "x11", nil},
		{"12 patches inwards", []string{"abbbbbb", "aeffffc", "aeijjgc", "aeilkgc", "aeilkgc", "aehhhgc", "adddddc"}, "x1", nil},
	}
}

// knotCases are layouts that are a knot themselves.
func knotCases() []sewCase {
	knot := func(name string, rows ...string) sewCase {
		return sewCase{name, rows, "", rows}
	}
	return []sewCase{
		knot("patches around each other", roundKnot()...),
		knot("patches around each other the other way", otherKnot()...),
		knot("patches around a larger one", "aaabb", "cddbb", "cddbb", "ceeee"),
		knot("patches around four squares", "aaaabb", "ffcdbb", "ffghbb", "ffeeee"),
		knot("patches around two rows", "aaab", "cddb", "ceeb", "cfff"),
		knot("long patches around each other", "aaaaaaaaaaab", "cddddddddddb", "ceeeeeeeeeee"),
		knot("a knot in a knot", "aaaab", "dffgb", "dijgb", "dihhb", "dcccc"),
		knot("sides of two patches each", "aaeb", "dggb", "hggf", "hckk"),
		knot("12 patches", "aabcd", "gllld", "gllle", "hlllf", "hijkk"),
	}
}

// sideCases have a knot that one cut lays free.
func sideCases() []sewCase {
	return []sewCase{
		{"a knot on the left", []string{"aabf", "debf", "dccf"}, "x3", roundKnot()},
		{"a knot on the right", []string{"ffaab", "ffdeb", "ffdcc"}, "x2", roundKnot()},
		{"a knot above", []string{"aab", "deb", "dcc", "fff"}, "y3", roundKnot()},
		{"a knot below", []string{"fff", "fff", "aab", "deb", "dcc"}, "y2", roundKnot()},
		{"a knot on the left of two patches", []string{"ffgx", "ijgx", "ihhy"}, "x3", otherKnot()},
		{"a knot below two patches", []string{"xyy", "ffg", "ijg", "ihh"}, "y1", otherKnot()},
		{"a knot on both sides", []string{"aabffg", "debijg", "dccihh"}, "x3", roundKnot()},
		{"a knot on both sides, exchanged", []string{"ffgaab", "ijgdeb", "ihhdcc"}, "x3", otherKnot()},
		{"a knot above and below", []string{"aab", "deb", "dcc", "ffg", "ijg", "ihh"}, "y3", roundKnot()},
		{"a knot above and below, exchanged", []string{"ffg", "ijg", "ihh", "aab", "deb", "dcc"}, "y3", otherKnot()},
		{"a large knot at the right", []string{"zaaabb", "zcddbb", "zcddbb", "zceeee"}, "x1", []string{"aaabb", "cddbb", "cddbb", "ceeee"}},
		{"two patches between two knots", []string{"aabkffg", "debkijg", "dcclihh"}, "x3 x4", roundKnot()},
		{"a knot in a knot, below a strip", []string{"lllll", "aaaab", "dffgb", "dijgb", "dihhb", "dcccc"}, "y1", []string{"aaaab", "dffgb", "dijgb", "dihhb", "dcccc"}},
	}
}

// deeperCases have a knot that several cuts lay free, or two knots of which one is found first.
func deeperCases() []sewCase {
	return []sewCase{
		{"a knot after the last of seven cuts", []string{"fghijklaab", "fghijkldeb", "fghijkldcc"}, "x1 x2 x3 x4 x5 x6 x7", roundKnot()},
		{"a knot before seven patches", []string{"aabfghijkl", "debfghijkl", "dccfghijkl"}, "x3 x4 x5 x6 x7 x8 x9", roundKnot()},
		{"a knot between patches", []string{"fghaabijkl", "fghdebijkl", "fghdccijkl"}, "x1 x2 x3 x6 x7 x8 x9", roundKnot()},
		{"a knot among strips", []string{"fff", "ggg", "aab", "deb", "dcc", "hhh", "iii"}, "y1 y2 y5 y6", roundKnot()},
		{"a knot behind three strips", []string{"fgggg", "faabh", "fdebh", "fdcch"}, "x1", roundKnot()},
		{"a knot behind four strips", []string{"fgggg", "faabh", "fdebh", "fdcch", "fiiih"}, "x1", roundKnot()},
		{"a knot behind seven strips", []string{"mggggg", "mhhhhk", "maablk", "mdeblk", "mdcclk", "miiiik", "mnnnnn"}, "x1", roundKnot()},
		{"the third of four parts is a knot", []string{"ffgg", "aabh", "debh", "dcch"}, "y1", roundKnot()},
		{"the last of four parts is a knot", []string{"fggg", "haab", "hdeb", "hdcc"}, "x1 y1", roundKnot()},
		{"the right one above is a knot, and the left one below", []string{"kkkaab", "kkkdeb", "kkkdcc", "ffglll", "ijglll", "ihhlll"}, "x3 y3", otherKnot()},
		{"the left one above is a knot, and the right one below", []string{"aabkkk", "debkkk", "dcckkk", "lllffg", "lllijg", "lllihh"}, "x3 y3", roundKnot()},
		{"a knot below on the left, and the right part is one", []string{"kkkffg", "aabijg", "debijg", "dccihh"}, "x3", roundKnot()},
		{"a knot on the right above, and the lower part is one", []string{"kaab", "kdeb", "kdcc", "fffg", "ijjg", "ihhh"}, "y3", roundKnot()},
		{"the left part is a knot, and one is above on the right", []string{"aabffg", "debijg", "debihh", "dcckkk"}, "x3", []string{"aab", "deb", "deb", "dcc"}},
		{"the upper part is a knot, and one is below on the left", []string{"aaab", "deeb", "dccc", "ffgk", "ijgk", "ihhk"}, "y3", []string{"aaab", "deeb", "dccc"}},
		{"knots of seven and five patches", []string{"aakbffg", "deebijg", "dlccihh"}, "x4", []string{"aakb", "deeb", "dlcc"}},
	}
}

func sewCases() []sewCase {
	return slices.Concat(sewableCases(), knotCases(), sideCases(), deeperCases())
}

// wantAllCuts checks IsCut and CutsOf for all lines near the layout.
func wantAllCuts(t *testing.T, name string, l impl.Layout, want []impl.Cut) {
	t.Helper()
	wantCuts(t, name, impl.CutsOf(l), want)
	for at := -2; at <= 14; at++ {
		for _, upright := range []bool{true, false} {
			c := impl.Cut{Upright: upright, At: at}
			if got := impl.IsCut(l, c); got != slices.Contains(want, c) {
				t.Errorf("%s: IsCut(%v, %v) = %v", name, l, c, got)
			}
		}
	}
}

// wantSewn checks the results for a layout that has no knot.
func wantSewn(t *testing.T, name string, l impl.Layout) {
	t.Helper()
	if !impl.CanSew(l) {
		t.Errorf("%s: CanSew(%v) = false", name, l)
	}
	if got := impl.CountSeams(l); got != len(l.Patches)-1 {
		t.Errorf("%s: CountSeams(%v) = %d", name, l, got)
	}
	wantNoKnot(t, name, l)
}

func wantNoKnot(t *testing.T, name string, l impl.Layout) {
	t.Helper()
	knot, ok := impl.FirstKnot(l)
	if ok {
		t.Errorf("%s: FirstKnot(%v) returns true", name, l)
	}
	wantLayout(t, name+", the knot", knot, impl.Layout{})
}

// wantKnot checks the results for a layout that has a knot.
func wantKnot(t *testing.T, name string, l impl.Layout, want impl.Layout) {
	t.Helper()
	if impl.CanSew(l) {
		t.Errorf("%s: CanSew(%v) = true", name, l)
	}
	if got := impl.CountSeams(l); got != -1 {
		t.Errorf("%s: CountSeams(%v) = %d, want -1", name, l, got)
	}
	knot, ok := impl.FirstKnot(l)
	if !ok {
		t.Errorf("%s: FirstKnot(%v) returns false", name, l)
	}
	wantLayout(t, name+", the knot", knot, want)
}

func TestSewingByHand(t *testing.T) {
	for _, c := range sewCases() {
		l := drawn(c.rows...)
		if !impl.LayoutOk(l) {
			t.Errorf("%s: LayoutOk(%v) = false", c.name, l)
		}
		wantAllCuts(t, c.name, l, cutsFrom(c.cuts))
		if c.knot == nil {
			wantSewn(t, c.name, l)
		} else {
			wantKnot(t, c.name, l, drawn(c.knot...))
		}
	}
}

// wantParts checks SplitLayout.
func wantParts(t *testing.T, name string, l impl.Layout, c impl.Cut, first impl.Layout, second impl.Layout) {
	t.Helper()
	a, b, ok := impl.SplitLayout(l, c)
	if !ok {
		t.Errorf("%s: SplitLayout(%v, %v) returns false", name, l, c)
	}
	wantLayout(t, name+", the first part", a, first)
	wantLayout(t, name+", the second part", b, second)
}

func wantNoParts(t *testing.T, name string, l impl.Layout, c impl.Cut) {
	t.Helper()
	a, b, ok := impl.SplitLayout(l, c)
	if ok {
		t.Errorf("%s: SplitLayout(%v, %v) returns true", name, l, c)
	}
	wantLayout(t, name+", the first part", a, impl.Layout{})
	wantLayout(t, name+", the second part", b, impl.Layout{})
}

func TestPartsByHand(t *testing.T) {
	nine := []string{"abc", "def", "ghi"}
	four := []string{"kkkaab", "kkkdeb", "kkkdcc", "ffglll", "ijglll", "ihhlll"}
	cases := []struct {
		rows          []string
		cut           string
		first, second []string
	}{
		{[]string{"ab"}, "x1", []string{"a"}, []string{"b"}},
		{[]string{"ba"}, "x1", []string{"b"}, []string{"a"}},
		{[]string{"b", "a"}, "y1", []string{"b"}, []string{"a"}},
		{[]string{"acbd"}, "x2", []string{"ac"}, []string{"bd"}},
		{[]string{"daccb"}, "x2", []string{"da"}, []string{"ccb"}},
		{[]string{"aaaa", "bccc", "bccc"}, "y1", []string{"aaaa"}, []string{"bccc", "bccc"}},
		{[]string{"cca", "bba", "bba"}, "x2", []string{"cc", "bb", "bb"}, []string{"a", "a", "a"}},
		{nine, "x1", []string{"a", "d", "g"}, []string{"bc", "ef", "hi"}},
		{nine, "x2", []string{"ab", "de", "gh"}, []string{"c", "f", "i"}},
		{nine, "y1", []string{"abc"}, []string{"def", "ghi"}},
		{nine, "y2", []string{"abc", "def"}, []string{"ghi"}},
		{[]string{"aabf", "debf", "dccf"}, "x3", roundKnot(), []string{"f", "f", "f"}},
		{[]string{"xyy", "ffg", "ijg", "ihh"}, "y1", []string{"xyy"}, otherKnot()},
		{four, "x3", []string{"kkk", "kkk", "kkk", "ffg", "ijg", "ihh"}, []string{"aab", "deb", "dcc", "lll", "lll", "lll"}},
		{four, "y3", []string{"kkkaab", "kkkdeb", "kkkdcc"}, []string{"ffglll", "ijglll", "ihhlll"}},
		{[]string{"abcdefghijkl"}, "x11", []string{"abcdefghijk"}, []string{"l"}},
		{strings.Split("abcdefghijkl", ""), "y5", strings.Split("abcde", ""), strings.Split("fghijkl", "")},
	}
	for _, c := range cases {
		wantParts(t, strings.Join(c.rows, "/")+" at "+c.cut, drawn(c.rows...), cutFrom(c.cut), drawn(c.first...), drawn(c.second...))
	}
}

func TestPartsAreMoved(t *testing.T) {
	l := layoutOf(5, 4, impl.Patch{X: 3, Y: 1, W: 2, H: 3, Color: 4}, impl.Patch{X: 0, Y: 0, W: 3, H: 1, Color: 1},
		impl.Patch{X: 3, Y: 0, W: 2, H: 1, Color: 2}, impl.Patch{X: 0, Y: 1, W: 3, H: 3})
	wantParts(t, "an upright cut", l, impl.Cut{Upright: true, At: 3},
		layoutOf(3, 4, impl.Patch{X: 0, Y: 0, W: 3, H: 1, Color: 1}, impl.Patch{X: 0, Y: 1, W: 3, H: 3}),
		layoutOf(2, 4, impl.Patch{X: 0, Y: 1, W: 2, H: 3, Color: 4}, impl.Patch{X: 0, Y: 0, W: 2, H: 1, Color: 2}))
	wantParts(t, "a level cut", l, impl.Cut{At: 1},
		layoutOf(5, 1, impl.Patch{X: 0, Y: 0, W: 3, H: 1, Color: 1}, impl.Patch{X: 3, Y: 0, W: 2, H: 1, Color: 2}),
		layoutOf(5, 3, impl.Patch{X: 3, Y: 0, W: 2, H: 3, Color: 4}, impl.Patch{X: 0, Y: 0, W: 3, H: 3}))
}

func TestSampleLayoutIsItsOwnKnot(t *testing.T) {
	wantAllCuts(t, "the sample", impl.SampleLayout(), nil)
	wantKnot(t, "the sample", impl.SampleLayout(), impl.SampleLayout())
	wantKnot(t, "the sample, turned", impl.TurnLayout(impl.SampleLayout()), impl.TurnLayout(impl.SampleLayout()))
}

// cutsOfPicture are the lines of a rectangle of the picture, which has other patches on both sides of each of them. They count from the side of the rectangle.
func cutsOfPicture(picture map[point]int, box impl.Patch) []impl.Cut {
	var cuts []impl.Cut
	for at := 1; at < box.W; at++ {
		parts := true
		for y := box.Y; y < box.Y+box.H; y++ {
			parts = parts && picture[point{box.X + at - 1, y}] != picture[point{box.X + at, y}]
		}
		if parts {
			cuts = append(cuts, impl.Cut{Upright: true, At: at})
		}
	}
	for at := 1; at < box.H; at++ {
		parts := true
		for x := box.X; x < box.X+box.W; x++ {
			parts = parts && picture[point{x, box.Y + at - 1}] != picture[point{x, box.Y + at}]
		}
		if parts {
			cuts = append(cuts, impl.Cut{At: at})
		}
	}
	return cuts
}

// halves are the rectangles on both sides of a cut.
func halves(box impl.Patch, c impl.Cut) (impl.Patch, impl.Patch) {
	a, b := box, box
	if c.Upright {
		a.W, b.X, b.W = c.At, box.X+c.At, box.W-c.At
	} else {
		a.H, b.Y, b.H = c.At, box.Y+c.At, box.H-c.At
	}
	return a, b
}

// layoutIn is the layout of a rectangle of the picture: its patches are as large as the picture shows them there.
func layoutIn(l impl.Layout, picture map[point]int, box impl.Patch) impl.Layout {
	m := layoutOf(box.W, box.H)
	for i, p := range l.Patches {
		part := impl.Patch{X: 12, Y: 12, Color: p.Color}
		right, below := 0, 0
		for y := range box.H {
			for x := range box.W {
				if picture[point{box.X + x, box.Y + y}] == i {
					part.X, part.Y = min(part.X, x), min(part.Y, y)
					right, below = max(right, x+1), max(below, y+1)
				}
			}
		}
		if right > 0 {
			part.W, part.H = right-part.X, below-part.Y
			m.Patches = append(m.Patches, part)
		}
	}
	return m
}

// isOnePatch reports whether the picture has one patch only in the rectangle.
func isOnePatch(picture map[point]int, box impl.Patch) bool {
	for y := range box.H {
		for x := range box.W {
			if picture[point{box.X + x, box.Y + y}] != picture[point{box.X, box.Y}] {
				return false
			}
		}
	}
	return true
}

// canBeSewn tries all cuts, as the document says.
func canBeSewn(picture map[point]int, box impl.Patch) bool {
	return isOnePatch(picture, box) || slices.ContainsFunc(cutsOfPicture(picture, box), func(c impl.Cut) bool {
		a, b := halves(box, c)
		return canBeSewn(picture, a) && canBeSewn(picture, b)
	})
}

// knotIn is the rectangle of the first knot; without a knot it has no squares.
func knotIn(picture map[point]int, box impl.Patch) impl.Patch {
	if isOnePatch(picture, box) {
		return impl.Patch{}
	}
	cuts := cutsOfPicture(picture, box)
	if len(cuts) == 0 {
		return box
	}
	a, b := halves(box, cuts[0])
	if knot := knotIn(picture, a); knot.W > 0 {
		return knot
	}
	return knotIn(picture, b)
}

// wantAsInPicture compares all results with those that the picture gives.
func wantAsInPicture(t *testing.T, name string, l impl.Layout) {
	t.Helper()
	picture, whole := pictureOfLayout(l), rect(0, 0, l.Width, l.Height)
	cuts := cutsOfPicture(picture, whole)
	wantAllCuts(t, name, l, cuts)
	for at := -1; at <= 13; at++ {
		for _, upright := range []bool{true, false} {
			c := impl.Cut{Upright: upright, At: at}
			if !slices.Contains(cuts, c) {
				wantNoParts(t, name, l, c)
				continue
			}
			a, b := halves(whole, c)
			wantParts(t, name, l, c, layoutIn(l, picture, a), layoutIn(l, picture, b))
		}
	}
	if canBeSewn(picture, whole) {
		wantSewn(t, name, l)
	} else {
		wantKnot(t, name, l, layoutIn(l, picture, knotIn(picture, whole)))
	}
}

func TestSewingAsInPictures(t *testing.T) {
	for _, l := range append(validLayouts(), cutLayouts()...) {
		wantAsInPicture(t, "a layout", l)
	}
}

// wantPromise checks the promise with no other implementation.
func wantPromise(t *testing.T, l impl.Layout) {
	t.Helper()
	cuts, sewn := impl.CutsOf(l), impl.CanSew(l)
	if len(cuts) == 0 && sewn != (len(l.Patches) == 1) {
		t.Errorf("%v has no cuts, and CanSew is %v", l, sewn)
	}
	for _, c := range cuts {
		a, b, ok := impl.SplitLayout(l, c)
		if !ok || !impl.LayoutOk(a) || !impl.LayoutOk(b) {
			t.Errorf("the cut %v of %v leaves %v and %v", c, l, a, b)
		}
		if sewn != (impl.CanSew(a) && impl.CanSew(b)) {
			t.Errorf("%v can be sewn: %v, but its parts %v and %v cannot, or can", l, sewn, a, b)
		}
		if sewn && impl.CountSeams(a)+impl.CountSeams(b)+1 != impl.CountSeams(l) {
			t.Errorf("the parts %v and %v and the cut have other seams than %v", a, b, l)
		}
		wantLayout(t, "the parts put together", together(l, c, a, b), l)
	}
	knot, ok := impl.FirstKnot(l)
	if ok == sewn {
		t.Errorf("%v can be sewn: %v, and it has a knot: %v", l, sewn, ok)
	}
	if ok && (!impl.LayoutOk(knot) || len(knot.Patches) < 5 || len(impl.CutsOf(knot)) > 0 || impl.CanSew(knot)) {
		t.Errorf("%v is no knot of %v", knot, l)
	}
}

// together puts the patches of two parts back to their places in the layout. Each part has them in the order of the layout.
func together(l impl.Layout, c impl.Cut, a impl.Layout, b impl.Layout) impl.Layout {
	first, second := slices.Clone(a.Patches), slices.Clone(b.Patches)
	for i := range second {
		if c.Upright {
			second[i].X += c.At
		} else {
			second[i].Y += c.At
		}
	}
	m := layoutOf(a.Width, a.Height+b.Height)
	if c.Upright {
		m = layoutOf(a.Width+b.Width, a.Height)
	}
	for _, p := range l.Patches {
		if len(first) > 0 && first[0] == p {
			m.Patches, first = append(m.Patches, p), first[1:]
		} else if len(second) > 0 && second[0] == p {
			m.Patches, second = append(m.Patches, p), second[1:]
		}
	}
	m.Patches = append(append(m.Patches, first...), second...)
	return m
}

func TestPromiseOfSewing(t *testing.T) {
	for _, l := range append(validLayouts(), cutLayouts()...) {
		wantPromise(t, l)
	}
}

// joined puts two layouts beside each other, or one above the other one, and mixes their patches.
func joined(l impl.Layout, m impl.Layout, upright bool, s *series) impl.Layout {
	both := layoutOf(l.Width, l.Height+m.Height)
	if upright {
		both = layoutOf(l.Width+m.Width, l.Height)
	}
	i, k := 0, 0
	for i+k < len(l.Patches)+len(m.Patches) {
		if k == len(m.Patches) || i < len(l.Patches) && s.below(2) == 0 {
			both.Patches = append(both.Patches, l.Patches[i])
			i++
			continue
		}
		p := m.Patches[k]
		if upright {
			p.X += l.Width
		} else {
			p.Y += l.Height
		}
		both.Patches = append(both.Patches, p)
		k++
	}
	return both
}

// cutLayout is a layout that is joined so many times. Its parts are one patch, or some around each other, or others.
func cutLayout(width int, height int, count int, times int, s *series) impl.Layout {
	upright := height == 1 || width > 1 && s.below(2) == 0
	if times == 0 || count == 1 || width*height == 1 {
		return partedLayout(width, height, count, s)
	}
	left := 1 + s.below(count-1)
	if upright {
		at := 1 + s.below(width-1)
		return joined(cutLayout(at, height, left, times-1, s), cutLayout(width-at, height, count-left, times-1, s), true, s)
	}
	at := 1 + s.below(height-1)
	return joined(cutLayout(width, at, left, times-1, s), cutLayout(width, height-at, count-left, times-1, s), false, s)
}

// cutLayouts are layouts with cuts, of which many have knots inside.
func cutLayouts() []impl.Layout {
	var layouts []impl.Layout
	s := &series{last: 10}
	for range 2500 {
		layouts = append(layouts, cutLayout(5+s.below(8), 5+s.below(8), 8+s.below(5), 1+s.below(3), s))
	}
	for range 300 {
		layouts = append(layouts, twoKnots(6+s.below(7), 4+s.below(9), s))
	}
	return layouts
}

// knotOf has five patches around each other, the one way or the other way.
func knotOf(width int, height int, s *series) impl.Layout {
	l := layoutOf(width, height, parted(rect(0, 0, width, height), s, true)...)
	if s.below(2) == 0 {
		for i, p := range l.Patches {
			l.Patches[i].X = width - p.X - p.W
		}
	}
	for i := range l.Patches {
		l.Patches[i].Color = s.below(6)
	}
	return l
}

// knotAndStrip has a strip on one side of a knot, or on none.
func knotAndStrip(width int, height int, s *series) impl.Layout {
	side := s.below(5)
	if side < 2 && width > 3 {
		strip, knot := layoutOf(1, height, rect(0, 0, 1, height)), knotOf(width-1, height, s)
		if side == 0 {
			return joined(strip, knot, true, s)
		}
		return joined(knot, strip, true, s)
	}
	if side < 4 && height > 3 {
		strip, knot := layoutOf(width, 1, rect(0, 0, width, 1)), knotOf(width, height-1, s)
		if side%2 == 0 {
			return joined(strip, knot, false, s)
		}
		return joined(knot, strip, false, s)
	}
	return knotOf(width, height, s)
}

// twoKnots has a knot on both sides of a cut.
func twoKnots(width int, height int, s *series) impl.Layout {
	at := 3 + s.below(width-5)
	l := joined(knotAndStrip(at, height, s), knotAndStrip(width-at, height, s), true, s)
	if s.below(2) == 0 {
		return impl.TurnLayout(l)
	}
	return l
}

func TestCutLayoutsOfAllKindsAreTried(t *testing.T) {
	whole, first, second, both, deeper, most := 0, 0, 0, 0, 0, 0
	for _, l := range append(largeLayouts(), cutLayouts()...) {
		knot, ok := impl.FirstKnot(l)
		cuts := impl.CutsOf(l)
		if !ok {
			continue
		}
		if len(l.Patches) == 12 {
			most++
		}
		if len(cuts) == 0 {
			whole++
			continue
		}
		a, b, _ := impl.SplitLayout(l, cuts[0])
		switch {
		case !impl.CanSew(a) && !impl.CanSew(b):
			both++
		case impl.CanSew(b):
			first++
		default:
			second++
		}
		if !equalLayouts(knot, a) && !equalLayouts(knot, b) {
			deeper++
		}
	}
	if min(first, second, both, deeper, most) < 100 || whole < 50 {
		t.Errorf("%d knots, %d in the first part, %d in the second one, %d in both, %d deeper, %d with 12 patches", whole, first, second, both, deeper, most)
	}
}

// TestJoinedLayouts checks the cut at which two layouts were joined, and the knots of their parts.
func TestJoinedLayouts(t *testing.T) {
	s := &series{last: 11}
	for range 1000 {
		upright, across := s.below(2) == 0, 1+s.below(12)
		at, other := 1+s.below(6), 1+s.below(6)
		count := 1 + s.below(11)
		l, m := partedLayout(across, at, count, s), partedLayout(across, other, 12-count, s)
		if upright {
			l, m = partedLayout(at, across, count, s), partedLayout(other, across, 12-count, s)
		}
		both, c := joined(l, m, upright, s), impl.Cut{Upright: upright, At: at}
		if !impl.IsCut(both, c) || !slices.Contains(impl.CutsOf(both), c) {
			t.Errorf("%v is no cut of %v", c, both)
		}
		wantParts(t, "joined layouts", both, c, l, m)
		if got, want := impl.CanSew(both), impl.CanSew(l) && impl.CanSew(m); got != want {
			t.Errorf("CanSew(%v) = %v, want %v", both, got, want)
		}
	}
}

func TestNumbersOfSewableLayouts(t *testing.T) {
	cases := []struct{ width, height, knots int }{
		{1, 1, 0}, {12, 1, 0}, {1, 12, 0}, {2, 2, 0}, {6, 2, 0}, {2, 6, 0}, {3, 3, 2},
	}
	for _, c := range cases {
		knots := 0
		for _, l := range allLayouts(c.width, c.height) {
			if !impl.CanSew(l) {
				knots++
			}
		}
		if knots != c.knots {
			t.Errorf("%d layouts of %d times %d cannot be sewn, want %d", knots, c.width, c.height, c.knots)
		}
	}
}

// TestTurnedLayoutsAreSewnAlike turns the cuts too: those at Y are then as far from the right side.
func TestTurnedLayoutsAreSewnAlike(t *testing.T) {
	for _, l := range append(someLayouts(), cutLayouts()...) {
		turned := impl.TurnLayout(l)
		if impl.CanSew(turned) != impl.CanSew(l) || impl.CountSeams(turned) != impl.CountSeams(l) || impl.CanSew(reversed(l)) != impl.CanSew(l) {
			t.Errorf("turned or reversed, %v is sewn otherwise", l)
		}
		wantCuts(t, "reversed", impl.CutsOf(reversed(l)), impl.CutsOf(l))
		for at := -1; at <= 13; at++ {
			upright, level := impl.Cut{Upright: true, At: at}, impl.Cut{At: at}
			if impl.IsCut(turned, level) != impl.IsCut(l, upright) {
				t.Errorf("turned, %v has other cuts", l)
			}
			if impl.IsCut(turned, impl.Cut{Upright: true, At: l.Height - at}) != impl.IsCut(l, level) {
				t.Errorf("turned, %v has other cuts", l)
			}
			if a, b, ok := impl.SplitLayout(l, upright); ok {
				wantParts(t, "turned", turned, level, impl.TurnLayout(a), impl.TurnLayout(b))
			}
			if a, b, ok := impl.SplitLayout(l, level); ok {
				wantParts(t, "turned", turned, impl.Cut{Upright: true, At: l.Height - at}, impl.TurnLayout(b), impl.TurnLayout(a))
			}
		}
	}
}

func TestColorsChangeNoCut(t *testing.T) {
	for _, l := range append(someLayouts(), cutLayouts()...) {
		m := copyOfLayout(l)
		for i := range m.Patches {
			m.Patches[i].Color = 3
		}
		wantCuts(t, "with one color", impl.CutsOf(m), impl.CutsOf(l))
		knot, ok := impl.FirstKnot(m)
		other, otherOk := impl.FirstKnot(l)
		if impl.CanSew(m) != impl.CanSew(l) || ok != otherOk || len(knot.Patches) != len(other.Patches) {
			t.Errorf("with one color, %v is sewn otherwise", l)
		}
	}
}

// farCuts are so far away that they barely fit into an int.
func farCuts() []impl.Cut {
	var cuts []impl.Cut
	for _, at := range []int{math.MinInt, math.MinInt + 1, -1 << 32, -13, -12, 12, 13, 1 << 32, 1<<32 + 1, math.MaxInt - 12, math.MaxInt - 1, math.MaxInt} {
		cuts = append(cuts, impl.Cut{Upright: true, At: at}, impl.Cut{At: at})
	}
	return cuts
}

func TestFarCuts(t *testing.T) {
	for _, l := range append(someLayouts(), cutLayouts()...) {
		for _, c := range farCuts() {
			if impl.IsCut(l, c) {
				t.Errorf("IsCut(%v, %v) = true", l, c)
			}
			wantNoParts(t, "a far cut", l, c)
		}
	}
}

// wantNoSewing checks the results for a layout that is not valid.
func wantNoSewing(t *testing.T, name string, l impl.Layout) {
	t.Helper()
	wantAllCuts(t, name, l, nil)
	for at := -1; at <= 13; at++ {
		wantNoParts(t, name, l, impl.Cut{Upright: true, At: at})
		wantNoParts(t, name, l, impl.Cut{At: at})
	}
	if impl.CanSew(l) {
		t.Errorf("%s: CanSew(%v) = true", name, l)
	}
	if got := impl.CountSeams(l); got != -1 {
		t.Errorf("%s: CountSeams(%v) = %d, want -1", name, l, got)
	}
	wantNoKnot(t, name, l)
}

func TestBadLayoutsAreNotSewn(t *testing.T) {
	for _, c := range badLayouts() {
		for _, l := range []impl.Layout{c.l, reversed(c.l)} {
			wantNoSewing(t, c.name, l)
			for _, far := range farCuts() {
				if impl.IsCut(l, far) {
					t.Errorf("%s: IsCut(%v, %v) = true", c.name, l, far)
				}
				wantNoParts(t, c.name, l, far)
			}
		}
	}
	for _, c := range sewCases() {
		for _, l := range withOneChange(drawn(c.rows...), []int{math.MinInt, -1, 0, 1, 2, 3, 12, 13, math.MaxInt}) {
			wantNoSewing(t, c.name+" with one other number", l)
		}
	}
}

// TestPartsOfBadLayouts has layouts of which one part only is not valid.
func TestPartsOfBadLayouts(t *testing.T) {
	for _, c := range []badLayout{
		{"a hole on the left", layoutOf(4, 1, rect(0, 0, 1, 1), rect(2, 0, 2, 1))},
		{"a hole on the right", layoutOf(4, 1, rect(0, 0, 2, 1), rect(2, 0, 1, 1))},
		{"a hole above", layoutOf(1, 4, rect(0, 0, 1, 1), rect(0, 2, 1, 2))},
		{"a hole below", layoutOf(1, 4, rect(0, 0, 1, 2), rect(0, 2, 1, 1))},
		{"two patches on the right", layoutOf(4, 2, rect(0, 0, 2, 2), rect(2, 0, 2, 2), rect(2, 0, 1, 1))},
		{"a wrong color on the left", layoutOf(4, 2, impl.Patch{W: 2, H: 2, Color: 6}, rect(2, 0, 2, 2))},
		{"a wrong color on the right", layoutOf(4, 2, rect(0, 0, 2, 2), impl.Patch{X: 2, W: 2, H: 2, Color: -1})},
		{"a knot with a hole, and a patch", layoutOf(4, 3, append(impl.SampleLayout().Patches[:4], rect(3, 0, 1, 3))...)},
		{"a knot with two middles, and a patch", layoutOf(4, 3, append(impl.SampleLayout().Patches, rect(1, 1, 1, 1), rect(3, 0, 1, 3))...)},
		{"12 squares and one twice", layoutOf(12, 1, append(drawn("abcdefghijkl").Patches, rect(0, 0, 1, 1))...)},
		{"13 columns", layoutOf(13, 1, append(drawn("abcdefghijkl").Patches, rect(12, 0, 1, 1))...)},
	} {
		wantNoSewing(t, c.name, c.l)
	}
}

// callAllForSewing calls each function of the chapter.
func callAllForSewing(l impl.Layout) {
	impl.CutsOf(l)
	impl.CanSew(l)
	impl.CountSeams(l)
	impl.FirstKnot(l)
	for at := -1; at <= 13; at++ {
		for _, upright := range []bool{true, false} {
			impl.IsCut(l, impl.Cut{Upright: upright, At: at})
			impl.SplitLayout(l, impl.Cut{Upright: upright, At: at})
		}
	}
}

// layoutsToSew are layouts of all kinds, also some that are not valid.
func layoutsToSew() []impl.Layout {
	layouts := append(someLayouts(), cutLayouts()...)
	for _, c := range sewCases() {
		layouts = append(layouts, drawn(c.rows...))
	}
	for _, c := range badLayouts() {
		layouts = append(layouts, c.l)
	}
	return layouts
}

func TestSewnLayoutsStay(t *testing.T) {
	for _, l := range layoutsToSew() {
		m, room := roomyLayout(l)
		old := slices.Clone(room)
		callAllForSewing(m)
		if !slices.Equal(room, old) {
			t.Errorf("the patches %v or their neighbours were changed: %v", old, room)
		}
	}
}

// wantNewLayouts checks that the results of a function share no memory with its argument, with one another, or with those of another call.
func wantNewLayouts(t *testing.T, l impl.Layout, call func(l impl.Layout) (impl.Layout, impl.Layout)) {
	t.Helper()
	m, room := roomyLayout(l)
	old := slices.Clone(room)
	a, b := call(m)
	first, second := copyOfLayout(a), copyOfLayout(b)
	wipePatches(a.Patches)
	wantLayout(t, "the second result after a change of the first one", b, second)
	a, b = call(m)
	wipePatches(b.Patches)
	wantLayout(t, "the first result after a change of the second one", a, first)
	if !slices.Equal(room, old) {
		t.Errorf("the patches %v were changed with a result: %v", old, room)
	}
	a, b = call(m)
	wipePatches(room)
	wantLayout(t, "the first result after a change of the argument", a, first)
	wantLayout(t, "the second result after a change of the argument", b, second)
}

func TestPartsAndKnotsShareNoMemory(t *testing.T) {
	for _, l := range layoutsToSew() {
		for _, c := range append(impl.CutsOf(l), impl.Cut{}) {
			wantNewLayouts(t, l, func(m impl.Layout) (impl.Layout, impl.Layout) {
				a, b, _ := impl.SplitLayout(m, c)
				return a, b
			})
		}
		wantNewLayouts(t, l, func(m impl.Layout) (impl.Layout, impl.Layout) {
			a, _ := impl.FirstKnot(m)
			b, _ := impl.FirstKnot(m)
			return a, b
		})
	}
}

func TestListsOfCutsAreNew(t *testing.T) {
	for _, l := range layoutsToSew() {
		want := slices.Clone(impl.CutsOf(l))
		first, second := impl.CutsOf(l), impl.CutsOf(l)
		for i := range first[:cap(first)] {
			first[:cap(first)][i] = impl.Cut{Upright: true, At: 99}
		}
		wantCuts(t, "after a change of another list", second, want)
		wantCuts(t, "the next list", impl.CutsOf(l), want)
	}
}
