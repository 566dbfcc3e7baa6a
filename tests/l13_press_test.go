package tests

import (
	"math/bits"
	"slices"
	"strings"
	"testing"

	"loop.example/g03304/impl"
)

// Promise 13: rows that alternate never clash, and the fewest flips reach such rows.

// pressed reads rows like RRL/RLL, in which R is a seam that is pressed to the right. A row without seams is written as a dot.
func pressed(text string) [][]bool {
	var p [][]bool
	for _, word := range strings.Split(text, "/") {
		var row []bool
		for _, letter := range strings.Trim(word, ".") {
			row = append(row, letter == 'R')
		}
		p = append(p, row)
	}
	return p
}

// pressingText tells rows of different lengths apart, also those without seams.
func pressingText(p [][]bool) string {
	var rows []string
	for _, row := range p {
		rows = append(rows, rowText(row))
	}
	return strings.Join(rows, "/")
}

func rowText(row []bool) string {
	letters := "."
	for _, isRight := range row {
		if isRight {
			letters += "R"
		} else {
			letters += "L"
		}
	}
	return letters
}

// times repeats a row.
func times(count int, row string) string {
	return strings.TrimSuffix(strings.Repeat(row+"/", count), "/")
}

func equalPressings(p [][]bool, other [][]bool) bool {
	return slices.EqualFunc(p, other, slices.Equal[[]bool])
}

func copyOfPressing(p [][]bool) [][]bool {
	var rows [][]bool
	for _, row := range p {
		rows = append(rows, slices.Clone(row))
	}
	return rows
}

func wantPressing(t *testing.T, what string, got [][]bool, want [][]bool) {
	t.Helper()
	if !equalPressings(got, want) {
		t.Errorf("%s: the rows are %s, want %s", what, pressingText(got), pressingText(want))
	}
}

func wantClashes(t *testing.T, what string, p [][]bool, want int) {
	t.Helper()
	if got := impl.ClashesOf(p); got != want {
		t.Errorf("%s: ClashesOf(%s) = %d, want %d", what, pressingText(p), got, want)
	}
}

func wantFlips(t *testing.T, what string, p [][]bool, want int) {
	t.Helper()
	if got := impl.FewestFlips(p); got != want {
		t.Errorf("%s: FewestFlips(%s) = %d, want %d", what, pressingText(p), got, want)
	}
}

func wantPressable(t *testing.T, what string, p [][]bool, want bool) {
	t.Helper()
	if got := impl.PressingOk(p); got != want {
		t.Errorf("%s: PressingOk(%s) = %v", what, pressingText(p), got)
	}
}

func wantFlipped(t *testing.T, p [][]bool, k int, want [][]bool) {
	t.Helper()
	got, ok := impl.FlipRow(p, k)
	if !ok || !equalPressings(got, want) {
		t.Errorf("FlipRow(%s, %d) = %s, %v, want %s", pressingText(p), k, pressingText(got), ok, pressingText(want))
	}
}

func wantNotFlipped(t *testing.T, what string, p [][]bool, k int) {
	t.Helper()
	got, ok := impl.FlipRow(p, k)
	if ok || !equalPressings(got, p) {
		t.Errorf("%s: FlipRow(%s, %d) = %s, %v, want it unchanged and false", what, pressingText(p), k, pressingText(got), ok)
	}
}

// wantNoPressing checks the results for rows that are not valid.
func wantNoPressing(t *testing.T, what string, p [][]bool) {
	t.Helper()
	wantPressable(t, what, p, false)
	wantClashes(t, what, p, -1)
	wantFlips(t, what, p, -1)
	for _, k := range []int{-1, 0, 1, len(p) / 2, len(p) - 1, len(p), len(p) + 1} {
		wantNotFlipped(t, what, p, k)
	}
}

// pressingByHand has rows whose clashes and fewest flips are worked out by hand.
type pressingByHand struct {
	name    string
	rows    string
	clashes int
	flips   int
}

func pressingCases() []pressingByHand {
	return []pressingByHand{
		{"one row without seams", ".", 0, 0},
		{"two rows without seams", "./.", 0, 0},
		{"12 rows without seams", times(12, "."), 0, 0},
		{"one seam to the right", "R", 0, 0},
		{"one seam to the left", "L", 0, 0},
		{"one row of two seams", "RL", 0, 0},
		{"one row of 11 seams to the right", "RRRRRRRRRRR", 0, 0},
		{"one row of 11 seams", "RLLRRRLRLLR", 0, 0},
		{"both to the right", "R/R", 1, 1},
		{"both to the left", "L/L", 1, 1},
		{"right and left", "R/L", 0, 0},
		{"left and right", "L/R", 0, 0},
		{"the same row twice", "RL/RL", 2, 2},
		{"the opposite row", "RL/LR", 0, 0},
		{"one of two seams", "RL/LL", 1, 1},
		{"the other of two seams", "RL/RR", 1, 1},
		{"two rows of 11 seams, alternating", "RRRRRRRRRRR/LLLLLLLLLLL", 0, 0},
		{"two rows of 11 seams to the right", "RRRRRRRRRRR/RRRRRRRRRRR", 11, 11},
		{"the row between clashes twice", "R/R/R", 2, 1},
		{"the first row clashes", "R/R/L", 1, 1},
		{"the last row clashes", "R/L/L", 1, 1},
		{"three rows, alternating", "R/L/R", 0, 0},
		{"the second seam alternates", "RR/RL/RR", 2, 1},
		{"one seam of each kind", "RLR/LRR/RLL", 1, 1},
		{"each seam begins on a side of its own", "RLRL/LRLR/RLRL", 0, 0},
		{"the first and the last row are not next to each other", "RLL/LRR/RLL", 0, 0},
		{"11 clashes between two of three rows", "RLRLRLRLRLR/RLRLRLRLRLR/LRLRLRLRLRL", 11, 11},
		{"two to the right and two to the left", "R/R/L/L", 2, 2},
		{"four to the right", "R/R/R/R", 3, 2},
		{"one clash in the middle", "R/L/L/R", 1, 2},
		{"one clash in the second of five rows", "R/L/L/R/L", 1, 2},
		{"one clash in the middle of six rows", "R/L/R/R/L/R", 1, 3},
		{"two clashes that are far from each other", "R/R/L/R/L/L", 2, 2},
		{"five rows to the right", "RRR/RRR/RRR/RRR/RRR", 12, 6},
		{"11 rows to the right", times(11, "R"), 10, 5},
		{"12 rows to the right", times(12, "R"), 11, 6},
		{"six to the right and six to the left", times(6, "R") + "/" + times(6, "L"), 10, 6},
		{"one clash in the middle of 12 rows", "R/L/R/L/R/L/L/R/L/R/L/R", 1, 6},
		{"one clash at the end of 12 rows", "R/L/R/L/R/L/R/L/R/L/R/R", 1, 1},
		{"12 rows of 11 seams to the left", times(12, "LLLLLLLLLLL"), 121, 66},
		{"12 rows of 11 seams, alternating", times(6, "RRRRRRRRRRR/LLLLLLLLLLL"), 0, 0},
	}
}

func TestPressingsByHand(t *testing.T) {
	for _, c := range pressingCases() {
		p := pressed(c.rows)
		wantPressable(t, c.name, p, true)
		wantClashes(t, c.name, p, c.clashes)
		wantFlips(t, c.name, p, c.flips)
	}
}

func TestFlipRowByHand(t *testing.T) {
	for _, c := range []struct {
		rows string
		k    int
		want string
	}{
		{"R", 0, "L"},
		{"L", 0, "R"},
		{".", 0, "."},
		{"././.", 0, "././."},
		{"././.", 2, "././."},
		{times(12, "."), 11, times(12, ".")},
		{"RRL/RLL", 0, "LLR/RLL"},
		{"RRL/RLL", 1, "RRL/LRR"},
		{"RR/RL/RR", 1, "RR/LR/RR"},
		{"RLRRLLRLRRR", 0, "LRLLRRLRLLL"},
		{times(12, "R"), 0, "L/" + times(11, "R")},
		{times(12, "R"), 5, times(5, "R") + "/L/" + times(6, "R")},
		{times(12, "R"), 11, times(11, "R") + "/L"},
		{times(12, "RLRLRLRLRLR"), 11, times(11, "RLRLRLRLRLR") + "/LRLRLRLRLRL"},
	} {
		wantFlipped(t, pressed(c.rows), c.k, pressed(c.want))
	}
}

func TestNestedRowsByHand(t *testing.T) {
	for _, c := range []struct {
		rows  int
		seams int
		first bool
		want  string
	}{
		{1, 0, true, "."},
		{1, 0, false, "."},
		{3, 0, true, "././."},
		{12, 0, true, times(12, ".")},
		{12, 0, false, times(12, ".")},
		{1, 1, true, "R"},
		{1, 1, false, "L"},
		{1, 11, true, "RRRRRRRRRRR"},
		{1, 11, false, "LLLLLLLLLLL"},
		{2, 1, true, "R/L"},
		{2, 3, false, "LLL/RRR"},
		{3, 2, true, "RR/LL/RR"},
		{4, 2, false, "LL/RR/LL/RR"},
		{12, 1, true, "R/L/R/L/R/L/R/L/R/L/R/L"},
		{11, 1, false, "L/R/L/R/L/R/L/R/L/R/L"},
		{12, 11, true, times(6, "RRRRRRRRRRR/LLLLLLLLLLL")},
		{12, 11, false, times(6, "LLLLLLLLLLL/RRRRRRRRRRR")},
	} {
		wantPressing(t, "nested rows", impl.NestedRows(c.rows, c.seams, c.first), pressed(c.want))
	}
}

// eachShape visits all numbers of rows and of seams.
func eachShape(visit func(rows int, seams int)) {
	for rows := 1; rows <= 12; rows++ {
		for seams := 0; seams <= 11; seams++ {
			visit(rows, seams)
		}
	}
}

// TestNestedRowsOfAllNumbers checks each seam of all nested rows.
func TestNestedRowsOfAllNumbers(t *testing.T) {
	eachShape(func(rows int, seams int) {
		for _, first := range []bool{true, false} {
			p := impl.NestedRows(rows, seams, first)
			if len(p) != rows {
				t.Fatalf("NestedRows(%d, %d, %v) has %d rows", rows, seams, first, len(p))
			}
			for k, row := range p {
				if len(row) != seams || slices.Contains(row, first == (k%2 == 1)) {
					t.Errorf("NestedRows(%d, %d, %v) has the row %s as row %d", rows, seams, first, rowText(row), k)
				}
			}
			wantPressable(t, "nested rows", p, true)
			wantClashes(t, "nested rows", p, 0)
			wantFlips(t, "nested rows", p, 0)
		}
	})
}

// TestOneSeamOfNestedRows changes one seam: it clashes with those above and below it, if there are any, and is the only one to be changed back.
func TestOneSeamOfNestedRows(t *testing.T) {
	eachShape(func(rows int, seams int) {
		for place := range 2 * rows * seams {
			k, seam, first := place/2/seams, place/2%seams, place%2 == 0
			p := impl.NestedRows(rows, seams, first)
			p[k][seam] = !p[k][seam]
			clashes := 0
			if k > 0 {
				clashes++
			}
			if k < rows-1 {
				clashes++
			}
			wantClashes(t, "one seam of nested rows", p, clashes)
			wantFlips(t, "one seam of nested rows", p, min(clashes, 1))
		}
	})
}

// numbered has a bit of the number for each seam, row by row.
func numbered(rows int, seams int, number int) [][]bool {
	p := make([][]bool, rows)
	for k := range p {
		for seam := range seams {
			p[k] = append(p[k], number>>(k*seams+seam)&1 == 1)
		}
	}
	return p
}

// rowBits has a bit for each seam of each row.
func rowBits(p [][]bool) []uint {
	var numbers []uint
	for _, row := range p {
		number := uint(0)
		for seam, isRight := range row {
			if isRight {
				number |= 1 << seam
			}
		}
		numbers = append(numbers, number)
	}
	return numbers
}

// clashesByBits takes away the seams at which two rows differ.
func clashesByBits(p [][]bool) int {
	numbers := rowBits(p)
	count := len(p[0]) * (len(p) - 1)
	for k := range len(p) - 1 {
		count -= bits.OnesCount(numbers[k] ^ numbers[k+1])
	}
	return count
}

// flipsByFirstRows tries all first rows of rows that alternate.
func flipsByFirstRows(p [][]bool) int {
	numbers := rowBits(p)
	all := uint(1)<<len(p[0]) - 1
	fewest := len(p) * len(p[0])
	for row := range all + 1 {
		count := 0
		for _, number := range numbers {
			count += bits.OnesCount(number ^ row)
			row ^= all
		}
		fewest = min(fewest, count)
	}
	return fewest
}

// eachSmallShape visits the numbers of rows and seams of at most so many seams together.
func eachSmallShape(most int, visit func(rows int, seams int)) {
	eachShape(func(rows int, seams int) {
		if rows*seams <= most {
			visit(rows, seams)
		}
	})
}

// flipsBySets changes every set of seams of a pressing. It is given the clashes of all pressings of the same rows and seams.
func flipsBySets(clashes []int, number int) int {
	fewest := len(clashes)
	for set := range clashes {
		if clashes[number^set] == 0 {
			fewest = min(fewest, bits.OnesCount(uint(set)))
		}
	}
	return fewest
}

// TestAllSmallPressings goes through all pressings of at most 12 seams.
func TestAllSmallPressings(t *testing.T) {
	shapes := 0
	eachSmallShape(12, func(rows int, seams int) {
		shapes++
		clashes := make([]int, 1<<(rows*seams))
		for number := range clashes {
			p := numbered(rows, seams, number)
			clashes[number] = impl.ClashesOf(p)
			wantPressable(t, "a small pressing", p, true)
			wantClashes(t, "a small pressing", p, clashesByBits(p))
		}
		for number := range clashes {
			p := numbered(rows, seams, number)
			flips := flipsBySets(clashes, number)
			wantFlips(t, "a small pressing", p, flips)
			if (flips == 0) != (clashes[number] == 0) {
				t.Errorf("%s has %d clashes, but needs %d flips", pressingText(p), clashes[number], flips)
			}
		}
	})
	if shapes != 12+34 {
		t.Errorf("%d numbers of rows and seams, want 12 without seams and 34 with seams", shapes)
	}
}

// TestFlipEachRowOfSmallPressings compares the flipped rows with the pressing that has the other bits.
func TestFlipEachRowOfSmallPressings(t *testing.T) {
	eachSmallShape(10, func(rows int, seams int) {
		for number := range 1 << (rows * seams) {
			p := numbered(rows, seams, number)
			for k := range rows {
				all := 1<<seams - 1
				wantFlipped(t, p, k, numbered(rows, seams, number^all<<(k*seams)))
			}
		}
	})
}

// anyPressing has so many seams to the right, of 100, as a rule.
func anyPressing(rows int, seams int, right int, s *series) [][]bool {
	p := make([][]bool, rows)
	for k := range p {
		for range seams {
			p[k] = append(p[k], s.below(100) < right)
		}
	}
	return p
}

// somePressings has pressings of all numbers of rows and seams, among them such with few clashes and with many.
func somePressings() [][][]bool {
	s := &series{last: 79}
	var pressings [][][]bool
	eachShape(func(rows int, seams int) {
		for _, right := range []int{50, 50, 50, 10, 90} {
			pressings = append(pressings, anyPressing(rows, seams, right, s))
		}
		nested := impl.NestedRows(rows, seams, s.below(2) == 0)
		for range seams {
			k, seam := s.below(rows), s.below(seams)
			nested[k][seam] = !nested[k][seam]
		}
		pressings = append(pressings, nested)
	})
	return pressings
}

// seenOtherwise are the pressing with rows in the other order, with seams in the other order, and with all seams on the other side.
func seenOtherwise(p [][]bool) [][][]bool {
	upsideDown, mirrored, opposite := copyOfPressing(p), copyOfPressing(p), copyOfPressing(p)
	slices.Reverse(upsideDown)
	for k := range p {
		slices.Reverse(mirrored[k])
		for seam := range p[k] {
			opposite[k][seam] = !p[k][seam]
		}
	}
	return [][][]bool{upsideDown, mirrored, opposite}
}

func TestManyPressings(t *testing.T) {
	for _, p := range somePressings() {
		clashes, flips := clashesByBits(p), flipsByFirstRows(p)
		wantPressable(t, "a pressing", p, true)
		wantClashes(t, "a pressing", p, clashes)
		wantFlips(t, "a pressing", p, flips)
		for _, other := range seenOtherwise(p) {
			wantClashes(t, "a pressing, seen otherwise", other, clashes)
			wantFlips(t, "a pressing, seen otherwise", other, flips)
		}
	}
}

// seamsFlipped is the pressing with all seams of one row changed, one by one.
func seamsFlipped(p [][]bool, k int) [][]bool {
	other := copyOfPressing(p)
	for seam := range other[k] {
		other[k][seam] = !other[k][seam]
	}
	return other
}

// TestFlippedTwiceIsUnchanged also checks that after a flip, a row clashes with the next one just where it did not before.
func TestFlippedTwiceIsUnchanged(t *testing.T) {
	for _, p := range somePressings() {
		for k := range p {
			wantFlipped(t, p, k, seamsFlipped(p, k))
			flipped, _ := impl.FlipRow(p, k)
			wantFlipped(t, flipped, k, p)
			clashes := impl.ClashesOf(p)
			for _, near := range [][][]bool{p[max(k-1, 0) : k+1], p[k:min(k+2, len(p))]} {
				if len(near) == 2 {
					clashes += len(p[k]) - 2*impl.ClashesOf(near)
				}
			}
			wantClashes(t, "one row flipped", flipped, clashes)
		}
	}
}

// TestFewestFlipsReachNestedRows changes single seams, of which each brings the pressing one flip nearer, until nothing clashes.
func TestFewestFlipsReachNestedRows(t *testing.T) {
	for _, p := range somePressings() {
		flips := impl.FewestFlips(p)
		for k := range p {
			for seam := range p[k] {
				p[k][seam] = !p[k][seam]
				if next := impl.FewestFlips(p); next < flips {
					flips = next
				} else {
					p[k][seam] = !p[k][seam]
				}
			}
		}
		wantFlips(t, "all seams that had to be changed", p, 0)
		wantClashes(t, "all seams that had to be changed", p, 0)
	}
}

func TestWrongNumbersOfRows(t *testing.T) {
	wantNoPressing(t, "no rows", nil)
	wantNoPressing(t, "no rows", [][]bool{})
	for seams := range 13 {
		row := strings.Repeat("RL", seams)[:seams] + "."
		for _, rows := range []int{13, 14, 24, 25, 257, 268, 1000} {
			wantNoPressing(t, "too many rows", pressed(times(rows, row)))
		}
	}
	wantNoPressing(t, "very many rows without seams", make([][]bool, 1<<16+1))
}

func TestWrongNumbersOfSeams(t *testing.T) {
	for rows := 1; rows <= 14; rows++ {
		for _, seams := range []int{12, 13, 14, 23, 24, 256, 267, 1000, 1<<16 + 1} {
			wantNoPressing(t, "too many seams", anyPressing(rows, seams, 50, &series{last: 83}))
		}
	}
}

// TestRowsOfDifferentLengths gives one row another number of seams, also if all others have none.
func TestRowsOfDifferentLengths(t *testing.T) {
	s := &series{last: 89}
	eachShape(func(rows int, seams int) {
		p := anyPressing(rows, seams, 50, s)
		for k := range p {
			for _, other := range []int{0, 1, seams - 1, seams + 1, 10, 11, 12, 13} {
				if other < 0 || other == seams || rows == 1 {
					continue
				}
				uneven := copyOfPressing(p)
				uneven[k] = anyPressing(1, other, 50, s)[0]
				wantNoPressing(t, "a row of another length", uneven)
			}
		}
	})
	for _, text := range []string{"R/.", "./R", "R/./R", "RR/R/RR", "R/RR/R", "RL/R", "R/RL", "RL/RLR/R", "R/RL/RLR", "RR/RR/R/R", "R/L/R/L/R/L/R/L/R/L/R/."} {
		wantNoPressing(t, "rows of different lengths", pressed(text))
	}
}

// TestEmptyRowsOfBothKinds has rows without seams that are nil, and such that are not.
func TestEmptyRowsOfBothKinds(t *testing.T) {
	for rows := 1; rows <= 12; rows++ {
		for number := range 1 << min(rows, 4) {
			p := make([][]bool, rows)
			for k := range p {
				if number>>(k%4)&1 == 1 {
					p[k] = []bool{}
				}
			}
			wantPressable(t, "rows without seams", p, true)
			wantClashes(t, "rows without seams", p, 0)
			wantFlips(t, "rows without seams", p, 0)
			for k := range p {
				wantFlipped(t, p, k, make([][]bool, rows))
			}
			wantNotFlipped(t, "rows without seams", p, rows)
		}
	}
}

func TestNoRowToFlip(t *testing.T) {
	for i, p := range somePressings() {
		ks := []int{-13, -12, -2, -1, len(p), len(p) + 1, len(p) + 11, 12, 13, 24}
		if i%7 == 0 {
			ks = append(ks, farUnits()...)
		}
		for _, k := range ks {
			wantNotFlipped(t, "no such row", p, k)
		}
		wantNotFlipped(t, "the row before the first one", p, -len(p))
	}
	for _, k := range farUnits() {
		wantNotFlipped(t, "no rows", nil, k)
		wantNotFlipped(t, "13 rows", pressed(times(13, "R")), k)
		wantNotFlipped(t, "rows of different lengths", pressed("R/RL"), k)
	}
}

func TestNoNestedRows(t *testing.T) {
	badRows := append(farUnits(), -256, -13, -12, -2, -1, 0, 13, 14, 24, 257, 268)
	badSeams := append(farUnits(), -256, -12, -11, -2, -1, 12, 13, 23, 256, 267)
	wantNone := func(rows int, seams int) {
		for _, first := range []bool{true, false} {
			if p := impl.NestedRows(rows, seams, first); len(p) != 0 {
				t.Errorf("NestedRows(%d, %d, %v) has %d rows", rows, seams, first, len(p))
			}
		}
	}
	for _, rows := range badRows {
		for seams := range 12 {
			wantNone(rows, seams)
		}
		for _, seams := range badSeams {
			wantNone(rows, seams)
		}
	}
	for _, seams := range badSeams {
		for rows := 1; rows <= 12; rows++ {
			wantNone(rows, seams)
		}
	}
}

// roomyPressing has spare capacity behind each row and behind the rows. The second result is all of it.
func roomyPressing(p [][]bool) ([][]bool, [][]bool) {
	room := make([][]bool, len(p)+3)
	for k := range room {
		row := []bool{true, false}
		if k < len(p) {
			row = p[k]
		}
		room[k] = append(slices.Clone(row), true, false, false, true, true)[:len(row)]
	}
	return room[:len(p)], room
}

// roomText shows the spare capacity of each row, too.
func roomText(room [][]bool) string {
	text := ""
	for _, row := range room {
		text += rowText(row) + "|" + rowText(row[len(row):cap(row)]) + "/"
	}
	return text
}

// pressingArguments are pressings of all kinds, and rows that are not valid.
func pressingArguments() [][][]bool {
	var pressings [][][]bool
	for _, c := range pressingCases() {
		pressings = append(pressings, pressed(c.rows))
	}
	for _, text := range []string{times(13, "."), times(13, "RLL"), "RRRRRRRRRRRR", "RRRRRRRRRRRR/LLLLLLLLLLLL", "R/RR", "RR/R", "./R", "R/R/."} {
		pressings = append(pressings, pressed(text))
	}
	return append(pressings, nil)
}

func TestPressingArgumentsStay(t *testing.T) {
	for _, list := range pressingArguments() {
		p, room := roomyPressing(list)
		old := roomText(room)
		impl.PressingOk(p)
		impl.ClashesOf(p)
		impl.FewestFlips(p)
		for k := -1; k <= len(p); k++ {
			impl.FlipRow(p, k)
		}
		if roomText(room) != old {
			t.Errorf("%s or its neighbours were changed: %s", old, roomText(room))
		}
	}
}

// wipeRow changes a row and the spare capacity behind it.
func wipeRow(row []bool) {
	all := row[:cap(row)]
	for seam := range all {
		all[seam] = !all[seam]
	}
}

// wantOwnRows changes the rows of a result one after the other and then replaces them, and expects that neither the other rows nor the argument are changed.
func wantOwnRows(t *testing.T, what string, result [][]bool, room [][]bool) {
	t.Helper()
	want, old := copyOfPressing(result), roomText(room)
	for k := range result {
		wipeRow(result[k])
		want[k] = slices.Clone(result[k])
		wantPressing(t, what+", one row changed", result, want)
	}
	all := result[:cap(result)]
	for k := range all {
		all[k] = []bool{true}
	}
	if roomText(room) != old {
		t.Errorf("%s: %s was changed with the result: %s", what, old, roomText(room))
	}
}

func TestFlippedRowsShareNoMemory(t *testing.T) {
	for _, list := range pressingArguments() {
		for k := -1; k <= len(list); k++ {
			p, room := roomyPressing(list)
			result, ok := impl.FlipRow(p, k)
			other, _ := impl.FlipRow(p, k)
			want := copyOfPressing(other)
			wantOwnRows(t, "a flipped row", result, room)
			wantPressing(t, "the result of another call", other, want)
			for i := range room {
				wipeRow(room[i])
				room[i] = nil
			}
			wantPressing(t, "the result after a change of the argument", other, want)
			if isThere := impl.PressingOk(list) && k >= 0 && k < len(list); ok != isThere {
				t.Errorf("FlipRow(%s, %d) = %v", pressingText(list), k, ok)
			}
		}
	}
}

// TestRowsThatShareMemory has arguments whose rows are all the same memory, or overlap.
func TestRowsThatShareMemory(t *testing.T) {
	for rows := 1; rows <= 13; rows++ {
		for _, text := range []string{"R", "RL", "RLLRLRRLRRL", "RRRRRRRRRRRR"} {
			row := pressed(text + strings.Repeat("L", rows))[0]
			same, overlapping := make([][]bool, rows), make([][]bool, rows)
			for k := range rows {
				same[k] = row[:len(text)]
				overlapping[k] = row[k : k+len(text)]
			}
			for _, p := range [][][]bool{same, overlapping} {
				for k := range rows {
					if impl.PressingOk(p) {
						wantFlipped(t, p, k, seamsFlipped(p, k))
					} else {
						wantNotFlipped(t, "rows that share memory", p, k)
					}
					result, _ := impl.FlipRow(p, k)
					wantOwnRows(t, "rows that share memory", result, p)
				}
				wantNotFlipped(t, "rows that share memory", p, rows)
				result, _ := impl.FlipRow(p, rows)
				wantOwnRows(t, "rows that share memory, unchanged", result, p)
			}
		}
	}
}

func TestNestedRowsShareNoMemory(t *testing.T) {
	eachShape(func(rows int, seams int) {
		for _, first := range []bool{true, false} {
			result, other := impl.NestedRows(rows, seams, first), impl.NestedRows(rows, seams, first)
			want := copyOfPressing(other)
			wantOwnRows(t, "nested rows", result, nil)
			wantPressing(t, "the rows of another call", other, want)
			wantPressing(t, "the rows of the next call", impl.NestedRows(rows, seams, first), want)
		}
	})
}
