package tests

import (
	"math"
	"slices"
	"strings"
	"testing"

	"loop.example/g03304/impl"
)

// Promise 12: joins can be sewn in the order in which they are written, and in rounds.

// roundsFrom reads rounds like 0 1/2, in which the join 2 has to wait.
func roundsFrom(text string) [][]int {
	var rounds [][]int
	for _, words := range strings.Split(text, "/") {
		var round []int
		for _, word := range strings.Fields(words) {
			k, _ := impl.ParseUint(word)
			round = append(round, k)
		}
		if len(round) > 0 {
			rounds = append(rounds, round)
		}
	}
	return rounds
}

func equalRounds(rounds [][]int, other [][]int) bool {
	return slices.EqualFunc(rounds, other, slices.Equal[[]int])
}

// written is the order in which so many joins are written.
func written(count int) []int {
	var order []int
	for k := range count {
		order = append(order, k)
	}
	return order
}

func wantCount(t *testing.T, name string, joins []impl.Join, n int, want int) {
	t.Helper()
	if got := impl.CountSewOrders(joins, n); got != want {
		t.Errorf("%s: CountSewOrders(%v, %d) = %d, want %d", name, joins, n, got, want)
	}
}

func wantOrder(t *testing.T, name string, joins []impl.Join, n int, order []int, want bool) {
	t.Helper()
	if got := impl.IsSewOrder(joins, n, order); got != want {
		t.Errorf("%s: IsSewOrder(%v, %d, %v) = %v", name, joins, n, order, got)
	}
}

func wantFirst(t *testing.T, name string, joins []impl.Join, n int, want []int) {
	t.Helper()
	if got := impl.FirstSewOrder(joins, n); !slices.Equal(got, want) {
		t.Errorf("%s: FirstSewOrder(%v, %d) = %v, want %v", name, joins, n, got, want)
	}
}

// wantRounds checks MostChained too.
func wantRounds(t *testing.T, name string, joins []impl.Join, n int, want [][]int) {
	t.Helper()
	if got := impl.ChainRounds(joins, n); !equalRounds(got, want) {
		t.Errorf("%s: ChainRounds(%v, %d) = %v, want %v", name, joins, n, got, want)
	}
	most := 0
	for _, round := range want {
		most = max(most, len(round))
	}
	if got := impl.MostChained(joins, n); got != most {
		t.Errorf("%s: MostChained(%v, %d) = %d, want %d", name, joins, n, got, most)
	}
}

// wantNoOrders checks the results for joins that cannot be sewn, with orders that may be right for others.
func wantNoOrders(t *testing.T, name string, joins []impl.Join, n int) {
	t.Helper()
	wantCount(t, name, joins, n, -1)
	wantFirst(t, name, joins, n, nil)
	wantRounds(t, name, joins, n, nil)
	for _, order := range [][]int{nil, {0}, {0, 1}, {1, 0}, {0, 0}, written(len(joins))} {
		wantOrder(t, name, joins, n, order, false)
	}
}

// ordersByHand has joins whose orders and rounds are worked out by hand.
type ordersByHand struct {
	name   string
	joins  string
	n      int
	count  int
	rounds string
}

// pairsOfTwelve joins 12 patches in pairs, and then these in pairs until there is one unit.
func pairsOfTwelve() string {
	return "0|1 2|3 4|5 6|7 8|9 10|11 12-13 14-15 16-17 18-19 20|21"
}

func ordersCases() []ordersByHand {
	return []ordersByHand{
		{"one patch", "", 1, 1, ""},
		{"two patches", "0|1", 2, 1, "0"},
		{"two patches, exchanged", "1-0", 2, 1, "0"},
		{"a chain of three", "0|1 3|2", 3, 1, "0/1"},
		{"a chain of three, the new unit as B", "1-2 0-3", 3, 1, "0/1"},
		{"a chain of four", "0-1 4-2 5-3", 4, 1, "0/1/2"},
		{"two pairs", "0-1 2-3 4-5", 4, 2, "0 1/2"},
		{"two pairs, exchanged", "3|2 1|0 5|4", 4, 2, "0 1/2"},
		{"a chain and a patch of five", "0-1 5-2 6-3 7-4", 5, 1, "0/1/2/3"},
		{"two pairs and a patch", "0-1 2-3 5-6 7-4", 5, 2, "0 1/2/3"},
		{"a chain and a pair at the beginning", "3-4 0-1 6-2 5-7", 5, 3, "0 1/2/3"},
		{"a chain and a pair between", "0-1 2-3 5-4 6-7", 5, 3, "0 1/2/3"},
		{"a chain and a pair after it", "0-1 5-2 3-4 6-7", 5, 3, "0 2/1/3"},
		{"two chains of three", "0-1 6-2 3-4 8-5 7-9", 6, 6, "0 2/1 3/4"},
		{"two chains of three, by turns", "0-1 3-4 6-2 7-5 8-9", 6, 6, "0 1/2 3/4"},
		{"a chain of four and a pair after it", "0-1 6-2 7-3 4-5 8-9", 6, 4, "0 3/1/2/4"},
		{"three pairs", "0|1 2|3 4|5 6-7 9-8", 6, 8, "0 1 2/3/4"},
		{"three pairs, the last one after the others are joined", "0|1 2|3 6-7 4|5 8-9", 6, 8, "0 1 3/2/4"},
		{"four pairs", "0|1 2|3 4|5 6|7 8-9 10-11 12|13", 8, 80, "0 1 2 3/4 5/6"},
		{"four pairs, by turns", "0|1 2|3 8-9 4|5 6|7 11-12 10|13", 8, 80, "0 1 3 4/2 5/6"},
		{"a chain of 11 joins", chain("|"), 12, 1, "0/1/2/3/4/5/6/7/8/9/10"},
		{"12 patches inwards", "11|10 9-12 8|13 14-7 15|6 5-16 4|17 18-3 19|2 1-20 0|21", 12, 1, "0/1/2/3/4/5/6/7/8/9/10"},
		{"12 patches by columns", "4-8 0-12 5-9 1-14 6-10 2-16 7-11 3-18 17|19 15|20 13|21", 12, 5670, "0 2 4 6/1 3 5 7/8/9/10"},
		{"12 patches in pairs", pairsOfTwelve(), 12, 19200, "0 1 2 3 4 5/6 7 8/9/10"},
		{"six pairs in a chain", "0|1 2|3 4|5 6|7 8|9 10|11 12-13 18-14 19-15 20-16 21-17", 12, 3840, "0 1 2 3 4 5/6/7/8/9/10"},
		{"a chain of six and its last pairs", "0-1 12-2 13-3 14-4 15-5 6|7 8|9 10|11 17|18 19|20 16|21", 12, 2016, "0 5 6 7/1 8/2 9/3/4/10"},
	}
}

func TestOrdersByHand(t *testing.T) {
	for _, c := range ordersCases() {
		joins := joinsFrom(c.joins)
		wantCount(t, c.name, joins, c.n, c.count)
		wantFirst(t, c.name, joins, c.n, written(c.n-1))
		wantOrder(t, c.name, joins, c.n, written(c.n-1), true)
		wantRounds(t, c.name, joins, c.n, roundsFrom(c.rounds))
	}
}

func TestMostChainedByHand(t *testing.T) {
	for _, c := range []struct {
		joins string
		n     int
		want  int
	}{
		{"", 1, 0},
		{"0|1", 2, 1},
		{"0-1 2-3 4|5", 4, 2},
		{"0-1 4-2 5-3", 4, 1},
		{"0|1 2|3 4|5 6-7 9-8", 6, 3},
		{chain("-"), 12, 1},
		{pairsOfTwelve(), 12, 6},
	} {
		if got := impl.MostChained(joinsFrom(c.joins), c.n); got != c.want {
			t.Errorf("MostChained(%s, %d) = %d, want %d", c.joins, c.n, got, c.want)
		}
	}
}

func TestSewOrdersByHand(t *testing.T) {
	for _, c := range []struct {
		joins string
		n     int
		yes   string
		no    string
	}{
		{"0-1 2-3 4|5", 4, "0 1 2/1 0 2", "0 2 1/1 2 0/2 0 1/2 1 0/0 1/1 2/0/0 0 2/1 1 2/0 1 1/2 2 2/0 1 2 2/0 1 2 3/3 0 1 2/0 1 3/3 1 2"},
		{"0-1 5-2 3-4 6-7", 5, "0 1 2 3/0 2 1 3/2 0 1 3", "1 0 2 3/0 1 3 2/1 2 0 3/2 1 0 3/0 2 3 1/3 0 1 2/3 2 1 0/0 1 2/0 2 1/0 1 2 2/0 1 2 4/0 1 2 3 4/0 1 2 3 3"},
		{"0|1 3|2", 3, "0 1", "1 0/0 0/1 1/0/1/0 1 0/0 1 1/0 1 2/0 2/1 2/2 0/2 1/3 4"},
		{"0|1", 2, "0", "1/0 0/0 1/1 0/2"},
	} {
		joins := joinsFrom(c.joins)
		for _, order := range roundsFrom(c.yes) {
			wantOrder(t, "a right order", joins, c.n, order, true)
		}
		for _, order := range roundsFrom(c.no) {
			wantOrder(t, "a wrong order", joins, c.n, order, false)
		}
		wantOrder(t, "no order", joins, c.n, nil, false)
	}
}

// usesUnitsOnce looks at all units together: the joins of a tree use each unit but the last one, and none of them twice.
func usesUnitsOnce(joins []impl.Join, n int) bool {
	if n < 1 || n > 12 || len(joins) != n-1 || !areBefore(joins, n) {
		return false
	}
	var used []int
	for _, j := range joins {
		used = append(used, j.A, j.B)
	}
	slices.Sort(used)
	return slices.Equal(used, written(2*n-2))
}

// isOrderOfPlaces looks for the place of each join and of those that made its units.
func isOrderOfPlaces(joins []impl.Join, n int, order []int) bool {
	for k, j := range joins {
		place := slices.Index(order, k)
		if place < 0 || len(order) != len(joins) {
			return false
		}
		for _, u := range []int{j.A, j.B} {
			if u >= n && slices.Index(order, u-n) > place {
				return false
			}
		}
	}
	return len(order) == len(joins)
}

// eachPermutation visits the orders of so many indices, in lexicographic order.
func eachPermutation(count int, visit func(order []int)) {
	var order []int
	var fill func()
	fill = func() {
		if len(order) == count {
			visit(order)
			return
		}
		for k := range count {
			if !slices.Contains(order, k) {
				order = append(order, k)
				fill()
				order = order[:len(order)-1]
			}
		}
	}
	fill()
}

// countBySets counts the orders in which each set of joins can be sewn, with a bit for each join.
func countBySets(joins []impl.Join, n int) int {
	ways := make([]int, 1<<len(joins))
	ways[0] = 1
	for set := range ways {
		isSewn := func(u int) bool { return u < n || set>>(u-n)&1 == 1 }
		for k, j := range joins {
			if !isSewn(n+k) && isSewn(j.A) && isSewn(j.B) {
				ways[set|1<<k] += ways[set]
			}
		}
	}
	return ways[len(ways)-1]
}

// roundsByDepth has a round for each depth of units.
func roundsByDepth(joins []impl.Join, n int) [][]int {
	rounds := make([][]int, impl.DepthOf(joins, n))
	for k := range joins {
		depth := depthByUnits(joins, n, n+k)
		rounds[depth-1] = append(rounds[depth-1], k)
	}
	return rounds
}

// wantOrders checks joins that are a tree.
func wantOrders(t *testing.T, name string, joins []impl.Join, n int) {
	t.Helper()
	wantCount(t, name, joins, n, countBySets(joins, n))
	wantOrder(t, name, joins, n, written(n-1), true)
	wantFirst(t, name, joins, n, written(n-1))
	rounds := roundsByDepth(joins, n)
	wantRounds(t, name, joins, n, rounds)
	if got := impl.ChainRounds(joins, n); len(got) != impl.DepthOf(joins, n) {
		t.Errorf("%s: %d rounds of %v, which are %d deep", name, len(got), joins, impl.DepthOf(joins, n))
	} else {
		wantOrder(t, name+", rounds one after the other", joins, n, slices.Concat(got...), true)
	}
}

// wantTriedOrders tries all orders.
func wantTriedOrders(t *testing.T, name string, joins []impl.Join, n int) {
	t.Helper()
	count, first := 0, []int(nil)
	eachPermutation(len(joins), func(order []int) {
		want := isOrderOfPlaces(joins, n, order)
		wantOrder(t, name, joins, n, order, want)
		if want && count == 0 {
			first = slices.Clone(order)
		}
		if want {
			count++
		}
	})
	wantCount(t, name, joins, n, count)
	wantFirst(t, name, joins, n, first)
}

// eachTree visits all trees of n patches, in one array. A is less than B, or greater if exchanged is true.
func eachTree(n int, exchanged bool, visit func(joins []impl.Join)) {
	joins := make([]impl.Join, 0, n)
	var fill func(free []int)
	fill = func(free []int) {
		if len(free) == 1 {
			visit(joins)
			return
		}
		for i, a := range free {
			for k, b := range free[:i] {
				j := impl.Join{Upright: (a+b)%2 == 0, A: b, B: a}
				if exchanged {
					j.A, j.B = a, b
				}
				joins = append(joins, j)
				rest := slices.Concat(free[:k], free[k+1:i], free[i+1:], []int{n + len(joins) - 1})
				fill(rest)
				joins = joins[:len(joins)-1]
			}
		}
	}
	fill(written(n))
}

func TestOrdersOfAllTrees(t *testing.T) {
	want := 1
	for n := 1; n <= 6; n++ {
		if n > 1 {
			want *= n * (n - 1) / 2
		}
		for _, exchanged := range []bool{false, true} {
			trees := 0
			eachTree(n, exchanged, func(joins []impl.Join) {
				trees++
				wantTriedOrders(t, "a tree", joins, n)
				wantOrders(t, "a tree", joins, n)
			})
			if trees != want {
				t.Errorf("%d trees of %d patches, want %d", trees, n, want)
			}
		}
	}
}

// anyTree joins units that are taken in no order.
func anyTree(n int, s *series) []impl.Join {
	free := written(n)
	take := func() int {
		i := s.below(len(free))
		u := free[i]
		free = slices.Delete(free, i, i+1)
		return u
	}
	var joins []impl.Join
	for k := range n - 1 {
		joins = append(joins, impl.Join{Upright: s.below(2) == 0, A: take(), B: take()})
		free = append(free, n+k)
	}
	return joins
}

// chainOf joins each unit, as A or as B, with a patch. All joins need the one before.
func chainOf(n int, s *series) []impl.Join {
	var joins []impl.Join
	made := 0
	for k := range n - 1 {
		j := impl.Join{Upright: s.below(2) == 0, A: made, B: k + 1}
		if s.below(2) == 0 {
			j.A, j.B = j.B, j.A
		}
		joins = append(joins, j)
		made = n + k
	}
	return joins
}

func TestOrdersOfManyTrees(t *testing.T) {
	s := &series{last: 43}
	for n := 7; n <= 12; n++ {
		for i := range 150 {
			joins := anyTree(n, s)
			wantOrders(t, "any tree", joins, n)
			if n == 7 || n == 8 && i < 20 {
				wantTriedOrders(t, "any tree", joins, n)
			}
		}
	}
	for n := 1; n <= 12; n++ {
		for range 5 {
			joins := chainOf(n, s)
			wantOrders(t, "a chain", joins, n)
			wantCount(t, "a chain", joins, n, 1)
			backwards := written(n - 1)
			slices.Reverse(backwards)
			wantOrder(t, "a chain backwards", joins, n, backwards, n <= 2)
		}
	}
}

// anyOrder sews joins that are free in no order that one sees.
func anyOrder(joins []impl.Join, n int, s *series) []int {
	var order []int
	for len(order) < len(joins) {
		var free []int
		for k, j := range joins {
			if !slices.Contains(order, k) && (j.A < n || slices.Contains(order, j.A-n)) && (j.B < n || slices.Contains(order, j.B-n)) {
				free = append(free, k)
			}
		}
		order = append(order, free[s.below(len(free))])
	}
	return order
}

// rewritten are the joins in another order, with the numbers that their units get by that.
func rewritten(joins []impl.Join, n int, order []int) []impl.Join {
	place := func(u int) int {
		if u < n {
			return u
		}
		return n + slices.Index(order, u-n)
	}
	var list []impl.Join
	for _, k := range order {
		list = append(list, impl.Join{Upright: joins[k].Upright, A: place(joins[k].A), B: place(joins[k].B)})
	}
	return list
}

// TestJoinsWrittenInAnotherOrder has the joins of layouts, which still make the whole if they are sewn in any right order, and do not in a wrong one.
func TestJoinsWrittenInAnotherOrder(t *testing.T) {
	s := &series{last: 47}
	tried, wrong := 0, 0
	for _, l := range append(layoutsToJoin(), smallLayouts()[:2000]...) {
		joins, ok := impl.JoinsOf(l)
		if !ok {
			continue
		}
		tried++
		n := len(l.Patches)
		wantOrders(t, "the joins of a layout", joins, n)
		order := anyOrder(joins, n, s)
		wantOrder(t, "any right order", joins, n, order, true)
		list := rewritten(joins, n, order)
		if !impl.AreJoins(l, list) {
			t.Errorf("in the order %v, the joins %v do not make the whole of %v", order, joins, l)
		}
		wantCount(t, "in another order", list, n, impl.CountSewOrders(joins, n))
		if impl.MostChained(list, n) != impl.MostChained(joins, n) {
			t.Errorf("the joins %v have other rounds than %v", list, joins)
		}
		if n < 3 {
			continue
		}
		i, k := s.below(n-1), s.below(n-1)
		order[i], order[k] = order[k], order[i]
		isRight := impl.AreJoins(l, rewritten(joins, n, order))
		wantOrder(t, "an order with two joins exchanged", joins, n, order, isRight)
		if !isRight {
			wrong++
		}
	}
	if tried < 1000 || wrong < 100 {
		t.Errorf("%d layouts were tried, %d of them in a wrong order", tried, wrong)
	}
}

// eachList visits all lists of so many numbers from low to high, in one array.
func eachList(count int, low int, high int, visit func(list []int)) {
	list := make([]int, count)
	var fill func(at int)
	fill = func(at int) {
		if at == count {
			visit(list)
			return
		}
		for k := low; k <= high; k++ {
			list[at] = k
			fill(at + 1)
		}
	}
	fill(0)
}

// TestAllListsAsOrders has all lists of small numbers, of which most are too short or too long, or have an index twice or one that is not there.
func TestAllListsAsOrders(t *testing.T) {
	for n := 1; n <= 4; n++ {
		eachTree(n, false, func(joins []impl.Join) {
			for count := range n + 1 {
				eachList(count, -1, n, func(order []int) {
					wantOrder(t, "a list", joins, n, order, isOrderOfPlaces(joins, n, order))
				})
			}
		})
	}
}

// TestOtherIndices changes one index of a right order of many joins, leaves one out or adds one.
func TestOtherIndices(t *testing.T) {
	s := &series{last: 53}
	for n := 2; n <= 12; n++ {
		for range 5 {
			joins := anyTree(n, s)
			order := anyOrder(joins, n, s)
			wantOrder(t, "any right order", joins, n, order, true)
			for at, k := range order {
				for _, other := range append(farUnits(), -n, -2, -1, n-1, n, n+1, n+k, 2*n-2, 2*n-1) {
					list := slices.Clone(order)
					list[at] = other
					wantOrder(t, "another index", joins, n, list, other == k)
				}
				for other := range n - 1 {
					list := slices.Clone(order)
					list[at] = other
					wantOrder(t, "an index twice", joins, n, list, other == k)
					wantOrder(t, "an index more", joins, n, slices.Insert(slices.Clone(order), at, other), false)
					wantOrder(t, "an index more at the end", joins, n, append(slices.Clone(order), other), false)
				}
				wantOrder(t, "an index less", joins, n, slices.Delete(slices.Clone(order), at, at+1), false)
				wantOrder(t, "a part of the indices", joins, n, order[:at], false)
			}
			wantOrder(t, "all indices twice", joins, n, slices.Concat(order, order), false)
		}
	}
	for _, order := range [][]int{{0}, {-1}, {1}, {0, 0}, {math.MinInt}, {math.MaxInt}} {
		wantOrder(t, "an index without joins", nil, 1, order, false)
	}
	for _, order := range [][]int{nil, {}} {
		wantOrder(t, "no index without joins", nil, 1, order, true)
	}
}

// wantAsByUses compares all functions with the uses of units.
func wantAsByUses(t *testing.T, name string, joins []impl.Join, n int) bool {
	t.Helper()
	isTree := usesUnitsOnce(joins, n)
	if isTree {
		wantOrders(t, name, joins, n)
	} else {
		wantNoOrders(t, name, joins, n)
	}
	return isTree
}

// TestOrdersOfAllJoins has all lists of joins of few patches, with the number of those that are trees.
func TestOrdersOfAllJoins(t *testing.T) {
	for n, want := range []int{0, 1, 4, 48} {
		trees := 0
		for count := range 3 {
			eachJoins(count, -1, n+count, func(joins []impl.Join) {
				if wantAsByUses(t, "joins of few patches", joins, n) {
					trees++
				}
			})
		}
		if trees != want {
			t.Errorf("%d lists of joins of %d patches, want %d", trees, n, want)
		}
	}
	trees := 0
	eachList(6, 0, 6, func(list []int) {
		joins := []impl.Join{{A: list[0], B: list[1]}, {A: list[2], B: list[3]}, {A: list[4], B: list[5]}}
		if wantAsByUses(t, "joins of four patches", joins, 4) {
			trees++
		}
	})
	if trees != 144 {
		t.Errorf("%d lists of joins of four patches, want 144", trees)
	}
}

// TestJoinsThatAreNoTree has joins of which DepthOf is not -1.
func TestJoinsThatAreNoTree(t *testing.T) {
	for _, c := range []struct {
		name  string
		joins string
		n     int
	}{
		{"a patch and itself", "0|0", 2},
		{"the other patch and itself", "1-1", 2},
		{"a patch and itself, first of two joins", "0|0 1|2", 3},
		{"a patch and itself at the end", "0|1 2|2", 3},
		{"a unit and itself", "0|1 3|3", 3},
		{"the same join twice", "0|1 0|1", 3},
		{"the same join twice, exchanged", "0|1 1|0", 3},
		{"A is A of another join", "0|1 0|2", 3},
		{"A is B of another join", "0|1 1|2", 3},
		{"B is A of another join", "0|1 2|0", 3},
		{"B is B of another join", "0|1 2|1", 3},
		{"a patch of a unit again", "0|1 3|0", 3},
		{"a unit twice", "0|1 4|2 4|3", 4},
		{"two patches twice", "0|1 2|3 0|2", 4},
		{"each join of one unit", "0|0 1|1 2|2", 4},
		{"the last unit is not the whole", "0|1 4|2 0|1", 4},
	} {
		joins := joinsFrom(c.joins)
		if impl.DepthOf(joins, c.n) == -1 {
			t.Errorf("%s: the depth of %v is -1", c.name, joins)
		}
		wantNoOrders(t, c.name, joins, c.n)
	}
}

// TestOneOtherUnit changes one unit of many joins into another one, or writes one join twice or not at all.
func TestOneOtherUnit(t *testing.T) {
	s := &series{last: 59}
	for n := 2; n <= 12; n++ {
		for _, tree := range [][]impl.Join{anyTree(n, s), anyTree(n, s), chainOf(n, s)} {
			for at := range tree {
				for _, u := range append(farUnits(), written(2*n+1)...) {
					a, b, both := slices.Clone(tree), slices.Clone(tree), slices.Clone(tree)
					a[at].A, b[at].B = u, u
					both[at].A, both[at].B = u, u
					wantAsByUses(t, "another A", a, n)
					wantAsByUses(t, "another B", b, n)
					wantNoOrders(t, "one unit as A and B", both, n)
				}
				wantNoOrders(t, "a join twice", slices.Insert(slices.Clone(tree), at, tree[at]), n)
				wantNoOrders(t, "a join less", slices.Delete(slices.Clone(tree), at, at+1), n)
				wantNoOrders(t, "the first joins", tree[:at], n)
				if at > 0 {
					swapped := slices.Clone(tree)
					swapped[at], swapped[at-1] = swapped[at-1], swapped[at]
					wantAsByUses(t, "two joins exchanged", swapped, n)
				}
				for k := range tree {
					double := slices.Clone(tree)
					double[at] = tree[k]
					wantAsByUses(t, "a join instead of another one", double, n)
				}
			}
		}
	}
}

func TestOrdersOfWrongNumbers(t *testing.T) {
	s := &series{last: 61}
	var lists [][]impl.Join
	for n := 1; n <= 12; n++ {
		lists = append(lists, anyTree(n, s), chainOf(n, s))
	}
	for _, joins := range lists {
		for _, n := range append(farUnits(), -13, -12, -3, -2, -1, 0, 1, 2, 3, 4, 5, 6, 7, 8, 9, 10, 11, 12, 13, 14, 24) {
			if n != len(joins)+1 {
				wantNoOrders(t, "another number of patches", joins, n)
			}
		}
		wantNoOrders(t, "no joins", nil, len(joins)+2)
	}
	for n := 13; n <= 16; n++ {
		wantNoOrders(t, "too many patches", anyTree(n, s), n)
		wantNoOrders(t, "too many patches in a chain", chainOf(n, s), n)
	}
	for _, n := range append(farUnits(), -1, 0, 2, 13) {
		wantNoOrders(t, "no joins", nil, n)
		wantNoOrders(t, "no joins", []impl.Join{}, n)
	}
	for count := range 40 {
		wantNoOrders(t, "many joins", joinsFrom(strings.Repeat("0|1 ", count+2)), count+3)
	}
}

// TestUprightChangesNoOrder has seams of the other kind, which may be sewn in the same orders.
func TestUprightChangesNoOrder(t *testing.T) {
	for _, c := range ordersCases() {
		joins := joinsFrom(c.joins)
		for i := range joins {
			joins[i].Upright = !joins[i].Upright
		}
		wantCount(t, c.name, joins, c.n, c.count)
		wantOrders(t, c.name, joins, c.n)
	}
}

// callAllForOrders calls each function of the chapter.
func callAllForOrders(joins []impl.Join, n int, order []int) {
	impl.CountSewOrders(joins, n)
	impl.IsSewOrder(joins, n, order)
	impl.FirstSewOrder(joins, n)
	impl.ChainRounds(joins, n)
	impl.MostChained(joins, n)
}

func TestOrderArgumentsStay(t *testing.T) {
	s := &series{last: 67}
	for n := 1; n <= 14; n++ {
		for _, list := range [][]impl.Join{anyTree(n, s), chainOf(n, s), joinsFrom("0|1 0|1"), joinsFrom("9|9 1|0"), nil} {
			orders := [][]int{written(len(list)), {1, 0}, {5, -1, 99}, nil}
			if len(list) == n-1 && usesUnitsOnce(list, n) {
				orders = append(orders, anyOrder(list, n, s))
			}
			for _, o := range orders {
				joins, joinsRoom := roomyJoins(list)
				order, orderRoom := roomyList(o)
				oldJoins, oldOrder := slices.Clone(joinsRoom), slices.Clone(orderRoom)
				callAllForOrders(joins, n, order)
				callAllForOrders(joins, len(joins)+1, order)
				if !slices.Equal(joinsRoom, oldJoins) || !slices.Equal(orderRoom, oldOrder) {
					t.Errorf("%v or %v or their neighbours were changed: %v, %v", oldJoins, oldOrder, joinsRoom, orderRoom)
				}
			}
		}
	}
}

func TestFirstOrdersShareNoMemory(t *testing.T) {
	s := &series{last: 71}
	for n := 2; n <= 12; n++ {
		joins := anyTree(n, s)
		first, second := impl.FirstSewOrder(joins, n), impl.FirstSewOrder(joins, n)
		wipeList(first)
		if !slices.Equal(second, written(n-1)) {
			t.Errorf("an order was changed with another one: %v", second)
		}
		wantFirst(t, "the next order", joins, n, written(n-1))
	}
}

func TestRoundsShareNoMemory(t *testing.T) {
	s := &series{last: 73}
	var lists [][]impl.Join
	for n := 2; n <= 12; n++ {
		lists = append(lists, anyTree(n, s), anyTree(n, s), chainOf(n, s))
	}
	for _, c := range ordersCases() {
		lists = append(lists, joinsFrom(c.joins))
	}
	for _, joins := range lists {
		n := len(joins) + 1
		want := roundsByDepth(joins, n)
		for i := range want {
			rounds, others := impl.ChainRounds(joins, n), impl.ChainRounds(joins, n)
			wipeList(rounds[i])
			if !equalRounds(others, want) {
				t.Errorf("the rounds of %v were changed with others: %v", joins, others)
			}
			rounds[i] = want[i]
			if !equalRounds(rounds, want) {
				t.Errorf("the rounds of %v were changed with the one of index %d: %v", joins, i, rounds)
			}
			all := rounds[:cap(rounds)]
			for k := range all {
				all[k] = []int{99}
			}
			if !equalRounds(others, want) {
				t.Errorf("the rounds of %v were changed with another list of rounds: %v", joins, others)
			}
			wantRounds(t, "the next rounds", joins, n, want)
		}
	}
}

// TestResultsStayWhenJoinsChange changes the joins after the call.
func TestResultsStayWhenJoinsChange(t *testing.T) {
	for _, c := range ordersCases() {
		joins := joinsFrom(c.joins)
		order, rounds := impl.FirstSewOrder(joins, c.n), impl.ChainRounds(joins, c.n)
		for i := range joins {
			joins[i] = impl.Join{A: 99, B: 99}
		}
		wantList(t, "the order after a change of the joins", order, written(c.n-1))
		if !equalRounds(rounds, roundsFrom(c.rounds)) {
			t.Errorf("%s: after a change of the joins, the rounds are %v", c.name, rounds)
		}
	}
}
