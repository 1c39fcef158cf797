package tests

import (
	"fmt"
	"slices"
	"strconv"
	"strings"
	"testing"

	"loop.example/g01165/impl"
)

// The tests in this file are those of promise 9: what the functions of chapter 8 return for valid arguments.

// curves are all curves, in the order in which tables have their results.
var curves = []int64{impl.CurveRows, impl.CurveSnake, impl.CurveBits, impl.CurveTurns}

// orders are all orders of a curve.
var orders = []int64{0, 1, 2, 3, 4}

// rowsAsDefined returns the spots of a square row by row, where every second row can be the other way round.
func rowsAsDefined(side int64, snake bool) []impl.Spot {
	var list []impl.Spot
	for y := range side {
		row := allSpots(impl.Spot{Y: y}, impl.Spot{X: side, Y: y + 1})
		if snake && y%2 == 1 {
			slices.Reverse(row)
		}
		list = append(list, row...)
	}
	return list
}

// bitsAsDefined returns the spots whose Y and X have the bits of the indices by turns, read from their binary digits.
func bitsAsDefined(order int64) []impl.Spot {
	list := []impl.Spot{{}}
	for index := range int64(1) << (2 * order) {
		digits := fmt.Sprintf("%010b", index)
		var x, y string
		for i := 0; i < len(digits); i += 2 {
			y, x = y+digits[i:i+1], x+digits[i+1:i+2]
		}
		atX, _ := strconv.ParseInt(x, 2, 64)
		atY, _ := strconv.ParseInt(y, 2, 64)
		list = append(list, impl.Spot{X: atX, Y: atY})
	}
	return list[1:]
}

// turnsAsDefined returns the spots of the curve by turns, quarter by quarter.
func turnsAsDefined(order int64) []impl.Spot {
	if order == 0 {
		return []impl.Spot{{}}
	}
	quarter := turnsAsDefined(order - 1)
	half := int64(1) << (order - 1)
	var list []impl.Spot
	for _, s := range quarter {
		list = append(list, impl.Spot{X: s.Y, Y: s.X})
	}
	for _, s := range quarter {
		list = append(list, impl.Spot{X: s.X, Y: half + s.Y})
	}
	for _, s := range quarter {
		list = append(list, impl.Spot{X: half + s.X, Y: half + s.Y})
	}
	for _, s := range quarter {
		list = append(list, impl.Spot{X: half + half - 1 - s.Y, Y: half - 1 - s.X})
	}
	return list
}

// aPath is a curve of an order with all spots in the order in which it visits them.
type aPath struct {
	curve, order, side int64
	spots              []impl.Spot
}

func (p aPath) String() string { return fmt.Sprintf("[curve %d, order %d]", p.curve, p.order) }

func (p aPath) length() int64 { return int64(len(p.spots)) }

func (p aPath) last() impl.Spot { return impl.Spot{X: p.side - 1, Y: p.side - 1} }

func pathAsDefined(curve, order int64) aPath {
	p := aPath{curve: curve, order: order, side: 1 << order}
	switch curve {
	case impl.CurveRows, impl.CurveSnake:
		p.spots = rowsAsDefined(p.side, curve == impl.CurveSnake)
	case impl.CurveBits:
		p.spots = bitsAsDefined(order)
	case impl.CurveTurns:
		p.spots = turnsAsDefined(order)
	}
	return p
}

// paths returns all curves of all orders.
func paths() []aPath {
	var list []aPath
	for _, curve := range curves {
		for _, order := range orders {
			list = append(list, pathAsDefined(curve, order))
		}
	}
	return list
}

// indexGrid returns the indices of all spots, row by row.
func indexGrid(curve, order int64) string {
	var lines []string
	for y := range int64(1) << order {
		var words []string
		for x := range int64(1) << order {
			index, ok := impl.IndexOf(curve, order, x, y)
			if !ok {
				return "failed"
			}
			words = append(words, strconv.FormatInt(index, 10))
		}
		lines = append(lines, strings.Join(words, " "))
	}
	return strings.Join(lines, "/")
}

func TestCurvesByHand(t *testing.T) {
	tests := []struct {
		curve int64
		grids []string
	}{
		{impl.CurveRows, []string{"0", "0 1/2 3", "0 1 2 3/4 5 6 7/8 9 10 11/12 13 14 15"}},
		{impl.CurveSnake, []string{"0", "0 1/3 2", "0 1 2 3/7 6 5 4/8 9 10 11/15 14 13 12"}},
		{impl.CurveBits, []string{"0", "0 1/2 3", "0 1 4 5/2 3 6 7/8 9 12 13/10 11 14 15",
			"0 1 4 5 16 17 20 21/2 3 6 7 18 19 22 23/8 9 12 13 24 25 28 29/10 11 14 15 26 27 30 31/" +
				"32 33 36 37 48 49 52 53/34 35 38 39 50 51 54 55/40 41 44 45 56 57 60 61/42 43 46 47 58 59 62 63"}},
		{impl.CurveTurns, []string{"0", "0 3/1 2", "0 1 14 15/3 2 13 12/4 7 8 11/5 6 9 10",
			"0 3 4 5 58 59 60 63/1 2 7 6 57 56 61 62/14 13 8 9 54 55 50 49/15 12 11 10 53 52 51 48/" +
				"16 17 30 31 32 33 46 47/19 18 29 28 35 34 45 44/20 23 24 27 36 39 40 43/21 22 25 26 37 38 41 42"}},
	}
	for _, test := range tests {
		for order, grid := range test.grids {
			if got := indexGrid(test.curve, int64(order)); got != grid {
				t.Errorf("the curve %d of the order %d: got %s, want %s", test.curve, order, got, grid)
			}
		}
	}
}

func TestCurvesAreAsDefined(t *testing.T) {
	for _, p := range paths() {
		for index, at := range p.spots {
			expect(t, fmt.Sprint("SpotAt ", p, index), results(impl.SpotAt(p.curve, p.order, int64(index))), at, true)
			expect(t, fmt.Sprint("IndexOf ", p, at), results(impl.IndexOf(p.curve, p.order, at.X, at.Y)), index, true)
		}
		expect(t, fmt.Sprint("SpotAt 0 ", p), results(impl.SpotAt(p.curve, p.order, 0)), impl.Spot{}, true)
	}
}

// The last spots of the curves are told by their definitions, without any index.
func TestLastSpotsOfCurves(t *testing.T) {
	for _, order := range orders {
		side := int64(1) << order
		last := side*side - 1
		corner := impl.Spot{X: side - 1, Y: side - 1}
		expect(t, fmt.Sprint("rows ", order), results(impl.SpotAt(impl.CurveRows, order, last)), corner, true)
		expect(t, fmt.Sprint("bits ", order), results(impl.SpotAt(impl.CurveBits, order, last)), corner, true)
		expect(t, fmt.Sprint("turns ", order), results(impl.SpotAt(impl.CurveTurns, order, last)), impl.Spot{X: side - 1}, true)
		expect(t, fmt.Sprint("snake ", order), results(impl.SpotAt(impl.CurveSnake, order, last)), impl.Spot{Y: side - 1}, true)
	}
}

func TestEachSpotIsVisitedOnce(t *testing.T) {
	for _, curve := range curves {
		for _, order := range orders {
			side := int64(1) << order
			seen := map[impl.Spot]bool{}
			for index := range side * side {
				at, ok := impl.SpotAt(curve, order, index)
				if !ok || at.X < 0 || at.Y < 0 || at.X >= side || at.Y >= side || seen[at] {
					t.Fatalf("SpotAt %d %d %d: got %v, %v", curve, order, index, at, ok)
				}
				seen[at] = true
				back, ok := impl.IndexOf(curve, order, at.X, at.Y)
				if !ok || back != index {
					t.Fatalf("IndexOf %d %d %v: got %d, %v, want %d", curve, order, at, back, ok, index)
				}
			}
			if int64(len(seen)) != side*side {
				t.Errorf("the curve %d of the order %d visits %d spots", curve, order, len(seen))
			}
		}
	}
}

// Each quarter of the curve by turns is a whole curve, in which X and Y are exchanged as the document says.
func TestQuartersOfTheCurveByTurns(t *testing.T) {
	quarters := []struct {
		right, below int64
		local        func(x, y, last int64) (int64, int64)
	}{
		{0, 0, func(x, y, last int64) (int64, int64) { return y, x }},
		{0, 1, func(x, y, last int64) (int64, int64) { return x, y }},
		{1, 1, func(x, y, last int64) (int64, int64) { return x, y }},
		{1, 0, func(x, y, last int64) (int64, int64) { return last - y, last - x }},
	}
	for _, order := range orders[1:] {
		half := int64(1) << (order - 1)
		for before, q := range quarters {
			for _, s := range allSpots(impl.Spot{}, impl.Spot{X: half, Y: half}) {
				x, y := q.local(s.X, s.Y, half-1)
				inQuarter, ok := impl.IndexOf(impl.CurveTurns, order-1, x, y)
				want := int64(before)*half*half + inQuarter
				what := fmt.Sprint("the quarter ", before, " of the order ", order, " at ", s)
				expect(t, what, results(impl.IndexOf(impl.CurveTurns, order, q.right*half+s.X, q.below*half+s.Y)), want, ok)
			}
		}
	}
}

func TestLongestJumpByHand(t *testing.T) {
	tests := map[int64][]int64{
		impl.CurveRows:  {0, 2, 4, 8, 16},
		impl.CurveSnake: {0, 1, 1, 1, 1},
		impl.CurveBits:  {0, 2, 4, 8, 16},
		impl.CurveTurns: {0, 1, 1, 1, 1},
	}
	for _, curve := range curves {
		for i, want := range tests[curve] {
			expect(t, fmt.Sprint("LongestJump ", curve, i), results(impl.LongestJump(curve, int64(i))), want, true)
		}
	}
}

// wayAsDefined returns the sum and the greatest one of the distances from spot to spot.
func wayAsDefined(list []impl.Spot) (int64, int64) {
	sum, longest := int64(0), int64(0)
	for i := range list[:max(len(list), 1)-1] {
		far := farAsDefined(impl.FarCity, list[i], list[i+1])
		sum, longest = sum+far, max(longest, far)
	}
	return sum, longest
}

func TestLongestJumpIsAsDefined(t *testing.T) {
	for _, p := range paths() {
		_, longest := wayAsDefined(p.spots)
		expect(t, fmt.Sprint("LongestJump ", p), results(impl.LongestJump(p.curve, p.order)), longest, true)
	}
}

// aBox has all spots from one to another one.
type aBox struct {
	from, to impl.Spot
}

func boxAt(x, y, width, height int64) aBox {
	return aBox{impl.Spot{X: x, Y: y}, impl.Spot{X: x + width - 1, Y: y + height - 1}}
}

func (b aBox) spots() []impl.Spot {
	return allSpots(b.from, impl.Spot{X: b.to.X + 1, Y: b.to.Y + 1})
}

func (b aBox) has(s impl.Spot) bool { return slices.Contains(b.spots(), s) }

// allBoxes returns all boxes of a square.
func allBoxes(side int64) []aBox {
	var list []aBox
	for height := int64(1); height <= side; height++ {
		for width := int64(1); width <= side; width++ {
			list = append(list, boxesOfSize(side, width, height)...)
		}
	}
	return list
}

// boxesOfSize returns all boxes of a square with a width and a height.
func boxesOfSize(side, width, height int64) []aBox {
	var list []aBox
	for _, s := range allSpots(impl.Spot{}, impl.Spot{X: side - width + 1, Y: side - height + 1}) {
		list = append(list, boxAt(s.X, s.Y, width, height))
	}
	return list
}

// box returns an arbitrary box of a square.
func (n *noise) box(side int64) aBox {
	x, y := n.below(side), n.below(side)
	return boxAt(x, y, n.below(side-x)+1, n.below(side-y)+1)
}

// fewBoxes returns boxes of one spot, of one row, of one column, of the whole square, and arbitrary ones.
func fewBoxes(side, arbitrary int64) []aBox {
	list := []aBox{boxAt(0, 0, side, side)}
	for n := range side {
		list = append(list, boxAt(n, n, 1, 1), boxAt(n, side-1-n, 1, 1), boxAt(0, n, side, 1), boxAt(n, 0, 1, side),
			boxAt(n, n, side-n, side-n), boxAt(0, n, n+1, side-n), boxAt(n, 0, side-n, n+1), boxAt(0, 0, n+1, n+1))
	}
	source := noise(91)
	for range arbitrary {
		list = append(list, source.box(side))
	}
	return list
}

// boxesOf returns all boxes of a small square, and some of those of a large one.
func boxesOf(side int64) []aBox {
	if side <= 8 {
		return allBoxes(side)
	}
	return fewBoxes(side, 300)
}

func TestIsCurveBoxIsAsDefined(t *testing.T) {
	for _, order := range orders[:3] {
		side := int64(1) << order
		near := allSpots(impl.Spot{X: -2, Y: -2}, impl.Spot{X: side + 2, Y: side + 2})
		for _, from := range near {
			for _, to := range near {
				want := min(from.X, from.Y) >= 0 && max(to.X, to.Y) < side && from.X <= to.X && from.Y <= to.Y
				expect(t, fmt.Sprint("IsCurveBox ", order, from, to), results(impl.IsCurveBox(order, from, to)), want)
			}
		}
	}
	for _, order := range orders {
		for _, b := range allBoxes(1 << order) {
			if !impl.IsCurveBox(order, b.from, b.to) {
				t.Fatalf("IsCurveBox %d %v: must be true", order, b)
			}
		}
	}
}

func TestIntervalsByHand(t *testing.T) {
	tests := []struct {
		order int64
		box   aBox
		want  [4]string
	}{
		{0, boxAt(0, 0, 1, 1), [4]string{"[[0 0]]", "[[0 0]]", "[[0 0]]", "[[0 0]]"}},
		{1, boxAt(0, 0, 2, 2), [4]string{"[[0 3]]", "[[0 3]]", "[[0 3]]", "[[0 3]]"}},
		{1, boxAt(0, 0, 2, 1), [4]string{"[[0 1]]", "[[0 1]]", "[[0 1]]", "[[0 0] [3 3]]"}},
		{1, boxAt(1, 0, 1, 2), [4]string{"[[1 1] [3 3]]", "[[1 2]]", "[[1 1] [3 3]]", "[[2 3]]"}},
		{2, boxAt(0, 0, 2, 2), [4]string{"[[0 1] [4 5]]", "[[0 1] [6 7]]", "[[0 3]]", "[[0 3]]"}},
		{2, boxAt(2, 2, 2, 2), [4]string{"[[10 11] [14 15]]", "[[10 13]]", "[[12 15]]", "[[8 11]]"}},
		{2, boxAt(1, 1, 2, 2), [4]string{"[[5 6] [9 10]]", "[[5 6] [9 10]]", "[[3 3] [6 6] [9 9] [12 12]]", "[[2 2] [7 8] [13 13]]"}},
		{2, boxAt(0, 0, 4, 4), [4]string{"[[0 15]]", "[[0 15]]", "[[0 15]]", "[[0 15]]"}},
		{2, boxAt(0, 1, 4, 1), [4]string{"[[4 7]]", "[[4 7]]", "[[2 3] [6 7]]", "[[2 3] [12 13]]"}},
		{2, boxAt(3, 0, 1, 4), [4]string{"[[3 3] [7 7] [11 11] [15 15]]", "[[3 4] [11 12]]", "[[5 5] [7 7] [13 13] [15 15]]", "[[10 12] [15 15]]"}},
		{2, boxAt(3, 3, 1, 1), [4]string{"[[15 15]]", "[[12 12]]", "[[15 15]]", "[[10 10]]"}},
		{2, boxAt(0, 3, 4, 1), [4]string{"[[12 15]]", "[[12 15]]", "[[10 11] [14 15]]", "[[5 6] [9 10]]"}},
	}
	for _, test := range tests {
		for _, curve := range curves {
			got, ok := impl.IntervalsOf(curve, test.order, test.box.from, test.box.to)
			if fmt.Sprint(got) != test.want[curve] || !ok {
				t.Errorf("IntervalsOf %d %d %v: got %v, %v, want %s", curve, test.order, test.box, got, ok, test.want[curve])
			}
		}
	}
}

// inside returns for each index of a curve whether its spot is in a box.
func (p aPath) inside(b aBox) []bool {
	list := make([]bool, p.length())
	for i, s := range p.spots {
		list[i] = s.X >= b.from.X && s.X <= b.to.X && s.Y >= b.from.Y && s.Y <= b.to.Y
	}
	return list
}

// intervalsAsDefined returns from each index in a box that has none before it the interval to the last one.
func intervalsAsDefined(inside []bool) [][]int64 {
	var list [][]int64
	for first := range inside {
		if !inside[first] || first > 0 && inside[first-1] {
			continue
		}
		last := first
		for last+1 < len(inside) && inside[last+1] {
			last++
		}
		list = append(list, []int64{int64(first), int64(last)})
	}
	return list
}

func TestIntervalsAreAsDefined(t *testing.T) {
	for _, p := range paths() {
		for _, b := range boxesOf(p.side) {
			want := intervalsAsDefined(p.inside(b))
			got, ok := impl.IntervalsOf(p.curve, p.order, b.from, b.to)
			if !ok || !slices.EqualFunc(got, want, slices.Equal) {
				t.Fatalf("IntervalsOf %v %v: got %v, %v, want %v", p, b, got, ok, want)
			}
		}
	}
}

// The intervals of a box have just its spots, and no two of them could be one.
func TestIntervalsHaveJustTheirBox(t *testing.T) {
	for _, curve := range curves {
		for _, order := range orders {
			for _, b := range fewBoxes(1<<order, 20) {
				list, ok := impl.IntervalsOf(curve, order, b.from, b.to)
				before, count := int64(-2), 0
				for _, interval := range list {
					if len(interval) != 2 || interval[0] <= before+1 || interval[1] < interval[0] {
						t.Fatalf("IntervalsOf %d %d %v: got %v", curve, order, b, list)
					}
					for index := interval[0]; index <= interval[1]; index++ {
						at, found := impl.SpotAt(curve, order, index)
						if !found || !b.has(at) {
							t.Fatalf("IntervalsOf %d %d %v: %v has %v", curve, order, b, interval, at)
						}
						count++
					}
					before = interval[1]
				}
				if !ok || count != len(b.spots()) {
					t.Fatalf("IntervalsOf %d %d %v: got %v, %v", curve, order, b, list, ok)
				}
			}
		}
	}
}

// Squares that are divided off by halves again and again are one interval by bits and by turns.
func TestQuartersAreOneInterval(t *testing.T) {
	for _, order := range orders {
		side := int64(1) << order
		for size := side; size >= 1; size /= 2 {
			for y := int64(0); y < side; y += size {
				for x := int64(0); x < side; x += size {
					b := boxAt(x, y, size, size)
					for _, curve := range []int64{impl.CurveBits, impl.CurveTurns} {
						list, ok := impl.IntervalsOf(curve, order, b.from, b.to)
						if !ok || len(list) != 1 || list[0][1]-list[0][0] != size*size-1 || list[0][0]%(size*size) != 0 {
							t.Errorf("IntervalsOf %d %d %v: got %v", curve, order, b, list)
						}
					}
				}
			}
		}
	}
}

func TestNextInBoxByHand(t *testing.T) {
	middle, lower := boxAt(1, 1, 2, 2), boxAt(0, 1, 4, 1)
	tests := []struct {
		curve       int64
		box         aBox
		index, want int64
	}{
		// By rows: 5 6 9 10; by bits: 3 6 9 12; by turns: 2 7 8 13.
		{impl.CurveRows, middle, 0, 5}, {impl.CurveRows, middle, 5, 5}, {impl.CurveRows, middle, 6, 6}, {impl.CurveRows, middle, 7, 9},
		{impl.CurveRows, middle, 10, 10}, {impl.CurveRows, middle, 11, -1}, {impl.CurveRows, middle, 15, -1},
		{impl.CurveBits, middle, 0, 3}, {impl.CurveBits, middle, 3, 3}, {impl.CurveBits, middle, 4, 6}, {impl.CurveBits, middle, 12, 12}, {impl.CurveBits, middle, 13, -1},
		{impl.CurveTurns, middle, 0, 2}, {impl.CurveTurns, middle, 2, 2}, {impl.CurveTurns, middle, 3, 7}, {impl.CurveTurns, middle, 8, 8}, {impl.CurveTurns, middle, 9, 13}, {impl.CurveTurns, middle, 14, -1},
		// By the snake: 4 5 6 7; by turns: 2 3 12 13.
		{impl.CurveSnake, lower, 0, 4}, {impl.CurveSnake, lower, 4, 4}, {impl.CurveSnake, lower, 7, 7}, {impl.CurveSnake, lower, 8, -1},
		{impl.CurveTurns, lower, 4, 12}, {impl.CurveTurns, lower, 13, 13}, {impl.CurveTurns, lower, 14, -1}, {impl.CurveTurns, lower, 15, -1},
		{impl.CurveRows, boxAt(3, 3, 1, 1), 0, 15}, {impl.CurveRows, boxAt(3, 3, 1, 1), 15, 15}, {impl.CurveRows, boxAt(0, 0, 1, 1), 0, 0}, {impl.CurveRows, boxAt(0, 0, 1, 1), 1, -1},
	}
	for _, test := range tests {
		what := fmt.Sprint("NextInBox ", test.curve, test.box, test.index)
		got := results(impl.NextInBox(test.curve, 2, test.box.from, test.box.to, test.index))
		if test.want < 0 {
			expectFailure(t, what, got)
		} else {
			expect(t, what, got, test.want, true)
		}
	}
}

func TestNextInBoxIsAsDefined(t *testing.T) {
	for _, p := range paths() {
		boxes := allBoxes(p.side)
		if p.order > 2 {
			boxes = fewBoxes(p.side, 20)
		}
		for i, b := range boxes {
			inside := p.inside(b)
			for index := range p.length() {
				if p.order == 4 && (index+int64(i))%7 != 0 && index != p.length()-1 {
					continue
				}
				got, ok := impl.NextInBox(p.curve, p.order, b.from, b.to, index)
				next := slices.Index(inside[index:], true)
				if next < 0 && (ok || got != 0) || next >= 0 && (!ok || got != index+int64(next)) {
					t.Fatalf("NextInBox %v %v %d: got %d, %v", p, b, index, got, ok)
				}
			}
		}
	}
}

func TestIntervalsOfSizeByHand(t *testing.T) {
	tests := []struct {
		order, width, height int64
		want                 [4]int64
	}{
		{0, 1, 1, [4]int64{1, 1, 1, 1}},
		{1, 1, 1, [4]int64{4, 4, 4, 4}}, {1, 2, 2, [4]int64{1, 1, 1, 1}},
		{1, 2, 1, [4]int64{2, 2, 2, 3}}, {1, 1, 2, [4]int64{4, 3, 4, 2}},
		{2, 1, 1, [4]int64{16, 16, 16, 16}}, {2, 4, 4, [4]int64{1, 1, 1, 1}},
		{4, 1, 1, [4]int64{256, 256, 256, 256}}, {4, 16, 16, [4]int64{1, 1, 1, 1}},
		// Each row, and each column: there are as many intervals as spots, less the steps that stay in a
		// row, or in a column. The snake has a step to each next row; by turns, just one step more than half stays in a column.
		{2, 4, 1, [4]int64{4, 4, 8, 16 - 7}}, {2, 1, 4, [4]int64{16, 16 - 3, 16, 16 - 8}},
		{4, 16, 1, [4]int64{16, 16, 128, 256 - 127}}, {4, 1, 16, [4]int64{256, 256 - 15, 256, 256 - 128}},
	}
	for _, test := range tests {
		for _, curve := range curves {
			what := fmt.Sprint("IntervalsOfSize ", curve, test)
			expect(t, what, results(impl.IntervalsOfSize(curve, test.order, test.width, test.height)), test.want[curve], true)
		}
	}
}

func TestIntervalsOfSizeAreThoseOfAllBoxes(t *testing.T) {
	for _, p := range paths() {
		for height := int64(1); height <= p.side; height++ {
			for width := int64(1); width <= p.side; width++ {
				if p.order == 4 && min(width, height) > 1 && max(width, height) < 16 && (width+3*height)%11 != 0 {
					continue
				}
				want := 0
				for _, b := range boxesOfSize(p.side, width, height) {
					want += len(intervalsAsDefined(p.inside(b)))
				}
				got, ok := impl.IntervalsOfSize(p.curve, p.order, width, height)
				if !ok || got != int64(want) {
					t.Fatalf("IntervalsOfSize %v %d %d: got %d, %v, want %d", p, width, height, got, ok, want)
				}
			}
		}
	}
}

// spotLists returns lists of spots of a curve: none, one, all in order and the other way round, the same
// one several times, the first and the last one, and arbitrary ones, of which some come several times.
func (p aPath) spotLists() [][]impl.Spot {
	reversed := slices.Clone(p.spots)
	slices.Reverse(reversed)
	first, last := p.spots[0], p.spots[p.length()-1]
	list := [][]impl.Spot{
		nil, {}, {first}, {last}, p.spots, reversed, {first, last}, {last, first}, {last, first, last, first},
		slices.Repeat([]impl.Spot{first}, 256), slices.Repeat([]impl.Spot{last}, 5), slices.Repeat([]impl.Spot{last, p.spots[p.length()/2]}, 128),
	}
	source := noise(92)
	for _, count := range []int64{2, 3, 5, 10, 40, 255, 256} {
		for range 3 {
			var arbitrary []impl.Spot
			for range count {
				arbitrary = append(arbitrary, p.spots[source.below(p.length())])
			}
			list = append(list, arbitrary)
		}
	}
	return list
}

// sortedAsDefined returns each spot of a curve as often as it comes in a list.
func (p aPath) sortedAsDefined(list []impl.Spot) []impl.Spot {
	counts := map[impl.Spot]int{}
	for _, s := range list {
		counts[s]++
	}
	var sorted []impl.Spot
	for _, s := range p.spots {
		sorted = append(sorted, slices.Repeat([]impl.Spot{s}, counts[s])...)
	}
	return sorted
}

func TestSortAlongByHand(t *testing.T) {
	list := spots(3, 0, 0, 0, 2, 2, 0, 1, 3, 3, 2, 2, 1, 0)
	tests := map[int64]struct {
		sorted []impl.Spot
		way    int64
	}{
		impl.CurveRows:  {spots(0, 0, 1, 0, 3, 0, 0, 1, 2, 2, 2, 2, 3, 3), 1 + 2 + 4 + 3 + 0 + 2},
		impl.CurveSnake: {spots(0, 0, 1, 0, 3, 0, 0, 1, 2, 2, 2, 2, 3, 3), 1 + 2 + 4 + 3 + 0 + 2},
		impl.CurveBits:  {spots(0, 0, 1, 0, 0, 1, 3, 0, 2, 2, 2, 2, 3, 3), 1 + 2 + 4 + 3 + 0 + 2},
		impl.CurveTurns: {spots(0, 0, 1, 0, 0, 1, 2, 2, 2, 2, 3, 3, 3, 0), 1 + 2 + 3 + 0 + 2 + 3},
	}
	for _, curve := range curves {
		expect(t, fmt.Sprint("SortAlong ", curve), results(impl.SortAlong(curve, 2, list)), tests[curve].sorted, true)
		expect(t, fmt.Sprint("WayAlong ", curve), results(impl.WayAlong(curve, 2, list)), tests[curve].way, true)
	}
	// In the rows 1 and 3, the snake goes from right to left.
	expect(t, "SortAlong in a snake", results(impl.SortAlong(impl.CurveSnake, 2, spots(0, 3, 0, 1, 2, 1, 3, 3, 0, 2))), spots(2, 1, 0, 1, 0, 2, 3, 3, 0, 3), true)
	expect(t, "WayAlong in a snake", results(impl.WayAlong(impl.CurveSnake, 2, spots(0, 3, 0, 1, 2, 1, 3, 3, 0, 2))), 2+1+4+3, true)
}

func TestSortAlongIsAsDefined(t *testing.T) {
	for _, p := range paths() {
		for _, list := range p.spotLists() {
			sorted := p.sortedAsDefined(list)
			way, _ := wayAsDefined(sorted)
			what := fmt.Sprint(" ", p, len(list), " spots")
			expect(t, "SortAlong"+what, results(impl.SortAlong(p.curve, p.order, list)), sorted, true)
			expect(t, "WayAlong"+what, results(impl.WayAlong(p.curve, p.order, list)), way, true)
		}
	}
}

// The snake and the curve by turns go from each spot to one next to it, so that no way is longer than all of it.
func TestWayAlongAllSpots(t *testing.T) {
	for _, order := range orders {
		side := int64(1) << order
		all := allSpots(impl.Spot{}, impl.Spot{X: side, Y: side})
		expect(t, fmt.Sprint("WayAlong rows ", order), results(impl.WayAlong(impl.CurveRows, order, all)), side*(side-1)+(side-1)*side, true)
		expect(t, fmt.Sprint("WayAlong snake ", order), results(impl.WayAlong(impl.CurveSnake, order, all)), side*side-1, true)
		expect(t, fmt.Sprint("WayAlong turns ", order), results(impl.WayAlong(impl.CurveTurns, order, all)), side*side-1, true)
	}
}

// partsAsDefined returns the parts of spots. An index of one of them begins a part if none of those before
// it that are near enough is one of another spot, and ends a part if none of those behind it is.
func (p aPath) partsAsDefined(list []impl.Spot, gap int64) [][]int64 {
	var marked []bool
	for _, s := range p.spots {
		marked = append(marked, slices.Contains(list, s))
	}
	var starts, ends []int64
	for i := range p.length() {
		if !marked[i] {
			continue
		}
		if !slices.Contains(marked[max(0, i-gap):i], true) {
			starts = append(starts, i)
		}
		if !slices.Contains(marked[i+1:min(p.length(), i+1+gap)], true) {
			ends = append(ends, i)
		}
	}
	var parts [][]int64
	for i, start := range starts {
		parts = append(parts, []int64{start, ends[i]})
	}
	return parts
}

// spotsWith returns the spots with some indices.
func (p aPath) spotsWith(indices ...int64) []impl.Spot {
	var list []impl.Spot
	for _, index := range indices {
		list = append(list, p.spots[index])
	}
	return list
}

func TestCloseAlongByHand(t *testing.T) {
	tests := []struct {
		indices []int64
		gap     int64
		want    string
	}{
		{nil, 0, "[]"}, {nil, 256, "[]"},
		{[]int64{0}, 0, "[[0 0]]"}, {[]int64{255}, 256, "[[255 255]]"}, {[]int64{7, 7, 7}, 0, "[[7 7]]"},
		{[]int64{4, 3, 4}, 0, "[[3 3] [4 4]]"}, {[]int64{4, 3, 4}, 1, "[[3 4]]"}, {[]int64{3, 5}, 1, "[[3 3] [5 5]]"}, {[]int64{5, 3}, 2, "[[3 5]]"},
		{[]int64{20, 10}, 9, "[[10 10] [20 20]]"}, {[]int64{20, 10}, 10, "[[10 20]]"}, {[]int64{21, 10}, 10, "[[10 10] [21 21]]"},
		{[]int64{0, 255}, 254, "[[0 0] [255 255]]"}, {[]int64{0, 255}, 255, "[[0 255]]"}, {[]int64{0, 255}, 256, "[[0 255]]"},
		{[]int64{9, 1, 5, 30, 13, 34}, 4, "[[1 13] [30 34]]"}, {[]int64{9, 1, 5, 30, 13, 34}, 3, "[[1 1] [5 5] [9 9] [13 13] [30 30] [34 34]]"},
		{[]int64{2, 4, 7, 11, 16, 22}, 3, "[[2 7] [11 11] [16 16] [22 22]]"}, {[]int64{22, 16, 11, 7, 4, 2}, 5, "[[2 16] [22 22]]"},
		{[]int64{100, 101, 103, 103, 104}, 1, "[[100 101] [103 104]]"},
	}
	for _, curve := range curves {
		p := pathAsDefined(curve, impl.MaxOrder)
		for _, test := range tests {
			got, ok := impl.CloseAlong(curve, impl.MaxOrder, p.spotsWith(test.indices...), test.gap)
			if fmt.Sprint(got) != test.want || !ok {
				t.Errorf("CloseAlong %d %v: got %v, %v", curve, test, got, ok)
			}
		}
	}
}

func TestCloseAlongIsAsDefined(t *testing.T) {
	for _, p := range paths() {
		for _, list := range p.spotLists() {
			for _, gap := range []int64{0, 1, 2, 3, 7, 20, 63, 100, 254, 255, 256} {
				what := fmt.Sprint("CloseAlong ", p, len(list), " spots ", gap)
				expect(t, what, results(impl.CloseAlong(p.curve, p.order, list, gap)), p.partsAsDefined(list, gap), true)
			}
		}
	}
}

func TestCloseAlongJustTheGap(t *testing.T) {
	for _, p := range paths() {
		for gap := range p.length() {
			for first := int64(0); first+gap < p.length(); first += 17 {
				last := first + gap
				pair := p.spotsWith(last, first)
				expect(t, fmt.Sprint("CloseAlong just the gap ", p, first, gap), results(impl.CloseAlong(p.curve, p.order, pair, gap)), [][]int64{{first, last}}, true)
				if gap > 0 {
					expect(t, fmt.Sprint("CloseAlong 1 more ", p, first, gap), results(impl.CloseAlong(p.curve, p.order, pair, gap-1)), [][]int64{{first, first}, {last, last}}, true)
				}
			}
		}
	}
}

// The spots of a box are, with a gap of 1, divided into its intervals.
func TestCloseAlongABox(t *testing.T) {
	for _, p := range paths() {
		for _, b := range fewBoxes(p.side, 10) {
			list, ok := impl.IntervalsOf(p.curve, p.order, b.from, b.to)
			expect(t, fmt.Sprint("CloseAlong ", p, b), results(impl.CloseAlong(p.curve, p.order, b.spots(), 1)), list, ok)
		}
	}
}

// coloursAlong returns the pixels of a picture in the order of a curve.
func (p aPath) coloursAlong(picture impl.Picture) string {
	var text strings.Builder
	for _, s := range p.spots {
		text.WriteByte(picture.Rows[s.Y][s.X])
	}
	return text.String()
}

// runsOfColours returns the lengths of the parts of equal colour of a text, of which the first one is white.
func runsOfColours(text string) []int64 {
	var runs []int64
	for i := 0; text != ""; i++ {
		rest := strings.TrimLeft(text, ".#"[i%2:i%2+1])
		runs = append(runs, int64(len(text)-len(rest)))
		text = rest
	}
	return runs
}

// pictureOfColours returns the picture whose pixels in the order of a curve are those of a text.
func (p aPath) pictureOfColours(text string) impl.Picture {
	return painted(p.side, p.side, func(x, y int64) bool {
		return text[slices.Index(p.spots, impl.Spot{X: x, Y: y})] == '#'
	})
}

func TestPictureAlongByHand(t *testing.T) {
	tests := []struct {
		picture string
		want    [4]string
	}{
		{".", [4]string{"[1]", "[1]", "[1]", "[1]"}},
		{"#", [4]string{"[0 1]", "[0 1]", "[0 1]", "[0 1]"}},
		{"../..", [4]string{"[4]", "[4]", "[4]", "[4]"}},
		{"##/##", [4]string{"[0 4]", "[0 4]", "[0 4]", "[0 4]"}},
		{"#./.#", [4]string{"[0 1 2 1]", "[0 1 1 1 1]", "[0 1 2 1]", "[0 1 1 1 1]"}},
		{".#/..", [4]string{"[1 1 2]", "[1 1 2]", "[1 1 2]", "[3 1]"}},
		{"../#.", [4]string{"[2 1 1]", "[3 1]", "[2 1 1]", "[1 1 2]"}},
		{"##../##../..../....", [4]string{"[0 2 2 2 10]", "[0 2 4 2 8]", "[0 4 12]", "[0 4 12]"}},
		{"..../..../..##/..##", [4]string{"[10 2 2 2]", "[10 4 2]", "[12 4]", "[8 4 4]"}},
		{"#.../..../..../...#", [4]string{"[0 1 14 1]", "[0 1 11 1 3]", "[0 1 14 1]", "[0 1 9 1 5]"}},
		{"...#/#.../...#/#...", [4]string{"[3 2 6 2 3]", "[3 1 3 1 3 1 3 1]", "[2 1 2 1 4 1 2 1 2]", "[3 1 1 1 5 1 3 1]"}},
	}
	for _, test := range tests {
		picture := drawn(test.picture)
		order := int64(len(fmt.Sprintf("%b", widthOf(picture))) - 1)
		for _, curve := range curves {
			got, ok := impl.PictureAlong(picture, curve)
			if fmt.Sprint(got) != test.want[curve] || !ok {
				t.Errorf("PictureAlong %s %d: got %v, %v, want %s", test.picture, curve, got, ok, test.want[curve])
			}
			expect(t, fmt.Sprint("PictureFromRuns ", test.picture, curve), results(impl.PictureFromRuns(curve, order, got)), picture, true)
		}
	}
}

// picturesAlong returns pictures that are squares with the side of a curve.
func picturesAlong(order int64) []impl.Picture {
	side := int64(1) << order
	var list []impl.Picture
	if order <= 1 {
		return allPictures(int(side), int(side))
	}
	if order == 2 {
		for i, p := range allPictures(4, 4) {
			if i%23 == 0 || i < 20 {
				list = append(list, p)
			}
		}
	}
	source := noise(93)
	for range 20 {
		list = append(list, source.picture(side, side), source.blocks(side), source.grainy(side, side, 20, true), source.grainy(side, side, 20, false))
	}
	list = append(list, white(side, side), black(side, side), painted(side, side, func(x, y int64) bool { return (x+y)%2 == 0 }), painted(side, side, func(x, y int64) bool { return (x+y)%2 == 1 }))
	for _, s := range spots(0, 0, side-1, 0, 0, side-1, side-1, side-1, 1, 2) {
		inverted, _ := impl.InvertPicture(onePixel(side, side, s))
		list = append(list, onePixel(side, side, s), inverted)
	}
	return list
}

func TestPicturesComeBackFromTheirRuns(t *testing.T) {
	for _, p := range paths() {
		for _, picture := range picturesAlong(p.order) {
			want := runsOfColours(p.coloursAlong(picture))
			what := fmt.Sprintf(" %v %q", p, picture.Rows)
			expect(t, "PictureAlong"+what, results(impl.PictureAlong(picture, p.curve)), want, true)
			expect(t, "PictureFromRuns"+what, results(impl.PictureFromRuns(p.curve, p.order, want)), picture, true)
		}
	}
}

// listsOfNumbers returns all lists of at most so many numbers from a least to a greatest one.
func listsOfNumbers(most int, least, greatest int64) [][]int64 {
	list := [][]int64{nil}
	for from := 0; most > 0; most-- {
		longest := list[from:]
		from = len(list)
		for _, numbers := range longest {
			for n := least; n <= greatest; n++ {
				list = append(list, append(slices.Clone(numbers), n))
			}
		}
	}
	return list
}

// areRuns reports whether a picture with so many pixels has these runs.
func areRuns(runs []int64, pixels int64) bool {
	sum := int64(0)
	for i, n := range runs {
		if n < 0 || n > pixels || n == 0 && i > 0 {
			return false
		}
		sum += n
	}
	return sum == pixels && pixels > 0
}

// coloursOfRuns returns the text of which these are the runs.
func coloursOfRuns(runs []int64) string {
	var text strings.Builder
	for i, n := range runs {
		text.WriteString(strings.Repeat(".#"[i%2:i%2+1], int(n)))
	}
	return text.String()
}

func TestPictureFromRunsOnAllLists(t *testing.T) {
	for _, curve := range curves {
		for _, order := range orders[:2] {
			p := pathAsDefined(curve, order)
			pictures := 0
			for _, runs := range listsOfNumbers(5, -1, 5) {
				what := fmt.Sprint("PictureFromRuns ", p, runs)
				got := results(impl.PictureFromRuns(curve, order, runs))
				if !areRuns(runs, p.length()) {
					expectFailure(t, what, got)
					continue
				}
				pictures++
				expect(t, what, got, p.pictureOfColours(coloursOfRuns(runs)), true)
			}
			if pictures != 1<<p.length() {
				t.Errorf("%v has %d pictures", p, pictures)
			}
		}
	}
}

func TestPictureFromRunsOfLargeSquares(t *testing.T) {
	source := noise(94)
	for _, p := range paths() {
		for range 30 {
			var runs []int64
			for left := p.length(); left > 0; {
				n := min(left, source.below(9)+1)
				if len(runs) == 0 {
					n = min(left, source.below(3))
				}
				runs = append(runs, n)
				left -= n
			}
			want := p.pictureOfColours(coloursOfRuns(runs))
			expect(t, fmt.Sprint("PictureFromRuns ", p, runs), results(impl.PictureFromRuns(p.curve, p.order, runs)), want, true)
			expect(t, fmt.Sprint("PictureAlong ", p, runs), results(impl.PictureAlong(want, p.curve)), runs, true)
		}
	}
}

func TestExamplesOfChapter8(t *testing.T) {
	for index, want := range spots(0, 0, 0, 1, 1, 1, 1, 0) {
		expect(t, fmt.Sprint("SpotAt ", index), results(impl.SpotAt(impl.CurveTurns, 1, int64(index))), want, true)
	}
	from, to := impl.Spot{}, impl.Spot{X: 1, Y: 1}
	for curve, want := range map[int64][][]int64{impl.CurveBits: {{0, 3}}, impl.CurveTurns: {{0, 3}}, impl.CurveRows: {{0, 1}, {4, 5}}} {
		expect(t, fmt.Sprint("IntervalsOf ", curve), results(impl.IntervalsOf(curve, 2, from, to)), want, true)
	}
}
