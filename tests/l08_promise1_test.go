package tests

import (
	"fmt"
	"reflect"
	"slices"
	"testing"

	"loop.example/g01165/impl"
)

// The tests in this file are those of promise 1 for chapter 8: every function returns for all
// arguments, modifies none of them, and returns equal results, in new memory, for equal arguments.

// curveCall is a call of a function with a curve and an order, and other arguments that are valid for some order.
type curveCall struct {
	name string
	of   func(curve, order int64) []any
}

// curveCalls returns calls whose other arguments are valid for the curves with a side.
func curveCalls(side int64) []curveCall {
	last, index := impl.Spot{X: side - 1, Y: side - 1}, side*side-1
	list := []impl.Spot{last, {}, last}
	calls := []curveCall{
		{"IndexOf", func(curve, order int64) []any { return results(impl.IndexOf(curve, order, side-1, side-1)) }},
		{"SpotAt", func(curve, order int64) []any { return results(impl.SpotAt(curve, order, index)) }},
		{"LongestJump", func(curve, order int64) []any { return results(impl.LongestJump(curve, order)) }},
		{"IntervalsOf", func(curve, order int64) []any { return results(impl.IntervalsOf(curve, order, impl.Spot{}, last)) }},
		{"IntervalsOf last", func(curve, order int64) []any { return results(impl.IntervalsOf(curve, order, last, last)) }},
		{"NextInBox", func(curve, order int64) []any {
			return results(impl.NextInBox(curve, order, impl.Spot{}, last, index))
		}},
		{"IntervalsOfSize", func(curve, order int64) []any { return results(impl.IntervalsOfSize(curve, order, side, side)) }},
		{"IntervalsOfSize 1", func(curve, order int64) []any { return results(impl.IntervalsOfSize(curve, order, 1, 1)) }},
		{"SortAlong", func(curve, order int64) []any { return results(impl.SortAlong(curve, order, list)) }},
		{"WayAlong", func(curve, order int64) []any { return results(impl.WayAlong(curve, order, list)) }},
		{"PictureFromRuns", func(curve, order int64) []any {
			return results(impl.PictureFromRuns(curve, order, []int64{0, side * side}))
		}},
	}
	for _, gap := range []int64{0, 1, 256} {
		calls = append(calls, curveCall{fmt.Sprint("CloseAlong ", gap), func(curve, order int64) []any { return results(impl.CloseAlong(curve, order, list, gap)) }})
	}
	return append(calls, callsWithoutSpots()...)
}

// callsWithoutSpots returns calls without spots, which are valid for all orders.
func callsWithoutSpots() []curveCall {
	return []curveCall{
		{"SortAlong none", func(curve, order int64) []any { return results(impl.SortAlong(curve, order, nil)) }},
		{"WayAlong none", func(curve, order int64) []any { return results(impl.WayAlong(curve, order, nil)) }},
		{"CloseAlong none", func(curve, order int64) []any { return results(impl.CloseAlong(curve, order, nil, 0)) }},
	}
}

// strangeCurves are numbers that no curve has.
var strangeCurves = append([]int64{-1, 4, -2, 5, -3, -4, 7, 8, 16, 128, 255, 256, 257, 259, -256, 1 << 16, 1<<32 + 2, 1<<32 + 3, 1 << 62}, farNumbers...)

// strangeOrders are numbers that no order has.
var strangeOrders = append([]int64{-1, 5, -2, 6, 7, 8, -4, 10, 16, 31, 32, 33, 61, 62, 63, 64, 65, 66, 68, 127, 128, 255, 256, 257, 260, -64, -63, -256, 1 << 16, 1<<32 + 4, 1 << 62}, farNumbers...)

func TestStrangeCurvesFail(t *testing.T) {
	for _, order := range orders {
		side := int64(1) << order
		for _, curve := range strangeCurves {
			for _, call := range curveCalls(side) {
				expectFailure(t, fmt.Sprint(call.name, " ", curve, order), call.of(curve, order))
			}
			for _, p := range []impl.Picture{white(side, side), black(side, side), onePixel(side, side, impl.Spot{})} {
				expectFailure(t, fmt.Sprintf("PictureAlong %d %q", curve, p.Rows), results(impl.PictureAlong(p, curve)))
			}
		}
		for _, curve := range curves {
			for _, call := range curveCalls(side) {
				if got := call.of(curve, order); !got[len(got)-1].(bool) {
					t.Errorf("%s %d %d must succeed", call.name, curve, order)
				}
			}
		}
	}
}

func TestStrangeOrdersFail(t *testing.T) {
	for _, order := range strangeOrders {
		for _, side := range treeSides {
			for _, curve := range append([]int64{-1, 4}, curves...) {
				for _, call := range curveCalls(side) {
					expectFailure(t, fmt.Sprint(call.name, " ", curve, order), call.of(curve, order))
				}
				expectFailure(t, fmt.Sprint("PictureFromRuns ", curve, order), results(impl.PictureFromRuns(curve, order, []int64{side * side})))
				expectFailure(t, fmt.Sprint("PictureFromRuns none ", curve, order), results(impl.PictureFromRuns(curve, order, nil)))
			}
			for _, b := range fewBoxes(side, 5) {
				expect(t, fmt.Sprint("IsCurveBox ", order, b), results(impl.IsCurveBox(order, b.from, b.to)), false)
			}
		}
	}
}

// numbersBeyond are numbers that are no X and no Y of a spot in a square with a side.
func numbersBeyond(side int64) []int64 {
	return append([]int64{-1, side, -2, side + 1, -side, 2 * side, 4 * side, side * side, -16, 16, 32, 255, 256, 1 << 16, 1 << 31, 1<<32 + 15, -1 << 31, 1 << 62}, farNumbers...)
}

// spotsBeyond are spots outside of a square with a side.
func spotsBeyond(side int64) []impl.Spot {
	var list []impl.Spot
	for _, n := range numbersBeyond(side) {
		for _, s := range []impl.Spot{{X: n}, {Y: n}, {X: n, Y: side - 1}, {X: side - 1, Y: n}, {X: n, Y: n}} {
			list = append(list, s, impl.Spot{X: s.X, Y: -1})
		}
	}
	return list
}

func TestSpotsOutsideFailInChapter8(t *testing.T) {
	for _, p := range paths() {
		for _, bad := range spotsBeyond(p.side) {
			what := fmt.Sprint(" ", p, bad)
			expectFailure(t, "IndexOf"+what, results(impl.IndexOf(p.curve, p.order, bad.X, bad.Y)))
			long := append(slices.Repeat(p.spots[:1], 255), bad)
			for _, list := range [][]impl.Spot{{bad}, {bad, {}}, {{}, bad}, {{}, bad, {}}, {bad, bad}, long} {
				expectFailure(t, "SortAlong"+what, results(impl.SortAlong(p.curve, p.order, list)))
				expectFailure(t, "WayAlong"+what, results(impl.WayAlong(p.curve, p.order, list)))
				expectFailure(t, "CloseAlong"+what, results(impl.CloseAlong(p.curve, p.order, list, 256)))
			}
		}
	}
}

func TestIndicesOutsideFail(t *testing.T) {
	for _, p := range paths() {
		n := p.length()
		for _, index := range append([]int64{-1, n, n + 1, -2, -n, 2 * n, 4 * n, 256, 257, 1 << 16, 1<<32 + 3, 1 << 62}, leastInt, leastInt+1, greatestInt, greatestInt-1, -1<<32, 1<<32) {
			what := fmt.Sprint(" ", p, index)
			expectFailure(t, "SpotAt"+what, results(impl.SpotAt(p.curve, p.order, index)))
			for _, b := range fewBoxes(p.side, 3) {
				expectFailure(t, fmt.Sprint("NextInBox ", p, b, index), results(impl.NextInBox(p.curve, p.order, b.from, b.to, index)))
			}
		}
		expect(t, fmt.Sprint("the first index ", p), results(impl.NextInBox(p.curve, p.order, impl.Spot{}, p.last(), 0)), 0, true)
		expect(t, fmt.Sprint("the last index ", p), results(impl.NextInBox(p.curve, p.order, impl.Spot{}, p.last(), n-1)), n-1, true)
	}
}

// badBoxes returns boxes that leave a square with a side, or whose from is greater than their to.
func badBoxes(side int64) []aBox {
	var list []aBox
	for _, n := range numbersBeyond(side) {
		list = append(list, aBox{impl.Spot{X: n}, impl.Spot{X: n}}, aBox{impl.Spot{Y: n}, impl.Spot{Y: n}}, aBox{impl.Spot{X: n, Y: n}, impl.Spot{X: n, Y: n}})
		for _, bad := range []impl.Spot{{X: n}, {Y: n}, {X: n, Y: side - 1}, {X: side - 1, Y: n}, {X: n, Y: n}} {
			for _, good := range spots(0, 0, side-1, side-1, 0, side-1, side/2, side/2) {
				list = append(list, aBox{bad, good}, aBox{good, bad})
			}
		}
	}
	for n := range side - 1 {
		for _, m := range []int64{0, side / 2, side - 1} {
			list = append(list, aBox{impl.Spot{X: n + 1, Y: m}, impl.Spot{X: n, Y: m}}, aBox{impl.Spot{X: m, Y: n + 1}, impl.Spot{X: m, Y: n}},
				aBox{impl.Spot{X: n + 1}, impl.Spot{X: n, Y: side - 1}}, aBox{impl.Spot{Y: n + 1}, impl.Spot{X: side - 1, Y: n}},
				aBox{impl.Spot{X: side - 1, Y: m}, impl.Spot{X: n, Y: m}}, aBox{impl.Spot{X: m, Y: side - 1}, impl.Spot{X: m, Y: n}},
				aBox{impl.Spot{X: n + 1, Y: n + 1}, impl.Spot{X: n, Y: n}})
		}
	}
	return list
}

func TestNoBoxFails(t *testing.T) {
	for _, p := range paths() {
		for _, b := range badBoxes(p.side) {
			what := fmt.Sprint(" ", p, b)
			expect(t, "IsCurveBox"+what, results(impl.IsCurveBox(p.order, b.from, b.to)), false)
			expectFailure(t, "IntervalsOf"+what, results(impl.IntervalsOf(p.curve, p.order, b.from, b.to)))
			for _, index := range []int64{0, p.length() - 1, -1, p.length()} {
				expectFailure(t, fmt.Sprint("NextInBox", what, index), results(impl.NextInBox(p.curve, p.order, b.from, b.to, index)))
			}
		}
	}
}

func TestSizesOutsideFailInChapter8(t *testing.T) {
	for _, p := range paths() {
		for _, n := range append(numbersBeyond(p.side+1), 0) {
			if n >= 1 && n <= p.side {
				continue
			}
			for _, size := range [][2]int64{{n, 1}, {1, n}, {n, n}, {n, p.side}, {p.side, n}, {n, -n}, {n, 1 - n}} {
				expectFailure(t, fmt.Sprint("IntervalsOfSize ", p, size), results(impl.IntervalsOfSize(p.curve, p.order, size[0], size[1])))
			}
		}
		for _, size := range [][2]int64{{1, 1}, {1, p.side}, {p.side, 1}, {p.side, p.side}} {
			if got, ok := impl.IntervalsOfSize(p.curve, p.order, size[0], size[1]); got < 1 || !ok {
				t.Errorf("IntervalsOfSize %v %v: got %d, %v", p, size, got, ok)
			}
		}
	}
}

func TestTooManySpotsFailInChapter8(t *testing.T) {
	for _, p := range paths() {
		most := slices.Repeat([]impl.Spot{p.last()}, 256)
		index := int64(slices.Index(p.spots, p.last()))
		what := fmt.Sprint(" ", p)
		expect(t, "SortAlong the most"+what, results(impl.SortAlong(p.curve, p.order, most)), most, true)
		expect(t, "WayAlong the most"+what, results(impl.WayAlong(p.curve, p.order, most)), 0, true)
		expect(t, "CloseAlong the most"+what, results(impl.CloseAlong(p.curve, p.order, most, 0)), [][]int64{{index, index}}, true)
		for _, count := range []int{257, 258, 300, 512, 1 << 16, 1000000} {
			many := slices.Repeat([]impl.Spot{{}}, count)
			expectFailure(t, fmt.Sprint("SortAlong", what, count), results(impl.SortAlong(p.curve, p.order, many)))
			expectFailure(t, fmt.Sprint("WayAlong", what, count), results(impl.WayAlong(p.curve, p.order, many)))
			expectFailure(t, fmt.Sprint("CloseAlong", what, count), results(impl.CloseAlong(p.curve, p.order, many, 256)))
		}
		different := append(slices.Repeat(p.spots, int(256/p.length())), p.spots[0])
		expectFailure(t, "SortAlong all and one more"+what, results(impl.SortAlong(p.curve, p.order, different)))
		expectFailure(t, "WayAlong all and one more"+what, results(impl.WayAlong(p.curve, p.order, different)))
		expectFailure(t, "CloseAlong all and one more"+what, results(impl.CloseAlong(p.curve, p.order, different, 0)))
	}
}

func TestGapsOutsideFail(t *testing.T) {
	for _, p := range paths() {
		for _, gap := range append([]int64{-1, 257, -2, 258, -256, 512, 1 << 16, 1<<32 + 5, 1 << 62}, leastInt, leastInt+1, greatestInt, greatestInt-1, -1<<32, 1<<32) {
			for _, list := range [][]impl.Spot{nil, {}, p.spots[:1], p.spots} {
				expectFailure(t, fmt.Sprint("CloseAlong ", p, len(list), " spots ", gap), results(impl.CloseAlong(p.curve, p.order, list, gap)))
			}
		}
		for _, gap := range []int64{0, 256} {
			expect(t, fmt.Sprint("CloseAlong ", p, gap), results(impl.CloseAlong(p.curve, p.order, p.spots[:1], gap)), [][]int64{{0, 0}}, true)
		}
	}
}

func TestNoPictureFailsInChapter8(t *testing.T) {
	for _, curve := range append([]int64{-1, 4}, curves...) {
		for _, bad := range badPictures() {
			expectFailure(t, fmt.Sprintf("PictureAlong %d %q", curve, bad.Rows), results(impl.PictureAlong(bad, curve)))
		}
		for width := int64(1); width <= 17; width++ {
			for height := int64(1); height <= 17; height++ {
				what := fmt.Sprint("PictureAlong ", curve, " ", width, " ", height)
				allWhite, allBlack := results(impl.PictureAlong(white(width, height), curve)), results(impl.PictureAlong(black(width, height), curve))
				if slices.Contains(curves, curve) && width == height && slices.Contains(treeSides, width) {
					expect(t, what, allWhite, []int64{width * width}, true)
					expect(t, what, allBlack, []int64{0, width * width}, true)
				} else {
					expectFailure(t, what, allWhite)
					expectFailure(t, what, allBlack)
				}
			}
		}
	}
}

// badRunsAlong returns lists that are no runs of a picture with so many pixels.
func badRunsAlong(pixels int64) [][]int64 {
	list := [][]int64{
		nil, {}, {0}, {0, 0}, {0, 0, pixels}, {pixels - 1}, {pixels + 1}, {0, pixels - 1}, {0, pixels + 1}, {pixels, 1}, {pixels, pixels}, {1, pixels}, {2 * pixels},
		// A 0 that is not the first one.
		{pixels, 0}, {0, pixels, 0}, {pixels, 0, 0}, {1, 0, pixels - 1}, {0, 1, 0, pixels - 1}, {0, 0, 0, pixels},
		// Numbers below 0.
		{-1}, {-pixels}, {-1, pixels + 1}, {pixels + 1, -1}, {0, pixels + 1, -1}, {1, -1, pixels}, {0, -1, pixels + 1}, {pixels, -1, 1}, {pixels, 1, -1}, {pixels, -1}, {0, pixels, -1},
		{2 * pixels, -pixels}, {-pixels, 2 * pixels},
		slices.Repeat([]int64{1}, int(pixels)+1), append([]int64{0}, slices.Repeat([]int64{1}, int(pixels)+1)...),
		make([]int64, 1000), make([]int64, 1000000), append(make([]int64, 1000001), pixels), slices.Repeat([]int64{1}, 1000000),
	}
	if pixels > 1 {
		list = append(list, []int64{1}, []int64{0, 1}, []int64{1, pixels - 2}, slices.Repeat([]int64{1}, int(pixels)-1))
	}
	// The sum of some of these is the number of pixels if it is not kept from overflowing.
	list = append(list, []int64{greatestInt, greatestInt, pixels + 2}, []int64{pixels, greatestInt, greatestInt, 2}, []int64{1 << 62, 1 << 62, 1 << 62, 1 << 62, pixels}, []int64{leastInt, leastInt, pixels})
	for _, n := range []int64{256, 257, 512, 1 << 16, 1 << 31, 1 << 32, 1<<32 + 1, 1 << 62, greatestInt, greatestInt - 1, leastInt, leastInt + 1, -1 << 32} {
		if n != pixels {
			list = append(list, []int64{n}, []int64{0, n}, []int64{1, n}, []int64{n, 1}, []int64{n, pixels - n}, []int64{pixels - n, n}, []int64{n, n, pixels}, []int64{pixels, n}, []int64{n + pixels})
		}
	}
	return list
}

func TestNoRunsFailInChapter8(t *testing.T) {
	for _, curve := range curves {
		for _, order := range orders {
			side := int64(1) << order
			for _, bad := range badRunsAlong(side * side) {
				if areRuns(bad, side*side) {
					t.Fatalf("%v are runs of %d pixels", bad, side*side)
				}
				got := results(impl.PictureFromRuns(curve, order, bad))
				expectFailure(t, fmt.Sprintf("PictureFromRuns %d %d %.60v", curve, order, bad[:min(len(bad), 9)]), got)
			}
			expect(t, fmt.Sprint("PictureFromRuns white ", curve, order), results(impl.PictureFromRuns(curve, order, []int64{side * side})), white(side, side), true)
			expect(t, fmt.Sprint("PictureFromRuns black ", curve, order), results(impl.PictureFromRuns(curve, order, []int64{0, side * side})), black(side, side), true)
		}
	}
}

func TestChapter8ModifiesNoArgument(t *testing.T) {
	for _, p := range paths() {
		lists := append(p.spotLists(), spots(0, 0, -1, 0, 0, 0), spots(p.side, 0), slices.Repeat(spots(p.side-1, 0, 0, 0), 129))
		for _, list := range lists {
			checkUnmodified(t, "SortAlong", list, impl.Spot{X: 7, Y: -7}, func(list []impl.Spot) { impl.SortAlong(p.curve, p.order, list) })
			checkUnmodified(t, "WayAlong", list, impl.Spot{}, func(list []impl.Spot) { impl.WayAlong(p.curve, p.order, list) })
			checkUnmodified(t, "CloseAlong", list, impl.Spot{}, func(list []impl.Spot) { impl.CloseAlong(p.curve, p.order, list, 1) })
		}
		pixels := p.length()
		for _, runs := range [][]int64{{pixels}, {0, pixels}, {pixels, 1}, {1, -1, pixels}, {pixels - 1, 1}, {greatestInt, 1}, {0}, nil, {pixels + 1}} {
			checkUnmodified(t, "PictureFromRuns", runs, 1, func(runs []int64) { impl.PictureFromRuns(p.curve, p.order, runs) })
		}
		for _, picture := range append(fewPictures(), black(p.side, p.side), drawn("#x"), impl.Picture{}) {
			checkUnmodified(t, "PictureAlong", picture.Rows, "#", func(rows []string) { impl.PictureAlong(impl.Picture{Rows: rows}, p.curve) })
		}
	}
}

func TestChapter8ReturnsNewMemory(t *testing.T) {
	source := noise(95)
	for _, p := range paths() {
		for _, call := range curveCalls(p.side) {
			checkNewMemory(t, fmt.Sprint(call.name, " ", p), func() []any { return call.of(p.curve, p.order) })
		}
		for _, b := range fewBoxes(p.side, 5) {
			what := fmt.Sprint("IntervalsOf ", p, b)
			checkNewMemory(t, what, func() []any { return results(impl.IntervalsOf(p.curve, p.order, b.from, b.to)) })
			list, _ := impl.IntervalsOf(p.curve, p.order, b.from, b.to)
			checkRowsShareNothing(t, what, list)
		}
		for _, list := range p.spotLists() {
			before := fmt.Sprint(list)
			checkNewMemory(t, "SortAlong", func() []any { return results(impl.SortAlong(p.curve, p.order, list)) })
			for _, gap := range []int64{0, 1, 20} {
				checkNewMemory(t, "CloseAlong", func() []any { return results(impl.CloseAlong(p.curve, p.order, list, gap)) })
				parts, _ := impl.CloseAlong(p.curve, p.order, list, gap)
				checkRowsShareNothing(t, "CloseAlong", parts)
			}
			if fmt.Sprint(list) != before {
				t.Fatalf("a result shares memory with the spots %s", before)
			}
		}
		picture := source.picture(p.side, p.side)
		rows := slices.Clone(picture.Rows)
		runs := runsOfColours(p.coloursAlong(picture))
		before := slices.Clone(runs)
		checkNewMemory(t, "PictureAlong", func() []any { return results(impl.PictureAlong(picture, p.curve)) })
		checkNewMemory(t, "PictureFromRuns", func() []any { return results(impl.PictureFromRuns(p.curve, p.order, runs)) })
		if !slices.Equal(picture.Rows, rows) || !slices.Equal(runs, before) {
			t.Fatalf("a result shares memory with the argument %q or %v", rows, before)
		}
	}
}

// number returns a number that is often an X or a Y, and sometimes a very great or a very small one.
func (n *noise) number() int64 {
	if n.below(30) == 0 {
		return extremes[n.below(int64(len(extremes)))]
	}
	return n.below(7) - 1
}

func (n *noise) spot() impl.Spot { return impl.Spot{X: n.number(), Y: n.number()} }

func TestAnyArgumentsAreUsedTheSameWayTwiceInChapter8(t *testing.T) {
	source := noise(96)
	succeeded, failed := 0, 0
	for range 3000 {
		curve, order, a, b, n := source.below(5)-source.below(2), source.below(6)-source.below(2), source.spot(), source.spot(), source.number()
		list := []impl.Spot{a, b, {X: a.Y, Y: b.X}}
		runs := []int64{source.number(), source.number(), source.number(), n}
		picture := drawn("#.../.#../..##/####")
		calls := []func() []any{
			func() []any { return results(impl.IndexOf(curve, order, a.X, a.Y)) },
			func() []any { return results(impl.SpotAt(curve, order, n)) },
			func() []any { return results(impl.LongestJump(curve, order)) },
			func() []any { return results(impl.IsCurveBox(order, a, b)) },
			func() []any { return results(impl.IntervalsOf(curve, order, a, b)) },
			func() []any { return results(impl.NextInBox(curve, order, a, b, n)) },
			func() []any { return results(impl.IntervalsOfSize(curve, order, a.X, b.Y)) },
			func() []any { return results(impl.SortAlong(curve, order, list)) },
			func() []any { return results(impl.WayAlong(curve, order, list)) },
			func() []any { return results(impl.CloseAlong(curve, order, list, n)) },
			func() []any { return results(impl.PictureAlong(picture, curve)) },
			func() []any { return results(impl.PictureFromRuns(curve, order, runs)) },
		}
		for i, call := range calls {
			first, second := call(), call()
			if !reflect.DeepEqual(first, second) {
				t.Fatalf("the call %d with %d %d %v %d %v: got %v and %v", i, curve, order, list, n, runs, first, second)
			}
			if first[len(first)-1].(bool) {
				succeeded++
				continue
			}
			failed++
			expectFailure(t, fmt.Sprint("the call ", i, " with ", curve, order, list, n, runs), first)
		}
	}
	if succeeded < 3000 || failed < 3000 {
		t.Errorf("%d calls succeeded, %d failed", succeeded, failed)
	}
}
