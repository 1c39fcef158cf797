package tests

import (
	"fmt"
	"reflect"
	"slices"
	"testing"

	"loop.example/g01165/impl"
)

// The tests in this file are those of promise 1 for chapter 6: every function returns for all
// arguments, modifies none of them, and returns equal results, in new memory, for equal arguments.

// farCalls are the functions that need a valid picture, and no black pixel in it.
func farCalls(kind int64) []aCall {
	calls := []aCall{
		{"DepthsOf", func(p impl.Picture) []any { return results(impl.DepthsOf(p, kind)) }},
		{"DiscsOf", func(p impl.Picture) []any { return results(impl.DiscsOf(p, kind)) }},
		{"FewDiscs", func(p impl.Picture) []any { return results(impl.FewDiscs(p, kind)) }},
	}
	for _, by := range []int64{0, 1, 512} {
		calls = append(calls,
			aCall{fmt.Sprint("GrowBy ", by), func(p impl.Picture) []any { return results(impl.GrowBy(p, kind, by)) }},
			aCall{fmt.Sprint("ShrinkBy ", by), func(p impl.Picture) []any { return results(impl.ShrinkBy(p, kind, by)) }})
	}
	return named(calls, kind)
}

// blackCalls are the functions that need a valid picture with a black pixel.
func blackCalls(kind int64) []aCall {
	return named([]aCall{
		{"DistancesOf", func(p impl.Picture) []any { return results(impl.DistancesOf(p, kind)) }},
		{"NearestOf", func(p impl.Picture) []any { return results(impl.NearestOf(p, kind, impl.Spot{})) }},
		{"FarthestOf", func(p impl.Picture) []any { return farthest(p, kind) }},
		{"ApartBy itself", func(p impl.Picture) []any { return results(impl.ApartBy(p, p, kind)) }},
	}, kind)
}

func named(calls []aCall, kind int64) []aCall {
	for i := range calls {
		calls[i].name += fmt.Sprint(" of kind ", kind)
	}
	return calls
}

// allFarCalls are the functions of all kinds that need a valid picture.
func allFarCalls() []aCall {
	var calls []aCall
	for _, kind := range farKinds {
		calls = append(append(calls, farCalls(kind)...), blackCalls(kind)...)
	}
	return calls
}

// strangeKinds are numbers that no kind of distances has.
var strangeKinds = append([]int64{-1, 3, -2, 4, 256, 257, -256, 1 << 16}, farNumbers...)

// blackTexts are the texts of pictures with black pixels.
var blackTexts = []string{"#", "#..", "#/./.", ".#./###/.#.", "#.#/.../..#", "################"}

func TestNoPictureFailsInChapter6(t *testing.T) {
	for _, bad := range badPictures() {
		for _, call := range allFarCalls() {
			expectFailure(t, fmt.Sprintf("%s %q", call.name, bad.Rows), call.of(bad))
		}
		for _, kind := range farKinds {
			for _, good := range []impl.Picture{drawn("#"), drawn("##/##"), drawn("##"), drawn("#/#"), black(16, 16)} {
				what := fmt.Sprintf("ApartBy %d %q %q", kind, good.Rows, bad.Rows)
				expectFailure(t, what, results(impl.ApartBy(good, bad, kind)))
				expectFailure(t, what+" exchanged", results(impl.ApartBy(bad, good, kind)))
			}
			for _, s := range spots(0, 0, 1, 0, 0, 1, 15, 15) {
				expectFailure(t, fmt.Sprintf("NearestOf %q %d %v", bad.Rows, kind, s), results(impl.NearestOf(bad, kind, s)))
			}
		}
	}
}

func TestStrangeKindsFail(t *testing.T) {
	for _, kind := range strangeKinds {
		for _, p := range []impl.Picture{drawn("#"), drawn("."), drawn("#.#/.##"), black(16, 16), white(16, 16)} {
			for _, call := range append(farCalls(kind), blackCalls(kind)...) {
				expectFailure(t, fmt.Sprintf("%s %q", call.name, p.Rows), call.of(p))
			}
		}
		what := fmt.Sprint(" of kind ", kind)
		for _, s := range spots(0, 0, 3, 4, -1, -1, 16, 16) {
			expectFailure(t, "FarSpots"+what, results(impl.FarSpots(kind, s, s)))
			expectFailure(t, "FarSpots"+what, results(impl.FarSpots(kind, impl.Spot{}, s)))
		}
		expectFailure(t, "PictureOfDiscs"+what, results(impl.PictureOfDiscs(3, 2, kind, discs(0, 0, 1))))
		expectFailure(t, "PictureOfDiscs without discs"+what, results(impl.PictureOfDiscs(3, 2, kind, nil)))
		expectFailure(t, "RegionsOf"+what, results(impl.RegionsOf(3, 2, kind, spots(0, 0))))
		expectFailure(t, "RegionsOf one pixel"+what, results(impl.RegionsOf(1, 1, kind, spots(0, 0))))
	}
}

func TestFarSpotsOutsideFail(t *testing.T) {
	for _, kind := range farKinds {
		for _, n := range append([]int64{-2, -3, -17, 17, 18, 31, 32, 63, 64, 1<<32 - 1, 1<<32 + 16}, farNumbers...) {
			for _, s := range []impl.Spot{{X: n}, {Y: n}, {X: n, Y: n}, {X: n, Y: -1}, {X: 16, Y: n}, {X: n, Y: 16}, {X: -1, Y: n}} {
				for _, other := range append(spots(0, 0, -1, -1, 16, 16, 7, 9), s) {
					what := fmt.Sprint("FarSpots ", kind, s, other)
					expectFailure(t, what, results(impl.FarSpots(kind, s, other)))
					expectFailure(t, what+" exchanged", results(impl.FarSpots(kind, other, s)))
				}
			}
		}
	}
}

func TestPicturesWithoutBlackPixelsFail(t *testing.T) {
	for width := int64(1); width <= 16; width++ {
		for height := int64(1); height <= 16; height++ {
			blank, full := white(width, height), black(width, height)
			for _, kind := range farKinds {
				what := fmt.Sprint(" ", width, " by ", height, " of kind ", kind)
				for _, call := range blackCalls(kind) {
					expectFailure(t, call.name+what, call.of(blank))
				}
				for _, s := range spots(width-1, height-1, width/2, height/2) {
					expectFailure(t, "NearestOf"+what, results(impl.NearestOf(blank, kind, s)))
				}
				expectFailure(t, "ApartBy black and white"+what, results(impl.ApartBy(full, blank, kind)))
				expectFailure(t, "ApartBy white and black"+what, results(impl.ApartBy(blank, full, kind)))
				// The others do not need a black pixel.
				zeros := slices.Repeat([][]int64{make([]int64, width)}, int(height))
				expect(t, "DepthsOf"+what, results(impl.DepthsOf(blank, kind)), zeros, true)
				expect(t, "DiscsOf"+what, results(impl.DiscsOf(blank, kind)), []impl.Disc{}, true)
				expect(t, "FewDiscs"+what, results(impl.FewDiscs(blank, kind)), []impl.Disc{}, true)
				for _, by := range []int64{0, 1, 512} {
					expect(t, "GrowBy"+what, results(impl.GrowBy(blank, kind, by)), blank, true)
					expect(t, "ShrinkBy"+what, results(impl.ShrinkBy(blank, kind, by)), blank, true)
				}
				// Black pixels alone.
				expect(t, "DistancesOf black"+what, results(impl.DistancesOf(full, kind)), zeros, true)
				expect(t, "FarthestOf black"+what, farthest(full, kind), impl.Spot{}, 0, true)
				expect(t, "NearestOf black"+what, results(impl.NearestOf(full, kind, impl.Spot{X: width - 1, Y: height - 1})), impl.Spot{X: width - 1, Y: height - 1}, true)
				expect(t, "ApartBy black"+what, results(impl.ApartBy(full, full, kind)), 0, true)
				expect(t, "GrowBy black"+what, results(impl.GrowBy(full, kind, 512)), full, true)
			}
		}
	}
}

func TestSpotsOutsideFailInChapter6(t *testing.T) {
	for _, text := range blackTexts {
		p := drawn(text)
		width, height := widthOf(p), heightOf(p)
		for _, kind := range farKinds {
			outside := spots(width, 0, 0, height, width, height, -1, 0, 0, -1, -1, -1, width-1, height, width, height-1, -1, height-1, width-1, -1)
			for _, n := range append([]int64{31, 32, 63, 64, -31, -32, -63, -64, 256}, extremes...) {
				outside = append(outside, spots(n, 0, 0, n, n, n, n, -n, width-1, n, n, height-1)...)
			}
			for _, s := range outside {
				what := fmt.Sprint(" ", text, " ", kind, " ", s)
				expectFailure(t, "NearestOf"+what, results(impl.NearestOf(p, kind, s)))
				expectFailure(t, "RegionsOf"+what, results(impl.RegionsOf(width, height, kind, []impl.Spot{s})))
				expectFailure(t, "RegionsOf with others"+what, results(impl.RegionsOf(width, height, kind, []impl.Spot{{}, s, {}})))
				expectFailure(t, "RegionsOf at the end"+what, results(impl.RegionsOf(width, height, kind, []impl.Spot{{}, s})))
				disc := impl.Disc{X: s.X, Y: s.Y, Radius: 1}
				expectFailure(t, "PictureOfDiscs"+what, results(impl.PictureOfDiscs(width, height, kind, []impl.Disc{disc})))
				expectFailure(t, "PictureOfDiscs with others"+what, results(impl.PictureOfDiscs(width, height, kind, []impl.Disc{{Radius: 1}, disc, {Radius: 2}})))
				expectFailure(t, "PictureOfDiscs at the end"+what, results(impl.PictureOfDiscs(width, height, kind, []impl.Disc{{Radius: 1}, disc})))
			}
		}
	}
}

func TestReachesAndRadiiOutsideFail(t *testing.T) {
	far := append([]int64{-1, -2, -512, 513, 514, 1024, 1025}, 1<<32, -1<<32, 1<<32+1, 1<<62, leastInt, leastInt+1, greatestInt, greatestInt-1)
	for _, kind := range farKinds {
		for _, p := range []impl.Picture{drawn("#"), drawn("."), drawn("#.#/.##"), black(16, 16)} {
			for _, by := range far {
				what := fmt.Sprintf(" %q %d %d", p.Rows, kind, by)
				expectFailure(t, "GrowBy"+what, results(impl.GrowBy(p, kind, by)))
				expectFailure(t, "ShrinkBy"+what, results(impl.ShrinkBy(p, kind, by)))
			}
		}
		for _, radius := range append([]int64{0}, far...) {
			disc := impl.Disc{Radius: radius}
			for _, list := range [][]impl.Disc{{disc}, {{Radius: 1}, disc}, {disc, {Radius: 1}}} {
				expectFailure(t, fmt.Sprint("PictureOfDiscs ", kind, list), results(impl.PictureOfDiscs(3, 2, kind, list)))
				expectFailure(t, fmt.Sprint("PictureOfDiscs one pixel ", kind, list), results(impl.PictureOfDiscs(1, 1, kind, list)))
			}
		}
	}
}

func TestSidesOutsideFailInChapter6(t *testing.T) {
	for _, kind := range farKinds {
		for _, n := range append([]int64{0, -1}, farNumbers...) {
			for _, size := range [][2]int64{{n, 1}, {1, n}, {n, n}, {n, 16}, {16, n}} {
				what := fmt.Sprint(" ", kind, " ", size)
				expectFailure(t, "PictureOfDiscs"+what, results(impl.PictureOfDiscs(size[0], size[1], kind, nil)))
				expectFailure(t, "PictureOfDiscs one"+what, results(impl.PictureOfDiscs(size[0], size[1], kind, discs(0, 0, 1))))
				expectFailure(t, "RegionsOf"+what, results(impl.RegionsOf(size[0], size[1], kind, spots(0, 0))))
			}
		}
		for width := int64(1); width <= 16; width++ {
			for height := int64(1); height <= 16; height++ {
				what := fmt.Sprint(" ", kind, " ", width, " ", height)
				zeros := slices.Repeat([][]int64{make([]int64, width)}, int(height))
				expect(t, "PictureOfDiscs"+what, results(impl.PictureOfDiscs(width, height, kind, nil)), white(width, height), true)
				expect(t, "PictureOfDiscs one"+what, results(impl.PictureOfDiscs(width, height, kind, discs(width-1, height-1, 1))), onePixel(width, height, impl.Spot{X: width - 1, Y: height - 1}), true)
				expect(t, "RegionsOf"+what, results(impl.RegionsOf(width, height, kind, spots(width-1, height-1))), zeros, true)
			}
		}
	}
}

func TestTooFewAndTooManyFail(t *testing.T) {
	for _, kind := range farKinds {
		expectFailure(t, "RegionsOf no spots", results(impl.RegionsOf(3, 2, kind, nil)))
		expectFailure(t, "RegionsOf no spots", results(impl.RegionsOf(1, 1, kind, []impl.Spot{})))
		for _, count := range []int{65, 66, 128, 256, 257, 1 << 16, 1000000} {
			expectFailure(t, fmt.Sprint("RegionsOf ", count), results(impl.RegionsOf(16, 16, kind, make([]impl.Spot, count))))
			expectFailure(t, fmt.Sprint("RegionsOf one pixel ", count), results(impl.RegionsOf(1, 1, kind, make([]impl.Spot, count))))
		}
		for _, count := range []int{257, 258, 512, 1 << 16, 1000000} {
			expectFailure(t, fmt.Sprint("PictureOfDiscs ", count), results(impl.PictureOfDiscs(16, 16, kind, slices.Repeat(discs(1, 1, 1), count))))
			expectFailure(t, fmt.Sprint("PictureOfDiscs one pixel ", count), results(impl.PictureOfDiscs(1, 1, kind, slices.Repeat(discs(0, 0, 1), count))))
		}
		one := [][]int64{{0}}
		expect(t, "RegionsOf one pixel 64", results(impl.RegionsOf(1, 1, kind, make([]impl.Spot, 64))), one, true)
		expect(t, "PictureOfDiscs one pixel 256", results(impl.PictureOfDiscs(1, 1, kind, slices.Repeat(discs(0, 0, 512), 256))), drawn("#"), true)
	}
}

func TestPicturesOfDifferentSizesAreNotApart(t *testing.T) {
	texts := []string{"#", "##", "#/#", "##/##", "###/###", "##/##/##", "################"}
	for _, kind := range farKinds {
		for _, p := range texts {
			for _, q := range texts {
				got := results(impl.ApartBy(drawn(p), drawn(q), kind))
				if p == q {
					expect(t, "ApartBy "+p, got, 0, true)
				} else {
					expectFailure(t, "ApartBy "+p+" "+q, got)
				}
			}
		}
		expectFailure(t, "ApartBy turned", results(impl.ApartBy(black(16, 15), black(15, 16), kind)))
	}
}

func TestChapter6ModifiesNoArgument(t *testing.T) {
	pictures := append(fewPictures(), drawn(pixelInHole), nestedRings(16), singlePixels())
	for _, p := range append(pictures, badPictures()...) {
		for _, call := range allFarCalls() {
			checkUnmodified(t, call.name, p.Rows, "#", func(rows []string) { call.of(impl.Picture{Rows: rows}) })
		}
		for _, kind := range farKinds {
			for _, other := range []impl.Picture{drawn("#../##."), black(16, 16)} {
				checkUnmodified(t, "ApartBy first", p.Rows, "#", func(rows []string) { impl.ApartBy(impl.Picture{Rows: rows}, other, kind) })
				checkUnmodified(t, "ApartBy second", p.Rows, "#", func(rows []string) { impl.ApartBy(other, impl.Picture{Rows: rows}, kind) })
			}
		}
	}
	for _, kind := range farKinds {
		for _, list := range [][]impl.Disc{discs(2, 2, 3, 0, 0, 1, 1, 1, 2, 0, 0, 1), discs(4, 4, 1, 5, 5, 1), discs(1, 1, 1, 0, 0, 0), nil} {
			checkUnmodified(t, "PictureOfDiscs", list, impl.Disc{X: 1, Y: 2, Radius: 3}, func(list []impl.Disc) { impl.PictureOfDiscs(5, 5, kind, list) })
		}
		for _, list := range [][]impl.Spot{spots(2, 2, 0, 0, 1, 1, 0, 0), spots(4, 4, 3, 3, 5, 5), nil} {
			checkUnmodified(t, "RegionsOf", list, impl.Spot{X: 1, Y: 2}, func(list []impl.Spot) { impl.RegionsOf(5, 5, kind, list) })
		}
	}
}

// checkRowsShareNothing writes into one row of a result after the other, and behind it.
func checkRowsShareNothing(t *testing.T, what string, rows [][]int64) {
	t.Helper()
	want := make([][]int64, len(rows))
	for y := range rows {
		want[y] = slices.Clone(rows[y])
	}
	for y := range want {
		if !slices.Equal(rows[y], want[y]) {
			t.Fatalf("%s: the row %d shares memory with one before it", what, y)
		}
		spoil(rows[y])
	}
}

func TestChapter6ReturnsNewMemory(t *testing.T) {
	for _, p := range append(fewPictures(), drawn(pixelInHole), drawn("##.#"), black(7, 9), singlePixels()) {
		rows := slices.Clone(p.Rows)
		for _, call := range allFarCalls() {
			checkNewMemory(t, fmt.Sprintf("%s %q", call.name, p.Rows), func() []any { return call.of(p) })
			if !slices.Equal(p.Rows, rows) {
				t.Fatalf("the result of %s shares memory with its argument", call.name)
			}
		}
		for _, kind := range farKinds {
			distances, _ := impl.DistancesOf(p, kind)
			checkRowsShareNothing(t, fmt.Sprintf("DistancesOf %q %d", p.Rows, kind), distances)
			depths, _ := impl.DepthsOf(p, kind)
			checkRowsShareNothing(t, fmt.Sprintf("DepthsOf %q %d", p.Rows, kind), depths)
		}
	}
	discList, spotList := discs(2, 2, 3, 0, 0, 1, 1, 1, 2, 0, 0, 1), spots(2, 2, 0, 0, 1, 1, 0, 0)
	for _, kind := range farKinds {
		checkNewMemory(t, "PictureOfDiscs", func() []any { return results(impl.PictureOfDiscs(5, 4, kind, discList)) })
		checkNewMemory(t, "RegionsOf", func() []any { return results(impl.RegionsOf(5, 4, kind, spotList)) })
		regions, _ := impl.RegionsOf(16, 16, kind, spotList)
		checkRowsShareNothing(t, fmt.Sprint("RegionsOf ", kind), regions)
	}
	if !slices.Equal(discList, discs(2, 2, 3, 0, 0, 1, 1, 1, 2, 0, 0, 1)) || !slices.Equal(spotList, spots(2, 2, 0, 0, 1, 1, 0, 0)) {
		t.Error("a result of chapter 6 shares memory with an argument")
	}
}

func TestAnyPictureIsUsedTheSameWayTwiceInChapter6(t *testing.T) {
	source := noise(66)
	pictures := append(fewPictures(), drawn(pixelInHole), drawn(linkedHoles), black(16, 16), white(5, 6), onePixel(16, 16, impl.Spot{X: 3, Y: 9}))
	for range 500 {
		p := source.damaged(pictures[source.below(int64(len(pictures)))])
		valid := impl.ValidPicture(p)
		for _, call := range allFarCalls() {
			first, second := call.of(p), call.of(p)
			if !reflect.DeepEqual(first, second) {
				t.Fatalf("%s %q: got %v and %v", call.name, p.Rows, first, second)
			}
			if !valid {
				expectFailure(t, fmt.Sprintf("%s %q", call.name, p.Rows), first)
			}
		}
	}
}

func TestAnyNumbersAreUsedTheSameWayTwiceInChapter6(t *testing.T) {
	source := noise(67)
	number := func() int64 {
		if source.below(9) == 0 {
			return extremes[source.below(int64(len(extremes)))]
		}
		return source.below(20) - 2
	}
	spot := func() impl.Spot { return impl.Spot{X: number(), Y: number()} }
	for range 2000 {
		kind, width, height, a, b := source.below(5)-1, number(), number(), spot(), spot()
		discList := []impl.Disc{{X: a.X, Y: a.Y, Radius: number()}, {X: b.X, Y: b.Y, Radius: number()}}
		spotList := []impl.Spot{a, b}
		calls := []func() []any{
			func() []any { return results(impl.FarSpots(kind, a, b)) },
			func() []any { return results(impl.NearestOf(drawn("..#/#../..."), kind, a)) },
			func() []any { return results(impl.GrowBy(drawn("..#/#../..."), kind, a.X)) },
			func() []any { return results(impl.ShrinkBy(drawn("###/###/###"), kind, a.X)) },
			func() []any { return results(impl.PictureOfDiscs(width, height, kind, discList)) },
			func() []any { return results(impl.RegionsOf(width, height, kind, spotList)) },
		}
		for i, call := range calls {
			first, second := call(), call()
			if !reflect.DeepEqual(first, second) {
				t.Fatalf("the call %d with %d %d %d %v: got %v and %v", i, kind, width, height, discList, first, second)
			}
			if ok := first[len(first)-1].(bool); !ok {
				expectFailure(t, fmt.Sprint("the call ", i, kind, width, height, discList), first)
			}
		}
	}
}
