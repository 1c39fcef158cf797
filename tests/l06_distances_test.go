package tests

import (
	"fmt"
	"slices"
	"testing"

	"loop.example/g01165/impl"
)

// The tests in this file are those of promise 7: what the functions of chapter 6 return for valid arguments.

// farKinds are the kinds of distances, in the order in which tables have their results.
var farKinds = []int64{impl.FarCity, impl.FarChess, impl.FarSquare}

// discs returns the discs with the given X, Y and Radius, one after another.
func discs(numbers ...int64) []impl.Disc {
	var list []impl.Disc
	for i := 0; i < len(numbers); i += 3 {
		list = append(list, impl.Disc{X: numbers[i], Y: numbers[i+1], Radius: numbers[i+2]})
	}
	return list
}

// white returns the picture with a width and a height that is all white.
func white(width, height int64) impl.Picture {
	return painted(width, height, func(x, y int64) bool { return false })
}

// onePixel returns the picture with a width and a height and one black pixel.
func onePixel(width, height int64, at impl.Spot) impl.Picture {
	return painted(width, height, func(x, y int64) bool { return x == at.X && y == at.Y })
}

// distancePictures returns pictures with few and with many black pixels, and with none and all.
func distancePictures() []impl.Picture {
	list := append(append(samplePictures(), shapePictures()...), nestedRings(16), loosePixels(), singlePixels(), drawn(pixelInHole), drawn(linkedHoles))
	for _, s := range spots(0, 0, 15, 0, 0, 15, 15, 15, 7, 8, 3, 11) {
		opposite, _ := impl.InvertPicture(onePixel(16, 16, s))
		list = append(list, onePixel(16, 16, s), opposite)
	}
	source := noise(61)
	for range 25 {
		list = append(list, source.grainy(16, 16, 90, false), source.grainy(16, 15, 30, false), source.grainy(13, 16, 60, true), source.grainy(16, 16, 25, true), source.grainy(9, 7, 9, true))
	}
	return list
}

// allSpots returns the spots with X and Y from from to less than those of to, in reading order.
func allSpots(from, to impl.Spot) []impl.Spot {
	var list []impl.Spot
	for y := from.Y; y < to.Y; y++ {
		for x := from.X; x < to.X; x++ {
			list = append(list, impl.Spot{X: x, Y: y})
		}
	}
	return list
}

// pixelsOf returns all pixels of a picture in reading order.
func pixelsOf(p impl.Picture) []impl.Spot {
	return allSpots(impl.Spot{}, impl.Spot{X: widthOf(p), Y: heightOf(p)})
}

// blacksOf returns the black pixels in reading order.
func blacksOf(p impl.Picture) []impl.Spot {
	return slices.DeleteFunc(pixelsOf(p), func(s impl.Spot) bool { return !isBlack(p, s.X, s.Y) })
}

// whitesAround returns the white pixels, and the spots outside that are at most as far as a margin.
func whitesAround(p impl.Picture, margin int64) []impl.Spot {
	list := allSpots(impl.Spot{X: -margin, Y: -margin}, impl.Spot{X: widthOf(p) + margin, Y: heightOf(p) + margin})
	return slices.DeleteFunc(list, func(s impl.Spot) bool { return isBlack(p, s.X, s.Y) })
}

// farAsDefined returns the distance of two spots.
func farAsDefined(kind int64, a, b impl.Spot) int64 {
	x, y := max(a.X-b.X, b.X-a.X), max(a.Y-b.Y, b.Y-a.Y)
	return []int64{x + y, max(x, y), x*x + y*y}[kind]
}

// nearestAsDefined returns the index of the first one of the nearest spots, of which there must be one.
func nearestAsDefined(kind int64, from impl.Spot, list []impl.Spot) int64 {
	best := 0
	for i, s := range list {
		if farAsDefined(kind, from, s) < farAsDefined(kind, from, list[best]) {
			best = i
		}
	}
	return int64(best)
}

// leastAsDefined returns the least distance from a spot to one of a list.
func leastAsDefined(kind int64, from impl.Spot, list []impl.Spot) int64 {
	return farAsDefined(kind, from, list[nearestAsDefined(kind, from, list)])
}

// eachPixel returns for each pixel of a picture, row by row, what a rule says.
func eachPixel(p impl.Picture, rule func(s impl.Spot) int64) [][]int64 {
	rows := make([][]int64, heightOf(p))
	for _, s := range pixelsOf(p) {
		rows[s.Y] = append(rows[s.Y], rule(s))
	}
	return rows
}

// distancesAsDefined returns the distances to the spots of a list.
func distancesAsDefined(p impl.Picture, kind int64, list []impl.Spot) [][]int64 {
	return eachPixel(p, func(s impl.Spot) int64 { return leastAsDefined(kind, s, list) })
}

// farthest collects the results of FarthestOf.
func farthest(p impl.Picture, kind int64) []any {
	at, far, ok := impl.FarthestOf(p, kind)
	return results(at, far, ok)
}

func TestChapter6Examples(t *testing.T) {
	expect(t, "DistancesOf for FarCity", results(impl.DistancesOf(drawn("#.."), impl.FarCity)), numbered("012"), true)
	expect(t, "DistancesOf for FarSquare", results(impl.DistancesOf(drawn("#.."), impl.FarSquare)), numbered("014"), true)
	expect(t, "DiscsOf for FarChess", results(impl.DiscsOf(drawn("###/###/###"), impl.FarChess)), discs(1, 1, 2), true)
	expect(t, "kinds", results(int64(impl.FarCity), int64(impl.FarChess), int64(impl.FarSquare)), 0, 1, 2)
}

func TestFarSpotsByHand(t *testing.T) {
	tests := []struct {
		a, b impl.Spot
		far  [3]int
	}{
		{impl.Spot{}, impl.Spot{}, [3]int{0, 0, 0}},
		{impl.Spot{X: -1, Y: -1}, impl.Spot{X: -1, Y: -1}, [3]int{0, 0, 0}},
		{impl.Spot{X: 16, Y: 16}, impl.Spot{X: 16, Y: 16}, [3]int{0, 0, 0}},
		{impl.Spot{}, impl.Spot{X: 1}, [3]int{1, 1, 1}},
		{impl.Spot{}, impl.Spot{Y: 1}, [3]int{1, 1, 1}},
		{impl.Spot{X: 1}, impl.Spot{Y: 1}, [3]int{2, 1, 2}},
		{impl.Spot{X: 2, Y: 3}, impl.Spot{X: 5, Y: 7}, [3]int{7, 4, 25}},
		{impl.Spot{X: 2, Y: 7}, impl.Spot{X: 5, Y: 3}, [3]int{7, 4, 25}},
		{impl.Spot{X: 9, Y: 1}, impl.Spot{X: 4, Y: 3}, [3]int{7, 5, 29}},
		{impl.Spot{X: -1, Y: 0}, impl.Spot{X: 2, Y: 4}, [3]int{7, 4, 25}},
		{impl.Spot{X: -1, Y: -1}, impl.Spot{X: 16, Y: 16}, [3]int{34, 17, 578}},
		{impl.Spot{X: -1, Y: 16}, impl.Spot{X: 16, Y: -1}, [3]int{34, 17, 578}},
		{impl.Spot{X: -1, Y: 16}, impl.Spot{X: -1, Y: -1}, [3]int{17, 17, 289}},
	}
	for _, test := range tests {
		for _, kind := range farKinds {
			what := fmt.Sprint("FarSpots ", kind, test.a, test.b)
			expect(t, what, results(impl.FarSpots(kind, test.a, test.b)), test.far[kind], true)
			expect(t, what+" exchanged", results(impl.FarSpots(kind, test.b, test.a)), test.far[kind], true)
		}
	}
}

func TestFarSpotsAsDefined(t *testing.T) {
	list := allSpots(impl.Spot{X: -1, Y: -1}, impl.Spot{X: 17, Y: 17})
	for _, kind := range farKinds {
		for _, a := range list {
			for _, b := range list {
				if far, ok := impl.FarSpots(kind, a, b); !ok || far != farAsDefined(kind, a, b) {
					t.Fatalf("FarSpots %d %v %v: got %d, %v", kind, a, b, far, ok)
				}
			}
		}
	}
}

func TestDistancesByHand(t *testing.T) {
	tests := []struct {
		text, city, chess, square string
	}{
		{"#", "0", "0", "0"},
		{"####", "0000", "0000", "0000"},
		{"##/##", "00/00", "00/00", "00/00"},
		// One row and one column, from both ends.
		{"#...", "0123", "0123", "0149"},
		{"...#", "3210", "3210", "9410"},
		{"#/././.", "0/1/2/3", "0/1/2/3", "0/1/4/9"},
		{"./././#", "3/2/1/0", "3/2/1/0", "9/4/1/0"},
		// Two black pixels, with an odd and an even number of white ones between them.
		{"#...#", "01210", "01210", "01410"},
		{"#..#", "0110", "0110", "0110"},
		{".#....#", "1012210", "1012210", "1014410"},
		// One black pixel, in the corners and in the middle.
		{"#../.../...", "012/123/234", "012/112/222", "014/125/458"},
		{"..#/.../...", "210/321/432", "210/211/222", "410/521/854"},
		{".../.../#..", "234/123/012", "222/112/012", "458/125/014"},
		{".../.../..#", "432/321/210", "222/211/210", "854/521/410"},
		{".../.#./...", "212/101/212", "111/101/111", "212/101/212"},
		// Two in opposite corners.
		{"..#/.../#..", "210/121/012", "210/111/012", "410/121/014"},
		{"#../.../..#", "012/121/210", "012/111/210", "014/121/410"},
	}
	for _, test := range tests {
		for kind, want := range []string{test.city, test.chess, test.square} {
			expect(t, fmt.Sprint("DistancesOf ", test.text, kind), results(impl.DistancesOf(drawn(test.text), int64(kind))), numbered(want), true)
		}
	}
}

func TestDistancesAsDefined(t *testing.T) {
	for _, p := range distancePictures() {
		blacks := blacksOf(p)
		for _, kind := range farKinds {
			what := fmt.Sprintf("DistancesOf %q %d", p.Rows, kind)
			got := results(impl.DistancesOf(p, kind))
			if len(blacks) == 0 {
				expectFailure(t, what, got)
			} else {
				expect(t, what, got, distancesAsDefined(p, kind, blacks), true)
			}
		}
	}
}

func TestNearestByHand(t *testing.T) {
	tests := []struct {
		text    string
		from    impl.Spot
		nearest [3]impl.Spot
	}{
		{"#", impl.Spot{}, [3]impl.Spot{{}, {}, {}}},
		{"#..", impl.Spot{X: 2}, [3]impl.Spot{{}, {}, {}}},
		{"..#", impl.Spot{}, [3]impl.Spot{{X: 2}, {X: 2}, {X: 2}}},
		{"#../.../..#", impl.Spot{X: 2, Y: 1}, [3]impl.Spot{{X: 2, Y: 2}, {X: 2, Y: 2}, {X: 2, Y: 2}}},
		// A black pixel is the nearest one of itself, wherever it lies.
		{"####", impl.Spot{X: 2}, [3]impl.Spot{{X: 2}, {X: 2}, {X: 2}}},
		{"###/###/###", impl.Spot{X: 1, Y: 1}, [3]impl.Spot{{X: 1, Y: 1}, {X: 1, Y: 1}, {X: 1, Y: 1}}},
		{"###/###/###", impl.Spot{X: 2, Y: 2}, [3]impl.Spot{{X: 2, Y: 2}, {X: 2, Y: 2}, {X: 2, Y: 2}}},
		// Equal distances in one row, in one column, on all sides, and in all corners.
		{"#.#", impl.Spot{X: 1}, [3]impl.Spot{{}, {}, {}}},
		{"#/./#", impl.Spot{Y: 1}, [3]impl.Spot{{}, {}, {}}},
		{".#./#.#/.#.", impl.Spot{X: 1, Y: 1}, [3]impl.Spot{{X: 1}, {X: 1}, {X: 1}}},
		{"#.#/.../#.#", impl.Spot{X: 1, Y: 1}, [3]impl.Spot{{}, {}, {}}},
		{".../#.#/.#.", impl.Spot{X: 1, Y: 1}, [3]impl.Spot{{Y: 1}, {Y: 1}, {Y: 1}}},
		// The first one in reading order has the least Y, and not the least X.
		{"..#/.../#..", impl.Spot{X: 1, Y: 1}, [3]impl.Spot{{X: 2}, {X: 2}, {X: 2}}},
		{"..#/#..", impl.Spot{X: 1}, [3]impl.Spot{{X: 2}, {X: 2}, {X: 2}}},
		// A corner is as near as a side for FarChess alone.
		{"#../#.#/...", impl.Spot{X: 1, Y: 1}, [3]impl.Spot{{Y: 1}, {}, {Y: 1}}},
		// The nearest one depends on the kind.
		{"......#/......./.....#./......./....#..", impl.Spot{}, [3]impl.Spot{{X: 6}, {X: 4, Y: 4}, {X: 5, Y: 2}}},
		{"...#/..../..#.", impl.Spot{}, [3]impl.Spot{{X: 3}, {X: 2, Y: 2}, {X: 2, Y: 2}}},
		{"....#/...../...../...#.", impl.Spot{}, [3]impl.Spot{{X: 4}, {X: 3, Y: 3}, {X: 4}}},
		{"......#/......./......./......./...#.../....#..", impl.Spot{}, [3]impl.Spot{{X: 6}, {X: 3, Y: 4}, {X: 3, Y: 4}}},
		{".....#./......./......./......./...#...", impl.Spot{}, [3]impl.Spot{{X: 5}, {X: 3, Y: 4}, {X: 5}}},
	}
	for _, test := range tests {
		for _, kind := range farKinds {
			expect(t, fmt.Sprint("NearestOf ", test.text, kind, test.from), results(impl.NearestOf(drawn(test.text), kind, test.from)), test.nearest[kind], true)
		}
	}
}

func TestNoBlackPixelIsNearerThanTheToldOne(t *testing.T) {
	ties := 0
	for _, p := range distancePictures() {
		blacks := blacksOf(p)
		if len(blacks) == 0 {
			continue
		}
		for _, kind := range farKinds {
			rows, _ := impl.DistancesOf(p, kind)
			for _, s := range pixelsOf(p) {
				nearest, ok := impl.NearestOf(p, kind, s)
				want := blacks[nearestAsDefined(kind, s, blacks)]
				if !ok || nearest != want {
					t.Fatalf("NearestOf %q %d %v: got %v, %v, want %v", p.Rows, kind, s, nearest, ok, want)
				}
				if far, _ := impl.FarSpots(kind, s, nearest); far != rows[s.Y][s.X] {
					t.Fatalf("DistancesOf %q %d: %d at %v, from where %v is as far as %d", p.Rows, kind, rows[s.Y][s.X], s, nearest, far)
				}
				if slices.ContainsFunc(blacks, func(b impl.Spot) bool { return b != want && farAsDefined(kind, s, b) == farAsDefined(kind, s, want) }) {
					ties++
				}
			}
		}
	}
	if ties < 1000 {
		t.Errorf("only %d pixels have several nearest ones", ties)
	}
}

func TestFarthestByHand(t *testing.T) {
	tests := []struct {
		text string
		at   [3]impl.Spot
		far  [3]int
	}{
		{"#", [3]impl.Spot{{}, {}, {}}, [3]int{0, 0, 0}},
		{"###/###", [3]impl.Spot{{}, {}, {}}, [3]int{0, 0, 0}},
		{"#..", [3]impl.Spot{{X: 2}, {X: 2}, {X: 2}}, [3]int{2, 2, 4}},
		{"..#", [3]impl.Spot{{}, {}, {}}, [3]int{2, 2, 4}},
		{"#/././.", [3]impl.Spot{{Y: 3}, {Y: 3}, {Y: 3}}, [3]int{3, 3, 9}},
		{"#...#", [3]impl.Spot{{X: 2}, {X: 2}, {X: 2}}, [3]int{2, 2, 4}},
		// Several farthest ones, in one row, in one column, and in different ones.
		{"#..#", [3]impl.Spot{{X: 1}, {X: 1}, {X: 1}}, [3]int{1, 1, 1}},
		{"..#..", [3]impl.Spot{{}, {}, {}}, [3]int{2, 2, 4}},
		{"././#/./.", [3]impl.Spot{{}, {}, {}}, [3]int{2, 2, 4}},
		{".../.#./...", [3]impl.Spot{{}, {}, {}}, [3]int{2, 1, 2}},
		{"#.#/.#.", [3]impl.Spot{{X: 1}, {X: 1}, {X: 1}}, [3]int{1, 1, 1}},
		// It depends on the kind which ones they are.
		{"#./..", [3]impl.Spot{{X: 1, Y: 1}, {X: 1}, {X: 1, Y: 1}}, [3]int{2, 1, 2}},
		{"#../.../...", [3]impl.Spot{{X: 2, Y: 2}, {X: 2}, {X: 2, Y: 2}}, [3]int{4, 2, 8}},
		// The first one in reading order has the least Y, and not the least X.
		{"#../.##/.##", [3]impl.Spot{{X: 1}, {X: 1}, {X: 1}}, [3]int{1, 1, 1}},
		{"##./###/.##", [3]impl.Spot{{X: 2}, {X: 2}, {X: 2}}, [3]int{1, 1, 1}},
	}
	for _, test := range tests {
		for _, kind := range farKinds {
			expect(t, fmt.Sprint("FarthestOf ", test.text, kind), farthest(drawn(test.text), kind), test.at[kind], test.far[kind], true)
		}
	}
}

func TestFarthestAsDefined(t *testing.T) {
	for _, p := range distancePictures() {
		blacks := blacksOf(p)
		for _, kind := range farKinds {
			what := fmt.Sprintf("FarthestOf %q %d", p.Rows, kind)
			if len(blacks) == 0 {
				expectFailure(t, what, farthest(p, kind))
				continue
			}
			best := impl.Spot{}
			for _, s := range pixelsOf(p) {
				if leastAsDefined(kind, s, blacks) > leastAsDefined(kind, best, blacks) {
					best = s
				}
			}
			expect(t, what, farthest(p, kind), best, leastAsDefined(kind, best, blacks), true)
		}
	}
}

func TestFarthestOfOneCorner(t *testing.T) {
	tests := []struct {
		black    impl.Spot
		farthest [3]impl.Spot
	}{
		{impl.Spot{}, [3]impl.Spot{{X: 15, Y: 15}, {X: 15}, {X: 15, Y: 15}}},
		{impl.Spot{X: 15}, [3]impl.Spot{{Y: 15}, {}, {Y: 15}}},
		{impl.Spot{Y: 15}, [3]impl.Spot{{X: 15}, {}, {X: 15}}},
		{impl.Spot{X: 15, Y: 15}, [3]impl.Spot{{}, {}, {}}},
	}
	for _, test := range tests {
		for i, far := range []int{30, 15, 450} {
			expect(t, fmt.Sprint("FarthestOf ", test.black, i), farthest(onePixel(16, 16, test.black), int64(i)), test.farthest[i], far, true)
		}
	}
}

func TestDepthsByHand(t *testing.T) {
	tests := []struct {
		text, city, chess, square string
	}{
		{".", "0", "0", "0"},
		{"..../....", "0000/0000", "0000/0000", "0000/0000"},
		{"#", "1", "1", "1"},
		{"####", "1111", "1111", "1111"},
		{"#/#/#", "1/1/1", "1/1/1", "1/1/1"},
		{"#.#", "101", "101", "101"},
		{"##/##", "11/11", "11/11", "11/11"},
		// What is in a corner or at a side is next to the outside.
		{"###/###/###", "111/121/111", "111/121/111", "111/141/111"},
		{"####/####/####", "1111/1221/1111", "1111/1221/1111", "1111/1441/1111"},
		{"#####/#####/#####/#####/#####", "11111/12221/12321/12221/11111", "11111/12221/12321/12221/11111", "11111/14441/14941/14441/11111"},
		// A white pixel in the middle, which is nearer than the outside.
		{"###/#.#/###", "111/101/111", "111/101/111", "111/101/111"},
		{"#####/#####/##.##/#####/#####", "11111/12121/11011/12121/11111", "11111/11111/11011/11111/11111", "11111/12121/11011/12121/11111"},
		// White corners, one after the other.
		{".##/###/###", "011/121/111", "011/111/111", "011/121/111"},
		{"##./###/###", "110/121/111", "110/111/111", "110/121/111"},
		{"###/###/.##", "111/121/011", "111/111/011", "111/121/011"},
		{"###/###/##.", "111/121/110", "111/111/110", "111/121/110"},
	}
	for _, test := range tests {
		for kind, want := range []string{test.city, test.chess, test.square} {
			expect(t, fmt.Sprint("DepthsOf ", test.text, kind), results(impl.DepthsOf(drawn(test.text), int64(kind))), numbered(want), true)
		}
	}
}

func TestDepthsAsDefined(t *testing.T) {
	for _, p := range distancePictures() {
		whites := whitesAround(p, 2)
		for _, kind := range farKinds {
			expect(t, fmt.Sprintf("DepthsOf %q %d", p.Rows, kind), results(impl.DepthsOf(p, kind)), distancesAsDefined(p, kind, whites), true)
		}
	}
	// Spots that are farther outside are never nearer.
	for _, p := range append(fewPictures(), black(16, 16), black(16, 3), black(1, 16)) {
		whites := whitesAround(p, 20)
		for _, kind := range farKinds {
			expect(t, fmt.Sprintf("DepthsOf %q %d", p.Rows, kind), results(impl.DepthsOf(p, kind)), distancesAsDefined(p, kind, whites), true)
		}
	}
}

func TestDepthsOfBlackPictures(t *testing.T) {
	for width := int64(1); width <= 16; width++ {
		for height := int64(1); height <= 16; height++ {
			p := black(width, height)
			side := eachPixel(p, func(s impl.Spot) int64 { return min(s.X+1, s.Y+1, width-s.X, height-s.Y) })
			square := eachPixel(p, func(s impl.Spot) int64 { return side[s.Y][s.X] * side[s.Y][s.X] })
			expect(t, "DepthsOf for FarCity", results(impl.DepthsOf(p, impl.FarCity)), side, true)
			expect(t, "DepthsOf for FarChess", results(impl.DepthsOf(p, impl.FarChess)), side, true)
			expect(t, "DepthsOf for FarSquare", results(impl.DepthsOf(p, impl.FarSquare)), square, true)
		}
	}
}

func TestDiscsByHand(t *testing.T) {
	tests := []struct {
		text                string
		city, chess, square []impl.Disc
	}{
		{".", nil, nil, nil},
		{"..../....", nil, nil, nil},
		{"#", discs(0, 0, 1), discs(0, 0, 1), discs(0, 0, 1)},
		// None of them has all pixels of another one.
		{"###", discs(0, 0, 1, 1, 0, 1, 2, 0, 1), discs(0, 0, 1, 1, 0, 1, 2, 0, 1), discs(0, 0, 1, 1, 0, 1, 2, 0, 1)},
		{"#/./#", discs(0, 0, 1, 0, 2, 1), discs(0, 0, 1, 0, 2, 1), discs(0, 0, 1, 0, 2, 1)},
		{".#/##", discs(1, 0, 1, 0, 1, 1, 1, 1, 1), discs(1, 0, 1, 0, 1, 1, 1, 1, 1), discs(1, 0, 1, 0, 1, 1, 1, 1, 1)},
		// The one in the middle has all pixels of the others, or of those at the sides.
		{"###/###/###", discs(0, 0, 1, 2, 0, 1, 1, 1, 2, 0, 2, 1, 2, 2, 1), discs(1, 1, 2), discs(1, 1, 4)},
		{".#./###/.#.", discs(1, 1, 2), discs(1, 0, 1, 0, 1, 1, 1, 1, 1, 2, 1, 1, 1, 2, 1), discs(1, 1, 2)},
		{"#####/#####/#####", discs(0, 0, 1, 4, 0, 1, 1, 1, 2, 2, 1, 2, 3, 1, 2, 0, 2, 1, 4, 2, 1), discs(1, 1, 2, 2, 1, 2, 3, 1, 2), discs(1, 1, 4, 2, 1, 4, 3, 1, 4)},
		{"#####/#####/#####/#####/#####", discs(0, 0, 1, 4, 0, 1, 1, 1, 2, 3, 1, 2, 2, 2, 3, 1, 3, 2, 3, 3, 2, 0, 4, 1, 4, 4, 1), discs(2, 2, 3), discs(2, 2, 9)},
		// A greater disc before one that it contains, and behind it.
		{"###.#/###../###..", discs(0, 0, 1, 2, 0, 1, 4, 0, 1, 1, 1, 2, 0, 2, 1, 2, 2, 1), discs(4, 0, 1, 1, 1, 2), discs(4, 0, 1, 1, 1, 4)},
		{"#.###/..###/..###", discs(0, 0, 1, 2, 0, 1, 4, 0, 1, 3, 1, 2, 2, 2, 1, 4, 2, 1), discs(0, 0, 1, 3, 1, 2), discs(0, 0, 1, 3, 1, 4)},
	}
	for _, test := range tests {
		for kind, want := range [][]impl.Disc{test.city, test.chess, test.square} {
			expect(t, fmt.Sprint("DiscsOf ", test.text, kind), results(impl.DiscsOf(drawn(test.text), int64(kind))), want, true)
		}
	}
}

// spotSet has a bit for each spot with X and Y from -4 to 19, which are more than a disc of a picture has.
type spotSet [24]uint32

func spotsOfDisc(kind int64, d impl.Disc) spotSet {
	var set spotSet
	for y := range set {
		for x := range len(set) {
			if farAsDefined(kind, impl.Spot{X: int64(x - 4), Y: int64(y - 4)}, impl.Spot{X: d.X, Y: d.Y}) < d.Radius {
				set[y] |= 1 << x
			}
		}
	}
	return set
}

func (s spotSet) with(other spotSet) spotSet {
	for i := range s {
		s[i] |= other[i]
	}
	return s
}

// discsAsDefined returns DiscsOf, and the spots of each of them.
func discsAsDefined(p impl.Picture, kind int64) ([]impl.Disc, []spotSet) {
	whites := whitesAround(p, 1)
	var all []impl.Disc
	var sets []spotSet
	for _, s := range blacksOf(p) {
		d := impl.Disc{X: s.X, Y: s.Y, Radius: leastAsDefined(kind, s, whites)}
		all, sets = append(all, d), append(sets, spotsOfDisc(kind, d))
	}
	var list []impl.Disc
	var left []spotSet
	for i, d := range all {
		stays := true
		for j, other := range sets {
			more := sets[i] != other && sets[i].with(other) == other
			if i != j && (more || sets[i] == other && j < i) {
				stays = false
			}
		}
		if stays {
			list, left = append(list, d), append(left, sets[i])
		}
	}
	return list, left
}

// fewAsDefined returns the discs that are left if each one in turn is left out that the others cover.
func fewAsDefined(list []impl.Disc, sets []spotSet) []impl.Disc {
	out := make([]bool, len(list))
	var few []impl.Disc
	for i, d := range list {
		var others spotSet
		for j, set := range sets {
			if j != i && !out[j] {
				others = others.with(set)
			}
		}
		out[i] = others.with(sets[i]) == others
		if !out[i] {
			few = append(few, d)
		}
	}
	return few
}

func TestDiscsAsDefined(t *testing.T) {
	fewer, contained := 0, 0
	for _, p := range distancePictures() {
		for _, kind := range farKinds {
			what := fmt.Sprintf(" %q %d", p.Rows, kind)
			list, sets := discsAsDefined(p, kind)
			few := fewAsDefined(list, sets)
			expect(t, "DiscsOf"+what, results(impl.DiscsOf(p, kind)), list, true)
			expect(t, "FewDiscs"+what, results(impl.FewDiscs(p, kind)), few, true)
			if len(list) < len(blacksOf(p)) {
				contained++
			}
			if len(few) < len(list) {
				fewer++
			}
		}
	}
	if contained < 100 || fewer < 100 {
		t.Errorf("only %d pictures have discs in other ones, and %d have fewer discs", contained, fewer)
	}
}

func TestNoTwoDiscsHaveTheSamePixels(t *testing.T) {
	for _, p := range distancePictures() {
		for _, kind := range farKinds {
			list, _ := impl.DiscsOf(p, kind)
			found := map[spotSet]impl.Disc{}
			for _, d := range list {
				set := spotsOfDisc(kind, d)
				if other, ok := found[set]; ok {
					t.Errorf("DiscsOf %q %d: %v and %v have the same pixels", p.Rows, kind, other, d)
				}
				found[set] = d
			}
		}
	}
}

func TestDiscsPaintThePictureAgain(t *testing.T) {
	for _, p := range distancePictures() {
		for _, kind := range farKinds {
			what := fmt.Sprintf("PictureOfDiscs %q %d", p.Rows, kind)
			list, _ := impl.DiscsOf(p, kind)
			few, _ := impl.FewDiscs(p, kind)
			expect(t, what, results(impl.PictureOfDiscs(widthOf(p), heightOf(p), kind, list)), p, true)
			expect(t, what+" few", results(impl.PictureOfDiscs(widthOf(p), heightOf(p), kind, few)), p, true)
			for i := range few {
				less, _ := impl.PictureOfDiscs(widthOf(p), heightOf(p), kind, slices.Delete(slices.Clone(few), i, i+1))
				if same(less, p) {
					t.Errorf("FewDiscs %q %d: %v is not needed", p.Rows, kind, few[i])
				}
			}
		}
	}
}

func TestFewDiscsByHand(t *testing.T) {
	tests := []struct {
		text                string
		city, chess, square []impl.Disc
	}{
		{"...", nil, nil, nil},
		{"#", discs(0, 0, 1), discs(0, 0, 1), discs(0, 0, 1)},
		{"##.#", discs(0, 0, 1, 1, 0, 1, 3, 0, 1), discs(0, 0, 1, 1, 0, 1, 3, 0, 1), discs(0, 0, 1, 1, 0, 1, 3, 0, 1)},
		// The second one of three is left out, because the first one has stayed.
		{"#####/#####/#####", discs(0, 0, 1, 4, 0, 1, 1, 1, 2, 2, 1, 2, 3, 1, 2, 0, 2, 1, 4, 2, 1), discs(1, 1, 2, 3, 1, 2), discs(1, 1, 4, 3, 1, 4)},
		// The second and the third one of four are left out.
		{"######/######/######", discs(0, 0, 1, 5, 0, 1, 1, 1, 2, 2, 1, 2, 3, 1, 2, 4, 1, 2, 0, 2, 1, 5, 2, 1), discs(1, 1, 2, 4, 1, 2), discs(1, 1, 4, 4, 1, 4)},
		// The fourth one of five stays, because the second and the third one have been left out; from the end on, the second one would.
		{"#######/#######/#######", discs(0, 0, 1, 6, 0, 1, 1, 1, 2, 2, 1, 2, 3, 1, 2, 4, 1, 2, 5, 1, 2, 0, 2, 1, 6, 2, 1), discs(1, 1, 2, 4, 1, 2, 5, 1, 2), discs(1, 1, 4, 4, 1, 4, 5, 1, 4)},
		{"###/###/###/###/###/###/###", discs(0, 0, 1, 2, 0, 1, 1, 1, 2, 1, 2, 2, 1, 3, 2, 1, 4, 2, 1, 5, 2, 0, 6, 1, 2, 6, 1), discs(1, 1, 2, 1, 4, 2, 1, 5, 2), discs(1, 1, 4, 1, 4, 4, 1, 5, 4)},
		// Only all others together have the pixels of the one that is left out.
		{"####/####/####/####", discs(0, 0, 1, 3, 0, 1, 1, 1, 2, 2, 1, 2, 1, 2, 2, 2, 2, 2, 0, 3, 1, 3, 3, 1), discs(1, 1, 2, 2, 1, 2, 1, 2, 2, 2, 2, 2), discs(1, 1, 4, 2, 1, 4, 1, 2, 4, 2, 2, 4)},
	}
	for _, test := range tests {
		for kind, want := range [][]impl.Disc{test.city, test.chess, test.square} {
			expect(t, fmt.Sprint("FewDiscs ", test.text, kind), results(impl.FewDiscs(drawn(test.text), int64(kind))), want, true)
		}
	}
}

func TestPictureOfDiscsByHand(t *testing.T) {
	tests := []struct {
		discs               []impl.Disc
		city, chess, square string
	}{
		{nil, "...../...../...../...../.....", "...../...../...../...../.....", "...../...../...../...../....."},
		// Only what is nearer than the radius.
		{discs(2, 2, 1), "...../...../..#../...../.....", "...../...../..#../...../.....", "...../...../..#../...../....."},
		{discs(2, 2, 2), "...../..#../.###./..#../.....", "...../.###./.###./.###./.....", "...../..#../.###./..#../....."},
		{discs(2, 2, 3), "..#../.###./#####/.###./..#..", "#####/#####/#####/#####/#####", "...../.###./.###./.###./....."},
		{discs(2, 2, 4), ".###./#####/#####/#####/.###.", "#####/#####/#####/#####/#####", "...../.###./.###./.###./....."},
		{discs(2, 2, 5), "#####/#####/#####/#####/#####", "#####/#####/#####/#####/#####", "..#../.###./#####/.###./..#.."},
		{discs(2, 2, 6), "#####/#####/#####/#####/#####", "#####/#####/#####/#####/#####", ".###./#####/#####/#####/.###."},
		// Over the edge, at all sides and corners.
		{discs(0, 0, 2), "##.../#..../...../...../.....", "##.../##.../...../...../.....", "##.../#..../...../...../....."},
		{discs(4, 4, 2), "...../...../...../....#/...##", "...../...../...../...##/...##", "...../...../...../....#/...##"},
		{discs(4, 1, 3), "...##/..###/...##/....#/.....", "..###/..###/..###/..###/.....", "...##/...##/...##/...../....."},
		{discs(1, 4, 3), "...../...../.#.../###../####.", "...../...../####./####./####.", "...../...../...../###../###.."},
		// Several that overlap, or have the same pixels, in any order.
		{discs(0, 0, 1, 4, 4, 1), "#..../...../...../...../....#", "#..../...../...../...../....#", "#..../...../...../...../....#"},
		{discs(4, 4, 1, 0, 0, 1, 4, 4, 1), "#..../...../...../...../....#", "#..../...../...../...../....#", "#..../...../...../...../....#"},
		{discs(3, 2, 2, 1, 2, 2), "...../.#.#./#####/.#.#./.....", "...../#####/#####/#####/.....", "...../.#.#./#####/.#.#./....."},
		{discs(2, 2, 3, 2, 2, 1, 2, 2, 2), "..#../.###./#####/.###./..#..", "#####/#####/#####/#####/#####", "...../.###./.###./.###./....."},
	}
	for _, test := range tests {
		for kind, want := range []string{test.city, test.chess, test.square} {
			expect(t, fmt.Sprint("PictureOfDiscs ", test.discs, kind), results(impl.PictureOfDiscs(5, 5, int64(kind), test.discs)), drawn(want), true)
		}
	}
	// For squares, no distance is 3, so that radii of 3 and 4 have the same pixels.
	both := discs(2, 2, 3, 2, 2, 4)
	expect(t, "PictureOfDiscs with the same pixels", results(impl.PictureOfDiscs(5, 5, impl.FarSquare, both)), drawn("...../.###./.###./.###./....."), true)
}

func TestPictureOfLargestDiscs(t *testing.T) {
	// The greatest distance in a picture with MaxSide, and the first radius that reaches it.
	for kind, far := range []int64{30, 15, 450} {
		for _, s := range spots(0, 0, 15, 0, 0, 15, 15, 15) {
			at := func(radius int64) []any {
				return results(impl.PictureOfDiscs(16, 16, int64(kind), discs(s.X, s.Y, radius)))
			}
			opposite := impl.Spot{X: 15 - s.X, Y: 15 - s.Y}
			less := painted(16, 16, func(x, y int64) bool { return farAsDefined(int64(kind), s, impl.Spot{X: x, Y: y}) < far })
			if isBlack(less, opposite.X, opposite.Y) {
				t.Fatalf("%v is nearer to %v than %d", opposite, s, far)
			}
			expect(t, fmt.Sprint("PictureOfDiscs ", kind, s, far), at(far), less, true)
			for _, radius := range []int64{far + 1, 511, 512} {
				expect(t, fmt.Sprint("PictureOfDiscs ", kind, s, radius), at(radius), black(16, 16), true)
			}
			expect(t, fmt.Sprint("PictureOfDiscs ", kind, s, 1), at(1), onePixel(16, 16, s), true)
		}
	}
}

func TestPictureOfManyDiscs(t *testing.T) {
	var each []impl.Disc
	for _, s := range allSpots(impl.Spot{}, impl.Spot{X: 16, Y: 16}) {
		each = append(each, impl.Disc{X: s.X, Y: s.Y, Radius: 1})
	}
	for _, kind := range farKinds {
		expect(t, "PictureOfDiscs 256", results(impl.PictureOfDiscs(16, 16, kind, each)), black(16, 16), true)
		expect(t, "PictureOfDiscs 256 equal ones", results(impl.PictureOfDiscs(16, 16, kind, slices.Repeat(each[17:18], 256))), onePixel(16, 16, impl.Spot{X: 1, Y: 1}), true)
		expect(t, "PictureOfDiscs 255", results(impl.PictureOfDiscs(16, 16, kind, each[1:])), painted(16, 16, func(x, y int64) bool { return x+y > 0 }), true)
		expectFailure(t, "PictureOfDiscs 257", results(impl.PictureOfDiscs(16, 16, kind, append(slices.Clone(each), each[0]))))
	}
}

func TestPictureOfAnyDiscs(t *testing.T) {
	source := noise(62)
	for range 300 {
		width, height := source.below(16)+1, source.below(16)+1
		var list []impl.Disc
		for range source.below(6) {
			list = append(list, impl.Disc{X: source.below(width), Y: source.below(height), Radius: 1 + source.below(source.below(30)+1)})
		}
		for _, kind := range farKinds {
			want := painted(width, height, func(x, y int64) bool {
				return slices.ContainsFunc(list, func(d impl.Disc) bool {
					return farAsDefined(kind, impl.Spot{X: x, Y: y}, impl.Spot{X: d.X, Y: d.Y}) < d.Radius
				})
			})
			expect(t, fmt.Sprint("PictureOfDiscs ", width, height, kind, list), results(impl.PictureOfDiscs(width, height, kind, list)), want, true)
		}
	}
}

func TestGrowAndShrinkByHand(t *testing.T) {
	tests := []struct {
		text                string
		by                  int64
		city, chess, square string
	}{
		{"..#..", 0, "..#..", "..#..", "..#.."},
		{"..#..", 1, ".###.", ".###.", ".###."},
		{"..#..", 2, "#####", "#####", ".###."},
		{"..#..", 3, "#####", "#####", ".###."},
		{"..#..", 4, "#####", "#####", "#####"},
		{"#/././.", 2, "#/#/#/.", "#/#/#/.", "#/#/./."},
		{".../.#./...", 1, ".#./###/.#.", "###/###/###", ".#./###/.#."},
		{".../.#./...", 2, "###/###/###", "###/###/###", "###/###/###"},
		{"..../.#../..../....", 2, "###./####/###./.#..", "####/####/####/####", "###./###./###./...."},
		{"#...../......", 512, "######/######", "######/######", "######/######"},
		// Nothing grows where nothing is.
		{".", 0, ".", ".", "."},
		{"..../....", 1, "..../....", "..../....", "..../...."},
		{"..../....", 512, "..../....", "..../....", "..../...."},
		{"###/###", 512, "###/###", "###/###", "###/###"},
	}
	for _, test := range tests {
		for kind, want := range []string{test.city, test.chess, test.square} {
			expect(t, fmt.Sprint("GrowBy ", test.text, kind, test.by), results(impl.GrowBy(drawn(test.text), int64(kind), test.by)), drawn(want), true)
		}
	}
	shrunk := []struct {
		text                string
		by                  int64
		city, chess, square string
	}{
		{".", 0, ".", ".", "."},
		{"#", 0, "#", "#", "#"},
		{"#", 1, ".", ".", "."},
		{"#.##", 0, "#.##", "#.##", "#.##"},
		{"####", 1, "....", "....", "...."},
		{"###/###/###", 0, "###/###/###", "###/###/###", "###/###/###"},
		{"###/###/###", 1, ".../.#./...", ".../.#./...", ".../.#./..."},
		{"###/###/###", 2, ".../.../...", ".../.../...", ".../.#./..."},
		{"###/###/###", 3, ".../.../...", ".../.../...", ".../.#./..."},
		{"###/###/###", 4, ".../.../...", ".../.../...", ".../.../..."},
		{".##/###/###", 1, ".../.#./...", ".../.../...", ".../.#./..."},
		{".##/###/###", 2, ".../.../...", ".../.../...", ".../.../..."},
		{"###/###/###", 512, ".../.../...", ".../.../...", ".../.../..."},
		{"..../....", 512, "..../....", "..../....", "..../...."},
	}
	for _, test := range shrunk {
		for kind, want := range []string{test.city, test.chess, test.square} {
			expect(t, fmt.Sprint("ShrinkBy ", test.text, kind, test.by), results(impl.ShrinkBy(drawn(test.text), int64(kind), test.by)), drawn(want), true)
		}
	}
}

func TestGrowAndShrinkAsDefined(t *testing.T) {
	for _, p := range distancePictures() {
		blacks, whites := blacksOf(p), whitesAround(p, 1)
		for _, kind := range farKinds {
			depths := distancesAsDefined(p, kind, whites)
			distances := eachPixel(p, func(s impl.Spot) int64 { return 513 })
			if len(blacks) > 0 {
				distances = distancesAsDefined(p, kind, blacks)
			}
			for _, by := range []int64{0, 1, 2, 3, 5, 15, 64, 512} {
				what := fmt.Sprintf(" %q %d %d", p.Rows, kind, by)
				grown := painted(widthOf(p), heightOf(p), func(x, y int64) bool { return distances[y][x] <= by })
				shrunk := painted(widthOf(p), heightOf(p), func(x, y int64) bool { return depths[y][x] > by })
				expect(t, "GrowBy"+what, results(impl.GrowBy(p, kind, by)), grown, true)
				expect(t, "ShrinkBy"+what, results(impl.ShrinkBy(p, kind, by)), shrunk, true)
			}
		}
	}
}

func TestGrowFromOneCorner(t *testing.T) {
	for kind, far := range []int64{30, 15, 450} {
		for _, s := range spots(0, 0, 15, 0, 0, 15, 15, 15) {
			p := onePixel(16, 16, s)
			less := painted(16, 16, func(x, y int64) bool { return farAsDefined(int64(kind), s, impl.Spot{X: x, Y: y}) < far })
			expect(t, fmt.Sprint("GrowBy ", kind, s, far-1), results(impl.GrowBy(p, int64(kind), far-1)), less, true)
			expect(t, fmt.Sprint("GrowBy ", kind, s, far), results(impl.GrowBy(p, int64(kind), far)), black(16, 16), true)
		}
	}
	// The greatest depths of all.
	for kind, deepest := range []int64{8, 8, 64} {
		middle := painted(16, 16, func(x, y int64) bool { return min(x, y) >= 7 && max(x, y) <= 8 })
		expect(t, fmt.Sprint("ShrinkBy ", kind), results(impl.ShrinkBy(black(16, 16), int64(kind), deepest-1)), middle, true)
		expect(t, fmt.Sprint("ShrinkBy ", kind), results(impl.ShrinkBy(black(16, 16), int64(kind), deepest)), white(16, 16), true)
	}
}

func TestApartByHand(t *testing.T) {
	tests := []struct {
		p, q string
		far  [3]int
	}{
		{"#", "#", [3]int{0, 0, 0}},
		{"#.#/.#.", "#.#/.#.", [3]int{0, 0, 0}},
		{"#..", "..#", [3]int{2, 2, 4}},
		{"#/./.", "././#", [3]int{2, 2, 4}},
		{"#.#", ".#.", [3]int{1, 1, 1}},
		// One has all black pixels of the other one, and one that is far from all of them.
		{"#..", "#.#", [3]int{2, 2, 4}},
		{"#...", "####", [3]int{3, 3, 9}},
		{".#../..../....", ".#../..../...#", [3]int{4, 2, 8}},
		// Each has one that is far from those of the other one, not equally far.
		{"#..#....", "..#....#", [3]int{4, 4, 16}},
		{"#.....#./........", "......../.#.....#", [3]int{2, 1, 2}},
		{"#./..", "../.#", [3]int{2, 1, 2}},
		{".#/..", "../#.", [3]int{2, 1, 2}},
	}
	for _, test := range tests {
		for _, kind := range farKinds {
			what := fmt.Sprint("ApartBy ", test.p, " ", test.q, " ", kind)
			expect(t, what, results(impl.ApartBy(drawn(test.p), drawn(test.q), kind)), test.far[kind], true)
			expect(t, what+" exchanged", results(impl.ApartBy(drawn(test.q), drawn(test.p), kind)), test.far[kind], true)
		}
	}
	for kind, far := range []int{30, 15, 450} {
		expect(t, "ApartBy opposite corners", results(impl.ApartBy(onePixel(16, 16, impl.Spot{}), onePixel(16, 16, impl.Spot{X: 15, Y: 15}), int64(kind))), far, true)
		expect(t, "ApartBy the other corners", results(impl.ApartBy(onePixel(16, 16, impl.Spot{X: 15}), onePixel(16, 16, impl.Spot{Y: 15}), int64(kind))), far, true)
		expect(t, "ApartBy a corner and all", results(impl.ApartBy(onePixel(16, 16, impl.Spot{Y: 15}), black(16, 16), int64(kind))), far, true)
	}
}

// apartAsDefined returns how far two pictures with black pixels are apart at most.
func apartAsDefined(p, q impl.Picture, kind int64) int64 {
	most := int64(0)
	for _, s := range blacksOf(p) {
		most = max(most, leastAsDefined(kind, s, blacksOf(q)))
	}
	for _, s := range blacksOf(q) {
		most = max(most, leastAsDefined(kind, s, blacksOf(p)))
	}
	return most
}

func TestApartAsDefined(t *testing.T) {
	source := noise(63)
	for _, p := range distancePictures() {
		q := source.grainy(widthOf(p), heightOf(p), 2+source.below(60), source.below(4) == 0)
		for _, kind := range farKinds {
			what := fmt.Sprintf("ApartBy %q %q %d", p.Rows, q.Rows, kind)
			got, exchanged := results(impl.ApartBy(p, q, kind)), results(impl.ApartBy(q, p, kind))
			if len(blacksOf(p)) == 0 || len(blacksOf(q)) == 0 {
				expectFailure(t, what, got)
				expectFailure(t, what+" exchanged", exchanged)
				continue
			}
			expect(t, what, got, apartAsDefined(p, q, kind), true)
			expect(t, what+" exchanged", exchanged, apartAsDefined(p, q, kind), true)
			expect(t, what+" with itself", results(impl.ApartBy(p, p, kind)), 0, true)
		}
	}
}

func TestRegionsByHand(t *testing.T) {
	tests := []struct {
		width, height       int64
		spots               []impl.Spot
		city, chess, square string
	}{
		{1, 1, spots(0, 0), "0", "0", "0"},
		{3, 2, spots(2, 1), "000/000", "000/000", "000/000"},
		// Equal distances, with the spots in both orders.
		{3, 1, spots(0, 0, 2, 0), "001", "001", "001"},
		{3, 1, spots(2, 0, 0, 0), "100", "100", "100"},
		{1, 3, spots(0, 0, 0, 2), "0/0/1", "0/0/1", "0/0/1"},
		{1, 3, spots(0, 2, 0, 0), "1/0/0", "1/0/0", "1/0/0"},
		{4, 1, spots(0, 0, 3, 0), "0011", "0011", "0011"},
		{2, 2, spots(0, 0, 1, 1), "00/01", "00/01", "00/01"},
		{2, 2, spots(1, 1, 0, 0), "10/00", "10/00", "10/00"},
		{3, 3, spots(1, 0, 0, 1, 2, 1, 1, 2), "000/102/132", "000/102/132", "000/102/132"},
		{3, 3, spots(2, 2, 0, 2, 2, 0, 0, 0), "322/100/100", "322/100/100", "322/100/100"},
		// Spots that are equal, of which the first one is told.
		{3, 1, spots(1, 0, 1, 0), "000", "000", "000"},
		{3, 1, spots(0, 0, 2, 0, 0, 0, 2, 0), "001", "001", "001"},
		{3, 1, spots(0, 0, 0, 0, 2, 0), "002", "002", "002"},
		// A spot on each pixel.
		{2, 2, spots(0, 0, 1, 0, 0, 1, 1, 1), "01/23", "01/23", "01/23"},
		{2, 2, spots(1, 1, 0, 1, 1, 0, 0, 0), "32/10", "32/10", "32/10"},
		// The nearest one depends on the kind.
		{5, 4, spots(4, 0, 3, 3), "00000/00000/11110/11111", "10000/11000/11111/11111", "00000/11000/11111/11111"},
	}
	for _, test := range tests {
		for kind, want := range []string{test.city, test.chess, test.square} {
			what := fmt.Sprint("RegionsOf ", test.width, test.height, kind, test.spots)
			expect(t, what, results(impl.RegionsOf(test.width, test.height, int64(kind), test.spots)), numbered(want), true)
		}
	}
}

// checkRegions compares RegionsOf with its definition, and returns it.
func checkRegions(t *testing.T, width, height, kind int64, list []impl.Spot) [][]int64 {
	t.Helper()
	want := eachPixel(white(width, height), func(s impl.Spot) int64 { return nearestAsDefined(kind, s, list) })
	expect(t, fmt.Sprint("RegionsOf ", width, height, kind, list), results(impl.RegionsOf(width, height, kind, list)), want, true)
	return want
}

func TestRegionsAsDefined(t *testing.T) {
	source := noise(64)
	for width := int64(1); width <= 16; width++ {
		for height := int64(1); height <= 16; height++ {
			var list []impl.Spot
			for range 1 + source.below(1+source.below(30)) {
				list = append(list, impl.Spot{X: source.below(width), Y: source.below(height)})
			}
			for _, kind := range farKinds {
				checkRegions(t, width, height, kind, list)
				checkRegions(t, width, height, kind, list[:1])
			}
		}
	}
}

func TestRegionsOfManySpots(t *testing.T) {
	square := allSpots(impl.Spot{X: 8, Y: 8}, impl.Spot{X: 16, Y: 16})
	backwards := slices.Clone(square)
	slices.Reverse(backwards)
	for _, kind := range farKinds {
		checkRegions(t, 16, 16, kind, square)
		checkRegions(t, 16, 16, kind, backwards)
		checkRegions(t, 16, 16, kind, square[:63])
		checkRegions(t, 16, 16, kind, slices.Repeat(square[:1], 64))
		checkRegions(t, 16, 16, kind, append(slices.Repeat(square[63:], 63), impl.Spot{}))
		expectFailure(t, "RegionsOf 65 spots", results(impl.RegionsOf(16, 16, kind, append(slices.Clone(square), impl.Spot{}))))
	}
}

// pixelsApart returns how many pixels cannot be reached from their spots across and up and down within their regions.
func pixelsApart(regions [][]int64, list []impl.Spot) int {
	apart := 0
	for i, s := range list {
		inside := func(x, y int64) bool {
			return y >= 0 && y < int64(len(regions)) && x >= 0 && x < int64(len(regions[y])) && regions[y][x] == int64(i)
		}
		if !inside(s.X, s.Y) {
			continue // It is equal to one before it.
		}
		region := reached(s, false, inside)
		for y, row := range regions {
			for x := range row {
				if row[x] == int64(i) && !region[impl.Spot{X: int64(x), Y: int64(y)}] {
					apart++
				}
			}
		}
	}
	return apart
}

func TestRegionsNeedNotBeJoined(t *testing.T) {
	source := noise(65)
	apart := 0
	for range 60 {
		var list []impl.Spot
		for range 3 + source.below(9) {
			list = append(list, impl.Spot{X: source.below(16), Y: source.below(16)})
		}
		regions := checkRegions(t, 16, 16, impl.FarSquare, list)
		apart += pixelsApart(regions, list)
	}
	if apart == 0 {
		t.Error("no pixel is apart from its spot")
	}
}
