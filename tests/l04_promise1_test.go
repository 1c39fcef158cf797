package tests

import (
	"fmt"
	"reflect"
	"slices"
	"strings"
	"testing"

	"loop.example/g01165/impl"
)

// The tests in this file are those of promise 1 for chapter 4: every function returns for all
// arguments, modifies none of them, and returns equal results, in new memory, for equal arguments.

// edgeCalls are the functions that need a valid picture.
func edgeCalls() []aCall {
	return []aCall{
		{"RunsOf", func(p impl.Picture) []any { return results(impl.RunsOf(p)) }},
		{"EdgeLength", func(p impl.Picture) []any { return results(impl.EdgeLength(p)) }},
		{"BordersOf", func(p impl.Picture) []any { return results(impl.BordersOf(p)) }},
		{"BorderAt", func(p impl.Picture) []any { return results(impl.BorderAt(p, impl.Spot{})) }},
	}
}

// borderCall is a call of a function with a border alone.
type borderCall struct {
	name string
	of   func(b impl.Border) []any
}

// borderCalls are the functions that need a valid border.
func borderCalls() []borderCall {
	return []borderCall{
		{"IsBorder", func(b impl.Border) []any { return results(impl.IsBorder(b)) }},
		{"SignedArea", func(b impl.Border) []any { return results(impl.SignedArea(b)) }},
		{"TurningOf", func(b impl.Border) []any { return results(impl.TurningOf(b)) }},
		{"CornersOfBorder", func(b impl.Border) []any { return results(impl.CornersOfBorder(b)) }},
		{"HullOfBorder", func(b impl.Border) []any { return results(impl.HullOfBorder(b)) }},
	}
}

// extremes are numbers that no corner has.
var extremes = []int64{-1, -2, 17, 18, 1 << 32, -1 << 32, 1<<32 + 1, 1 << 62, leastInt, leastInt + 1, greatestInt, greatestInt - 1}

// badBorders returns values that are no borders.
func badBorders() []impl.Border {
	list := []impl.Border{
		{}, border(4, 4, ""), border(4, 4, "r"), border(4, 4, "rd"), border(4, 4, "rl"), border(4, 4, "rdl"), border(4, 4, "rld"),
		// They do not close.
		border(4, 4, "rdlur"), border(4, 4, "rdll"), border(4, 4, "rrdlu"), border(4, 4, "rrrr"), border(4, 4, "rrddllu"), border(4, 4, "rddllu"),
		// They leave 0 to MaxSide.
		border(0, 0, "urdl"), border(0, 0, "ldru"), border(16, 16, "rdlu"), border(16, 0, "rdlu"), border(0, 16, "rdlu"), border(0, 0, "rruulldd"),
		border(16, 4, "drul"), border(4, 16, "drul"), border(15, 4, "rrdllu"), border(4, 15, "rddluu"), border(0, 4, "lurd"), border(4, 0, "uldr"),
		// They step back, the last step against the first one among them.
		border(4, 4, "rlrl"), border(4, 4, "udud"), border(4, 4, "rrll"), border(4, 4, "rdlduu"), border(4, 4, "rrldlu"), border(4, 4, "lrrdlu"),
		border(4, 4, "rdlulr"), border(4, 4, "drdluu"), border(4, 4, "rrdlul"),
		// They make a step twice.
		border(4, 4, "rdlurdlu"), border(4, 4, "druldrul"), border(4, 4, "rdlurdlurdlu"), border(4, 4, "rdlurrdllu"), border(4, 4, "rrdllurdlu"),
		// They have other letters.
		border(4, 4, "xdlu"), border(4, 4, "rdlx"), border(4, 4, "RDLU"), border(4, 4, "rdl "), border(4, 4, "rdlu "), border(4, 4, " rdlu"), border(4, 4, "rdlu\n"),
		border(4, 4, "r\x00dlu"), border(4, 4, "rdl\xff"), border(4, 4, "rdé"), border(4, 4, "éé"), border(4, 4, "0123"), border(4, 4, "eswn"), border(4, 4, "####"),
		border(4, 4, "r,d,l,u"), border(4, 4, "\x00\x01\x02\x03"),
		// They have more than MaxSteps steps.
		wideBorder(13), wideBorder(20), border(4, 4, strings.Repeat("rdlu", 151)), border(4, 4, strings.Repeat("rdlu", 1000000)), border(4, 4, strings.Repeat("x", 600)),
	}
	for _, n := range extremes {
		for _, steps := range []string{"rdlu", "drul", "lurd", "uldr", "rdlulurd"} {
			list = append(list, border(n, 4, steps), border(4, n, steps), border(n, n, steps), border(n, -n, steps))
		}
	}
	return list
}

func TestNoPictureFailsInChapter4(t *testing.T) {
	for _, bad := range badPictures() {
		for _, call := range edgeCalls() {
			expectFailure(t, fmt.Sprintf("%s %q", call.name, bad.Rows), call.of(bad))
		}
	}
}

func TestNoBorderFailsEverywhere(t *testing.T) {
	for _, bad := range badBorders() {
		what := fmt.Sprintf(" %v %.40q", bad.Start, bad.Steps)
		for _, call := range borderCalls() {
			expectFailure(t, call.name+what, call.of(bad))
		}
		for _, borders := range [][]impl.Border{{bad}, {bad, bad}, {border(0, 0, "rdlu"), bad}, {bad, border(0, 0, "rdlu")}} {
			expectFailure(t, "PictureOfBorders"+what, results(impl.PictureOfBorders(16, 16, borders)))
			expectFailure(t, "PictureOfBorders"+what, results(impl.PictureOfBorders(1, 1, borders)))
		}
	}
}

func TestSidesOutsideFailInChapter4(t *testing.T) {
	runs, borders := [][]int64{{0, 0, 1}}, []impl.Border{border(0, 0, "rdlu")}
	for _, n := range append([]int64{0, -1}, farNumbers...) {
		for _, size := range [][2]int64{{n, 1}, {1, n}, {n, n}, {n, 16}, {16, n}} {
			what := fmt.Sprint(" ", size)
			expectFailure(t, "PictureOfRuns"+what, results(impl.PictureOfRuns(size[0], size[1], nil)))
			expectFailure(t, "PictureOfRuns"+what, results(impl.PictureOfRuns(size[0], size[1], runs)))
			expectFailure(t, "PictureOfBorders"+what, results(impl.PictureOfBorders(size[0], size[1], nil)))
			expectFailure(t, "PictureOfBorders"+what, results(impl.PictureOfBorders(size[0], size[1], borders)))
		}
	}
	for width := int64(1); width <= 16; width++ {
		for height := int64(1); height <= 16; height++ {
			white := painted(width, height, func(x, y int64) bool { return false })
			pixel := painted(width, height, func(x, y int64) bool { return x+y == 0 })
			expect(t, "PictureOfRuns none", results(impl.PictureOfRuns(width, height, nil)), white, true)
			expect(t, "PictureOfRuns one", results(impl.PictureOfRuns(width, height, runs)), pixel, true)
			expect(t, "PictureOfBorders none", results(impl.PictureOfBorders(width, height, []impl.Border{})), white, true)
			expect(t, "PictureOfBorders one", results(impl.PictureOfBorders(width, height, borders)), pixel, true)
		}
	}
}

// badRuns returns lists that are no runs of a picture of 6 by 4.
func badRuns() [][][]int64 {
	list := [][][]int64{
		// Out of order.
		{{0, 3, 1}, {0, 0, 1}}, {{1, 0, 1}, {0, 0, 1}}, {{1, 0, 1}, {0, 5, 1}}, {{0, 0, 1}, {2, 0, 1}, {1, 0, 1}},
		// They touch, overlap, or are twice the same.
		{{0, 0, 1}, {0, 1, 1}}, {{0, 0, 2}, {0, 2, 4}}, {{3, 1, 2}, {3, 2, 2}}, {{0, 0, 6}, {0, 2, 1}}, {{0, 1, 2}, {0, 1, 2}}, {{0, 0, 1}, {0, 0, 2}}, {{0, 0, 3}, {0, 2, 1}},
		// They are empty.
		{{0, 0, 0}}, {{0, 3, 0}}, {{0, 0, 1}, {1, 0, 0}}, {{0, 0, -1}}, {{0, 5, -2}}, {{0, 3, 1}, {0, 5, -1}},
		// They leave the picture.
		{{0, 0, 7}}, {{0, 5, 2}}, {{0, 6, 1}}, {{4, 0, 1}}, {{-1, 0, 1}}, {{0, -1, 1}}, {{0, -1, 2}}, {{0, -1, 8}}, {{3, 1, 6}}, {{0, 6, 0}}, {{4, 0, 0}}, {{0, 4, 12}}, {{0, 0, 16}},
		// They have other numbers of numbers.
		{nil}, {{}}, {{0}}, {{0, 0}}, {{0, 0, 1, 1}}, {{0, 0, 1}, {0, 2}}, {{0, 0, 1}, {0, 2, 1, 0}}, {{0, 0, 1}, nil}, {nil, {0, 0, 1}}, {{0, 0, 1, 0, 2, 1}},
		make([][]int64, 100000), slices.Repeat([][]int64{{0, 0, 1}}, 100000),
	}
	for _, n := range append([]int64{-3, -16, 16, 31, 32, 63, 64}, extremes...) {
		list = append(list, [][]int64{{n, 0, 1}}, [][]int64{{0, n, 1}}, [][]int64{{0, 0, n}}, [][]int64{{0, 1, n}}, [][]int64{{0, 5, n}}, [][]int64{{n, n, n}},
			[][]int64{{0, n, n}}, [][]int64{{0, n, -n}}, [][]int64{{0, n, 1 - n}}, [][]int64{{0, n, 2 - n}}, [][]int64{{0, 0, 1}, {1, 1, n}}, [][]int64{{3, 5, 1}, {n, 0, 1}})
	}
	return list
}

func TestNoRunsFail(t *testing.T) {
	for _, bad := range badRuns() {
		what := fmt.Sprint("PictureOfRuns ", len(bad), " ", bad[:min(len(bad), 3)])
		expectFailure(t, what, results(impl.PictureOfRuns(6, 4, bad)))
		expectFailure(t, what, results(impl.PictureOfRuns(1, 1, bad)))
	}
	expectFailure(t, "PictureOfRuns beyond MaxSide", results(impl.PictureOfRuns(16, 16, [][]int64{{0, 15, 2}})))
	expectFailure(t, "PictureOfRuns longer than MaxSide", results(impl.PictureOfRuns(16, 16, [][]int64{{0, 0, 17}})))
	expectFailure(t, "PictureOfRuns below MaxSide", results(impl.PictureOfRuns(16, 16, [][]int64{{16, 0, 1}})))
}

func TestSpotsWithoutBorderFail(t *testing.T) {
	for _, p := range append(fewPictures(), black(16, 16), drawn(pixelInHole)) {
		for _, n := range append([]int64{16}, extremes...) {
			for _, spot := range []impl.Spot{{X: n}, {Y: n}, {X: n, Y: n}, {X: n, Y: -n}, {X: n, Y: 2}, {X: 2, Y: n}} {
				if min(spot.X, spot.Y) >= 0 && spot.X < widthOf(p) && spot.Y < heightOf(p) {
					continue
				}
				expectFailure(t, fmt.Sprintf("BorderAt %q %v", p.Rows, spot), results(impl.BorderAt(p, spot)))
			}
		}
	}
	for _, text := range []string{".", "..../....", "################", pixelInHole} {
		p := drawn(text)
		for y := range heightOf(p) {
			for x := range widthOf(p) {
				if !isBlack(p, x, y) || isBlack(p, x, y-1) {
					expectFailure(t, fmt.Sprint("BorderAt ", text, x, y), results(impl.BorderAt(p, impl.Spot{X: x, Y: y})))
				}
			}
		}
	}
}

func TestBordersOfNoPictureFail(t *testing.T) {
	ring, hole := border(0, 0, "rrrdddllluuu"), border(1, 2, "ruld")
	tests := [][]impl.Border{
		// Out of order, one twice, or one missing.
		{hole, ring}, {ring, ring, hole}, {ring, hole, hole}, {hole}, {border(1, 1, "rdlu"), border(0, 0, "rdlu")},
		// With another Start, or the other way around.
		{border(3, 0, "dddllluuurrr"), hole}, {ring, border(2, 2, "uldr")}, {border(1, 0, "rrdddllluuur"), hole}, {border(0, 0, "dddrrruuulll"), hole}, {ring, border(1, 1, "rdlu")},
		// Pixels that touch, or meet in a corner within one border.
		{border(0, 0, "rdlu"), border(1, 0, "rdlu")}, {border(0, 0, "rdrdlulu")}, {border(1, 1, "rdlulurd")}, {border(1, 1, "rdluuldr")},
		// A border that goes around something twice.
		{border(0, 1, "rrdluurrdddllluu")},
		// They leave the picture.
		{border(0, 0, "rrrrdllllu")}, {border(0, 0, "rddddluuuu")}, {border(3, 0, "rdlu")}, {border(0, 3, "rdlu")}, {border(3, 3, "rdlu")}, {ring, hole, border(4, 4, "rdlu")}, {border(15, 15, "rdlu")},
	}
	for _, borders := range tests {
		for _, b := range borders {
			if !borderAsDefined(b) {
				t.Fatalf("%v must be a border", b)
			}
		}
		expectFailure(t, fmt.Sprint("PictureOfBorders ", borders), results(impl.PictureOfBorders(3, 3, borders)))
	}
	expect(t, "PictureOfBorders", results(impl.PictureOfBorders(3, 3, []impl.Border{ring, hole})), drawn("###/#.#/###"), true)
	for size := int64(1); size <= 2; size++ {
		expectFailure(t, "PictureOfBorders too narrow", results(impl.PictureOfBorders(size, 3, []impl.Border{ring, hole})))
		expectFailure(t, "PictureOfBorders too low", results(impl.PictureOfBorders(3, size, []impl.Border{ring, hole})))
	}
}

func TestPictureOfMaxBorders(t *testing.T) {
	most, _ := bordersAsDefined(singlePixels())
	expect(t, "PictureOfBorders", results(impl.PictureOfBorders(16, 16, most)), singlePixels(), true)
	// No picture has so many borders.
	for _, count := range []int{129, 149, 150, 151, 152, 100000} {
		same := slices.Repeat(most[:1], count)
		expectFailure(t, fmt.Sprint("PictureOfBorders ", count), results(impl.PictureOfBorders(16, 16, same)))
		if count < 200 {
			expectFailure(t, fmt.Sprint("PictureOfBorders with ", count), results(impl.PictureOfBorders(16, 16, append(slices.Clone(most), same[128:]...))))
		}
	}
}

// badCorners returns lists that are no corners of a border.
func badCorners() [][]impl.Spot {
	list := [][]impl.Spot{
		nil, {}, spots(0, 0), spots(0, 0, 1, 0), spots(0, 0, 1, 1), spots(0, 0, 1, 0, 1, 1), spots(0, 0, 16, 0, 16, 16), make([]impl.Spot, 4), make([]impl.Spot, 600), make([]impl.Spot, 1000000),
		// One is not in one row or column with the next one.
		spots(0, 0, 2, 1, 2, 2, 0, 2), spots(0, 0, 2, 0, 2, 2, 1, 3), spots(1, 1, 2, 0, 2, 2, 0, 2), spots(0, 0, 1, 1, 2, 2, 3, 3),
		// One is twice the same.
		spots(0, 0, 0, 0, 2, 0, 2, 2, 0, 2), spots(0, 0, 2, 0, 2, 0, 2, 2, 0, 2), spots(0, 0, 2, 0, 2, 2, 0, 2, 0, 0), spots(0, 0, 2, 0, 2, 2, 0, 2, 0, 2),
		// Nothing turns at one.
		spots(0, 0, 1, 0, 2, 0, 2, 2, 0, 2), spots(1, 0, 2, 0, 2, 2, 0, 2, 0, 0), spots(0, 0, 2, 0, 2, 2, 0, 2, 0, 1), spots(0, 0, 2, 0, 2, 1, 2, 2, 0, 2),
		// They lead back.
		spots(0, 0, 3, 0, 2, 0, 2, 2, 0, 2), spots(0, 0, 2, 0, 2, 3, 2, 2, 0, 2), spots(0, 0, 2, 0, 0, 0, 2, 0), spots(0, 0, 2, 0), spots(0, 0, 4, 0, 1, 0), spots(1, 0, 2, 0, 2, 2, 0, 2, 0, 0, 2, 0),
		// They make steps twice.
		spots(0, 0, 2, 0, 2, 2, 0, 2, 0, 0, 2, 0, 2, 2, 0, 2), spots(0, 0, 2, 0, 2, 2, 0, 2, 0, 0, 1, 0, 1, 1, 0, 1),
	}
	for _, n := range extremes {
		list = append(list, spots(n, 0, 4, 0, 4, 4, n, 4), spots(0, n, 0, 4, 4, 4, 4, n), spots(4, 0, n, 0, n, 4, 4, 4), spots(4, 4, 4, n, 0, n, 0, 4),
			spots(n, n, n+1, n, n+1, n+1, n, n+1), spots(0, 0, n, n), spots(n, 4), spots(-n, n, n, n, n, -n, -n, -n))
	}
	return list
}

func TestNoCornersFail(t *testing.T) {
	for _, bad := range badCorners() {
		what := fmt.Sprint("BorderFrom ", len(bad), " ", bad[:min(len(bad), 9)])
		if _, ok := borderThrough(bad); ok {
			t.Fatalf("%s must fail", what)
		}
		expectFailure(t, what, results(impl.BorderFrom(bad)))
	}
	for detours := 13; detours < 20; detours++ {
		corners, _ := cornersAsDefined(wideBorder(detours))
		expectFailure(t, "BorderFrom with more than MaxSteps steps", results(impl.BorderFrom(corners)))
	}
}

// withSpare returns a list with the same items, and with others behind them in its capacity.
func withSpare[T any](list []T, other T) []T {
	return append(append([]T{}, list...), other, other)[:len(list)]
}

// checkUnmodified requires that a call modifies neither a list nor what is behind it.
func checkUnmodified[T any](t *testing.T, what string, list []T, other T, call func(list []T)) {
	t.Helper()
	given := withSpare(list, other)
	before := fmt.Sprint(given[:cap(given)])
	call(given)
	if fmt.Sprint(given[:cap(given)]) != before {
		t.Fatalf("%s modifies %v", what, list)
	}
}

func TestChapter4ModifiesNoArgument(t *testing.T) {
	for _, p := range append(append(fewPictures(), drawn(pixelInHole), singlePixels()), badPictures()...) {
		for _, call := range edgeCalls() {
			checkUnmodified(t, call.name, p.Rows, "#", func(rows []string) { call.of(impl.Picture{Rows: rows}) })
		}
	}
	for _, p := range fewPictures() {
		width, height := widthOf(p), heightOf(p)
		borders, _ := bordersAsDefined(p)
		checkUnmodified(t, "PictureOfBorders", borders, border(7, 7, "rdlu"), func(list []impl.Border) { impl.PictureOfBorders(width, height, list) })
		slices.Reverse(borders)
		checkUnmodified(t, "PictureOfBorders", borders, border(7, 7, "rdlu"), func(list []impl.Border) { impl.PictureOfBorders(width, height, list) })
		checkUnmodified(t, "PictureOfRuns", runsAsDefined(p), []int64{9, 9, 9}, func(list [][]int64) { impl.PictureOfRuns(width, height, list) })
	}
	for _, bad := range badRuns() {
		if len(bad) > 10 {
			continue
		}
		checkUnmodified(t, "PictureOfRuns", bad, []int64{9, 9, 9}, func(list [][]int64) { impl.PictureOfRuns(6, 4, list) })
	}
	checkUnmodified(t, "PictureOfRuns", []int64{0, 1, 2}, 1, func(list []int64) { impl.PictureOfRuns(6, 4, [][]int64{list, list}) })
	checkUnmodified(t, "PictureOfRuns", []int64{0, 1, 2}, 1, func(list []int64) { impl.PictureOfRuns(6, 4, [][]int64{list}) })
	for _, b := range sampleBorders() {
		corners, _ := cornersAsDefined(b)
		checkUnmodified(t, "BorderFrom", corners, impl.Spot{X: 1, Y: 1}, func(list []impl.Spot) { impl.BorderFrom(list) })
		checkUnmodified(t, "BorderFrom", corners[1:], corners[0], func(list []impl.Spot) { impl.BorderFrom(list) })
	}
}

func TestChapter4ReturnsNewMemory(t *testing.T) {
	for _, p := range append(fewPictures(), drawn(pixelInHole)) {
		rows := slices.Clone(p.Rows)
		for _, call := range edgeCalls() {
			checkNewMemory(t, fmt.Sprintf("%s %q", call.name, p.Rows), func() []any { return call.of(p) })
		}
		runs := runsAsDefined(p)
		borders, _ := bordersAsDefined(p)
		want := fmt.Sprint(rows, runs, borders)
		checkNewMemory(t, "PictureOfRuns", func() []any { return results(impl.PictureOfRuns(widthOf(p), heightOf(p), runs)) })
		checkNewMemory(t, "PictureOfBorders", func() []any { return results(impl.PictureOfBorders(widthOf(p), heightOf(p), borders)) })
		if fmt.Sprint(p.Rows, runs, borders) != want {
			t.Fatalf("a result of chapter 4 shares memory with an argument: %q", rows)
		}
		checkRunsShareNothing(t, p)
	}
	for _, b := range sampleBorders() {
		for _, call := range borderCalls() {
			checkNewMemory(t, fmt.Sprint(call.name, b), func() []any { return call.of(b) })
		}
		corners, _ := cornersAsDefined(b)
		checkNewMemory(t, "BorderFrom", func() []any { return results(impl.BorderFrom(corners)) })
	}
}

// checkRunsShareNothing writes into one list of RunsOf after the other, and behind it.
func checkRunsShareNothing(t *testing.T, p impl.Picture) {
	t.Helper()
	runs, _ := impl.RunsOf(p)
	for i, want := range runsAsDefined(p) {
		if !slices.Equal(runs[i], want) {
			t.Fatalf("RunsOf %q: the list %d shares memory with one before it", p.Rows, i)
		}
		spoil(runs[i])
	}
}

// broken returns a border with one letter changed, left out or put in, or with another Start.
func (n *noise) broken(b impl.Border) impl.Border {
	i := int(n.below(int64(len(b.Steps))))
	letter := string("rdlux"[n.below(5)])
	switch n.below(4) {
	case 0:
		b.Steps = b.Steps[:i] + letter + b.Steps[i+1:]
	case 1:
		b.Steps = b.Steps[:i] + b.Steps[i+1:]
	case 2:
		b.Steps = b.Steps[:i] + letter + b.Steps[i:]
	case 3:
		b.Start = impl.Spot{X: n.below(20) - 2, Y: n.below(20) - 2}
	}
	return b
}

func TestAnyBorderIsUsedTheSameWayTwice(t *testing.T) {
	source := noise(23)
	samples := sampleBorders()
	for range 5000 {
		b := source.broken(samples[source.below(int64(len(samples)))])
		valid := borderAsDefined(b)
		if impl.IsBorder(b) != valid {
			t.Fatalf("IsBorder %v: must be %v", b, valid)
		}
		for _, call := range borderCalls() {
			first, second := call.of(b), call.of(b)
			if !reflect.DeepEqual(first, second) {
				t.Fatalf("%s %v: got %v and %v", call.name, b, first, second)
			}
			if !valid {
				expectFailure(t, fmt.Sprint(call.name, b), first)
			}
		}
	}
}
