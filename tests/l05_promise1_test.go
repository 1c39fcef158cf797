package tests

import (
	"fmt"
	"reflect"
	"slices"
	"testing"

	"loop.example/g01165/impl"
)

// The tests in this file are those of promise 1 for chapter 5: every function returns for all
// arguments, modifies none of them, and returns equal results, in new memory, for equal arguments.

// topologyCalls are the functions that need a valid picture, with both values of eight.
func topologyCalls() []aCall {
	calls := []aCall{
		{"QuadCounts", func(p impl.Picture) []any { return results(impl.QuadCounts(p)) }},
		{"TreeCode", func(p impl.Picture) []any { return results(impl.TreeCode(p)) }},
		{"DepthOf", func(p impl.Picture) []any { return results(impl.DepthOf(p)) }},
		{"SameTopology", func(p impl.Picture) []any { return results(impl.SameTopology(p, p)) }},
		{"EndsOf", func(p impl.Picture) []any { return results(impl.EndsOf(p)) }},
	}
	for _, eight := range bothKinds {
		calls = append(calls, eightCalls(eight)...)
	}
	return calls
}

func eightCalls(eight bool) []aCall {
	calls := []aCall{
		{"ComponentsOf", func(p impl.Picture) []any { return components(p, eight) }},
		{"CountHoles", func(p impl.Picture) []any { return results(impl.CountHoles(p, eight)) }},
		{"EulerNumber", func(p impl.Picture) []any { return results(impl.EulerNumber(p, eight)) }},
		{"AreasOf", func(p impl.Picture) []any { return results(impl.AreasOf(p, eight)) }},
		{"LargestComponent", func(p impl.Picture) []any { return results(impl.LargestComponent(p, eight)) }},
		{"KeepComponents 0", func(p impl.Picture) []any { return results(impl.KeepComponents(p, eight, 0)) }},
		{"KeepComponents 2", func(p impl.Picture) []any { return results(impl.KeepComponents(p, eight, 2)) }},
		{"KeepComponents 256", func(p impl.Picture) []any { return results(impl.KeepComponents(p, eight, 256)) }},
		{"ThinPicture", func(p impl.Picture) []any { return results(impl.ThinPicture(p, eight)) }},
		{"ShrinkPicture", func(p impl.Picture) []any { return results(impl.ShrinkPicture(p, eight)) }},
	}
	for _, at := range []impl.Spot{{}, {X: 1}, {Y: 1}, {X: 15, Y: 15}, {X: -1, Y: -1}} {
		calls = append(calls, aCall{fmt.Sprint("IsSimple ", at), func(p impl.Picture) []any { return results(impl.IsSimple(p, at, eight)) }})
	}
	for i := range calls {
		calls[i].name += fmt.Sprint(" ", eight)
	}
	return calls
}

func TestNoPictureFailsInChapter5(t *testing.T) {
	for _, bad := range badPictures() {
		for _, call := range topologyCalls() {
			expectFailure(t, fmt.Sprintf("%s %q", call.name, bad.Rows), call.of(bad))
		}
		for _, other := range append(badPictures(), drawn("."), drawn("#"), drawn("##/##"), drawn("###/#.#/###"), black(16, 16)) {
			if impl.SameTopology(bad, other) || impl.SameTopology(other, bad) {
				t.Errorf("SameTopology %q %q", bad.Rows, other.Rows)
			}
		}
	}
}

func TestPicturesWithoutComponentsFail(t *testing.T) {
	for width := int64(1); width <= 16; width++ {
		for height := int64(1); height <= 16; height++ {
			blank := painted(width, height, func(x, y int64) bool { return false })
			for _, eight := range bothKinds {
				what := fmt.Sprint(" ", width, " by ", height, " ", eight)
				expectFailure(t, "LargestComponent"+what, results(impl.LargestComponent(blank, eight)))
				// The others do not need a component.
				rows := slices.Repeat([][]int64{make([]int64, width)}, int(height))
				expect(t, "ComponentsOf"+what, components(blank, eight), rows, 0, true)
				expect(t, "AreasOf"+what, results(impl.AreasOf(blank, eight)), []int64{}, true)
				expect(t, "CountHoles"+what, results(impl.CountHoles(blank, eight)), 0, true)
				expect(t, "EulerNumber"+what, results(impl.EulerNumber(blank, eight)), 0, true)
				expect(t, "KeepComponents"+what, results(impl.KeepComponents(blank, eight, 1)), blank, true)
				expect(t, "ThinPicture"+what, results(impl.ThinPicture(blank, eight)), blank, true)
				expect(t, "ShrinkPicture"+what, results(impl.ShrinkPicture(blank, eight)), blank, true)
			}
			expect(t, "QuadCounts", results(impl.QuadCounts(blank)), []int64{0, 0, 0}, true)
			expect(t, "TreeCode", results(impl.TreeCode(blank)), "()", true)
			expect(t, "DepthOf", results(impl.DepthOf(blank)), 0, true)
			expect(t, "EndsOf", results(impl.EndsOf(blank)), []impl.Spot{}, true)
		}
	}
}

func TestLeastOutsideFails(t *testing.T) {
	for _, p := range append(fewPictures(), black(16, 16), singlePixels(), drawn(pixelInHole)) {
		for _, eight := range bothKinds {
			for _, least := range []int64{-1, -2, -256, 257, 258, 512, 1 << 32, -1 << 32, 1<<32 + 1, 1 << 62, leastInt, leastInt + 1, greatestInt, greatestInt - 1} {
				expectFailure(t, fmt.Sprintf("KeepComponents %q %d", p.Rows, least), results(impl.KeepComponents(p, eight, least)))
			}
			blank := painted(widthOf(p), heightOf(p), func(x, y int64) bool { return false })
			expect(t, "KeepComponents 0", results(impl.KeepComponents(p, eight, 0)), p, true)
			if !same(p, black(16, 16)) {
				expect(t, "KeepComponents 256", results(impl.KeepComponents(p, eight, 256)), blank, true)
			}
		}
	}
}

func TestNoPixelIsSimpleOutsideOrWhite(t *testing.T) {
	for _, p := range append(fewPictures(), black(16, 16), drawn("##/##"), drawn(pixelInHole), drawn("##")) {
		for _, eight := range bothKinds {
			check := func(x, y int64) {
				if !isBlack(p, x, y) && impl.IsSimple(p, impl.Spot{X: x, Y: y}, eight) {
					t.Errorf("IsSimple %q %d, %d %v", p.Rows, x, y, eight)
				}
			}
			for y := int64(-2); y <= 17; y++ {
				for x := int64(-2); x <= 17; x++ {
					check(x, y)
				}
			}
			for _, n := range append([]int64{31, 32, 63, 64, -16, -31, -32, -63, -64}, extremes...) {
				for _, m := range []int64{0, 1, n, -n} {
					check(n, m)
					check(m, n)
				}
			}
		}
	}
}

func TestChapter5ModifiesNoArgument(t *testing.T) {
	pictures := append(fewPictures(), drawn(pixelInHole), drawn(ringWithTail), singlePixels(), nestedRings(16))
	for _, p := range append(pictures, badPictures()...) {
		for _, call := range topologyCalls() {
			checkUnmodified(t, call.name, p.Rows, "#", func(rows []string) { call.of(impl.Picture{Rows: rows}) })
		}
		checkUnmodified(t, "SameTopology first", p.Rows, "#", func(rows []string) { impl.SameTopology(impl.Picture{Rows: rows}, drawn("##/##")) })
		checkUnmodified(t, "SameTopology second", p.Rows, "#", func(rows []string) { impl.SameTopology(drawn("##/##"), impl.Picture{Rows: rows}) })
	}
}

func TestChapter5ReturnsNewMemory(t *testing.T) {
	for _, p := range append(fewPictures(), drawn(pixelInHole), drawn(ringWithTail), drawn("##.#"), singlePixels()) {
		rows := slices.Clone(p.Rows)
		for _, call := range topologyCalls() {
			checkNewMemory(t, fmt.Sprintf("%s %q", call.name, p.Rows), func() []any { return call.of(p) })
			if !slices.Equal(p.Rows, rows) {
				t.Fatalf("the result of %s shares memory with its argument", call.name)
			}
		}
		for _, eight := range bothKinds {
			checkNumbersShareNothing(t, p, eight)
		}
	}
}

// checkNumbersShareNothing writes into one row of ComponentsOf after the other, and behind it.
func checkNumbersShareNothing(t *testing.T, p impl.Picture, eight bool) {
	t.Helper()
	want, _ := numbersAsDefined(p, eight)
	rows, _, _ := impl.ComponentsOf(p, eight)
	for y := range want {
		if !slices.Equal(rows[y], want[y]) {
			t.Fatalf("ComponentsOf %q: the row %d shares memory with one before it", p.Rows, y)
		}
		spoil(rows[y])
	}
}

// damaged returns a picture with one byte changed, left out or put in, or with one row left out or twice.
func (n *noise) damaged(p impl.Picture) impl.Picture {
	rows := slices.Clone(p.Rows)
	y := int(n.below(int64(len(rows))))
	x := int(n.below(int64(len(rows[y]))))
	pixel := string("#.x/"[n.below(4)])
	switch n.below(5) {
	case 0:
		rows[y] = rows[y][:x] + pixel + rows[y][x+1:]
	case 1:
		rows[y] = rows[y][:x] + rows[y][x+1:]
	case 2:
		rows[y] = rows[y][:x] + pixel + rows[y][x:]
	case 3:
		rows = slices.Delete(rows, y, y+1)
	case 4:
		rows = slices.Insert(rows, y, rows[y])
	}
	return impl.Picture{Rows: rows}
}

func TestAnyPictureIsUsedTheSameWayTwiceInChapter5(t *testing.T) {
	source := noise(33)
	pictures := append(fewPictures(), drawn(pixelInHole), drawn(ringWithTail), drawn(linkedHoles), black(16, 16))
	for range 1000 {
		p := source.damaged(pictures[source.below(int64(len(pictures)))])
		valid := impl.ValidPicture(p)
		for _, call := range topologyCalls() {
			first, second := call.of(p), call.of(p)
			if !reflect.DeepEqual(first, second) {
				t.Fatalf("%s %q: got %v and %v", call.name, p.Rows, first, second)
			}
			if !valid {
				expectFailure(t, fmt.Sprintf("%s %q", call.name, p.Rows), first)
			}
		}
	}
}
