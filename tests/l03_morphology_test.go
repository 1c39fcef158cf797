package tests

import (
	"fmt"
	"slices"
	"strings"
	"testing"

	"loop.example/g01165/impl"
)

// The tests in this file are those of promise 4: what the functions of chapter 3 return for valid arguments.

// element returns the element with offsets that are given by their X and Y.
func element(numbers ...int64) impl.Element {
	var e impl.Element
	for i := 0; i < len(numbers); i += 2 {
		e.Offsets = append(e.Offsets, impl.Spot{X: numbers[i], Y: numbers[i+1]})
	}
	return e
}

// elementWhere returns the element with all offsets for which a rule holds.
func elementWhere(rule func(x, y int64) bool) impl.Element {
	var e impl.Element
	for y := int64(-4); y <= 4; y++ {
		for x := int64(-4); x <= 4; x++ {
			if rule(x, y) {
				e.Offsets = append(e.Offsets, impl.Spot{X: x, Y: y})
			}
		}
	}
	return e
}

// singleOffsets returns all elements of one offset.
func singleOffsets() []impl.Element {
	var list []impl.Element
	for _, o := range elementWhere(func(x, y int64) bool { return true }).Offsets {
		list = append(list, element(o.X, o.Y))
	}
	return list
}

// element returns an arbitrary element with a number of offsets.
func (n *noise) element(count int) impl.Element {
	chosen := map[impl.Spot]bool{}
	for len(chosen) < count {
		chosen[impl.Spot{X: n.below(9) - 4, Y: n.below(9) - 4}] = true
	}
	return elementWhere(func(x, y int64) bool { return chosen[impl.Spot{X: x, Y: y}] })
}

// corners is the element of the offsets that lead farthest.
func corners() impl.Element { return element(-4, -4, 4, -4, -4, 4, 4, 4) }

// sampleElements returns elements with and without 0, 0, of 1 to MaxOffsets offsets.
func sampleElements() []impl.Element {
	list := []impl.Element{
		element(0, 0), element(4, 4), element(-4, -4), element(4, -4), element(-4, 4), element(1, 0), element(0, -1),
		element(0, 0, 1, 0), element(0, 0, 0, 1), element(-1, 0, 1, 0), element(0, -1, 0, 1), element(3, 0, 4, 0), element(-4, -4, -4, -3),
		element(-4, 0, 4, 0), element(0, -4, 0, 4), element(1, 0, 0, 1), corners(),
		elementWhere(func(x, y int64) bool { return x >= 0 && y >= 0 && x < 2 && y < 2 }),
		elementWhere(func(x, y int64) bool { return max(x, -x, y, -y) == 1 }),
		elementWhere(func(x, y int64) bool { return x+y <= 1 && x-y <= 1 && y-x <= 1 && -x-y <= 1 }),
		elementWhere(func(x, y int64) bool { return x <= -2 && y >= 3 }),
		elementWhere(func(x, y int64) bool { return x >= 2 && y <= -3 }),
		elementWhere(func(x, y int64) bool { return y < 1 || y == 1 && x <= 0 }),
		elementWhere(func(x, y int64) bool { return y > -1 || y == -1 && x >= 0 }),
	}
	source := noise(11)
	for _, count := range []int{2, 2, 2, 3, 3, 4, 5, 8, 13, 30, 49, 50} {
		list = append(list, source.element(count))
	}
	return list
}

// grainy returns an arbitrary picture in which one of some pixels has the other colour.
func (n *noise) grainy(width, height, one int64, colour bool) impl.Picture {
	return painted(width, height, func(x, y int64) bool { return (n.below(one) == 0) != colour })
}

// shapePictures returns pictures that elements fit into, and pictures that they do not.
func shapePictures() []impl.Picture {
	list := append(fewPictures(), drawn("###/###/..#"), drawn("##.##"), drawn(".#./#.#/.#."))
	source := noise(12)
	for _, size := range [][2]int64{{16, 16}, {16, 9}, {9, 16}, {5, 5}, {8, 3}} {
		list = append(list, painted(size[0], size[1], func(x, y int64) bool { return true }))
		list = append(list, source.grainy(size[0], size[1], 5, true), source.grainy(size[0], size[1], 20, true), source.grainy(size[0], size[1], 8, false))
	}
	return list
}

// fits reports whether an element fits at x and y.
func fits(p impl.Picture, e impl.Element, x, y int64) bool {
	for _, o := range e.Offsets {
		if !isBlack(p, x+o.X, y+o.Y) {
			return false
		}
	}
	return true
}

// hits reports whether an element leads from x and y to a black pixel.
func hits(p impl.Picture, e impl.Element, x, y int64) bool {
	for _, o := range e.Offsets {
		if isBlack(p, x+o.X, y+o.Y) {
			return true
		}
	}
	return false
}

func dilated(p impl.Picture, e impl.Element) impl.Picture {
	return painted(widthOf(p), heightOf(p), func(x, y int64) bool {
		return slices.ContainsFunc(e.Offsets, func(o impl.Spot) bool { return isBlack(p, x-o.X, y-o.Y) })
	})
}

func eroded(p impl.Picture, e impl.Element) impl.Picture {
	return painted(widthOf(p), heightOf(p), func(x, y int64) bool { return fits(p, e, x, y) })
}

func opened(p impl.Picture, e impl.Element) impl.Picture {
	return painted(widthOf(p), heightOf(p), func(x, y int64) bool {
		return slices.ContainsFunc(e.Offsets, func(o impl.Spot) bool { return fits(p, e, x-o.X, y-o.Y) })
	})
}

func closed(p impl.Picture, e impl.Element) impl.Picture {
	return painted(widthOf(p), heightOf(p), func(x, y int64) bool {
		return !slices.ContainsFunc(e.Offsets, func(o impl.Spot) bool {
			return !slices.ContainsFunc(e.Offsets, func(q impl.Spot) bool { return isBlack(p, x+o.X-q.X, y+o.Y-q.Y) })
		})
	})
}

func TestChapter3Examples(t *testing.T) {
	square := element(0, 0, 1, 0, 0, 1, 1, 1)
	expect(t, "SquareElement", results(impl.SquareElement(2)), square, true)
	expect(t, "OpenPicture", results(impl.OpenPicture(drawn("###/###/..#"), square)), drawn("###/###/..."), true)
	line, column := element(0, 0, 1, 0), element(0, 0, 0, 1)
	expect(t, "SumElements", results(impl.SumElements(line, column)), square, true)
	a, b, ok := impl.FactorElement(square)
	expect(t, "FactorElement", results(a, b, ok), line, column, true)
}

func TestLimitsOfChapter3(t *testing.T) {
	expect(t, "limits", results(int64(impl.MaxReach), int64(impl.MaxOffsets)), 4, 50)
}

func TestValidElement(t *testing.T) {
	for _, e := range append(sampleElements(), singleOffsets()...) {
		if !impl.ValidElement(e) {
			t.Errorf("%v must be valid", e)
		}
	}
	for _, e := range badElements() {
		if impl.ValidElement(e) {
			t.Errorf("%d offsets must not be valid: %v", len(e.Offsets), e.Offsets[:min(len(e.Offsets), 9)])
		}
	}
}

func TestSquareElementOfEachSize(t *testing.T) {
	expect(t, "SquareElement 1", results(impl.SquareElement(1)), element(0, 0), true)
	for size := int64(1); size <= 5; size++ {
		want := elementWhere(func(x, y int64) bool { return x >= 0 && x < size && y >= 0 && y < size })
		// A size of 5 needs all offsets up to MaxReach.
		if int64(len(want.Offsets)) != size*size {
			t.Fatalf("the square of %d has %d offsets", size, len(want.Offsets))
		}
		expect(t, fmt.Sprint("SquareElement ", size), results(impl.SquareElement(size)), want, true)
	}
}

func TestCrossElementOfEachReach(t *testing.T) {
	expect(t, "CrossElement 0", results(impl.CrossElement(0)), element(0, 0), true)
	expect(t, "CrossElement 1", results(impl.CrossElement(1)), element(0, -1, -1, 0, 0, 0, 1, 0, 0, 1), true)
	for reach := int64(0); reach <= 4; reach++ {
		want := elementWhere(func(x, y int64) bool { return x+y <= reach && x-y <= reach && y-x <= reach && -x-y <= reach })
		if int64(len(want.Offsets)) != 2*reach*(reach+1)+1 {
			t.Fatalf("the cross of %d has %d offsets", reach, len(want.Offsets))
		}
		expect(t, fmt.Sprint("CrossElement ", reach), results(impl.CrossElement(reach)), want, true)
	}
}

func TestMirrorElement(t *testing.T) {
	expect(t, "MirrorElement", results(impl.MirrorElement(element(0, 0, 1, 0, -3, 2))), element(3, -2, -1, 0, 0, 0), true)
	for _, e := range append(sampleElements(), singleOffsets()...) {
		want := elementWhere(func(x, y int64) bool { return slices.Contains(e.Offsets, impl.Spot{X: -x, Y: -y}) })
		got, ok := impl.MirrorElement(e)
		expect(t, fmt.Sprint("MirrorElement ", e), results(got, ok), want, true)
		expect(t, fmt.Sprint("MirrorElement twice ", e), results(impl.MirrorElement(got)), e, true)
	}
}

// summed returns the element of the sums, and whether it is valid.
func summed(a, b impl.Element) (impl.Element, bool) {
	var sum impl.Element
	for y := int64(-8); y <= 8; y++ {
		for x := int64(-8); x <= 8; x++ {
			made := slices.ContainsFunc(a.Offsets, func(o impl.Spot) bool {
				return slices.Contains(b.Offsets, impl.Spot{X: x - o.X, Y: y - o.Y})
			})
			if made && max(x, -x, y, -y) > 4 {
				return impl.Element{}, false
			}
			if made {
				sum.Offsets = append(sum.Offsets, impl.Spot{X: x, Y: y})
			}
		}
	}
	if len(sum.Offsets) > 50 {
		return impl.Element{}, false
	}
	return sum, true
}

func checkSum(t *testing.T, a, b impl.Element) {
	t.Helper()
	want, ok := summed(a, b)
	expect(t, fmt.Sprint("SumElements ", a, b), results(impl.SumElements(a, b)), want, ok)
	expect(t, fmt.Sprint("SumElements ", b, a), results(impl.SumElements(b, a)), want, ok)
}

func TestSumElementsAsDefined(t *testing.T) {
	for _, a := range sampleElements() {
		for _, b := range sampleElements() {
			checkSum(t, a, b)
		}
	}
	for _, a := range singleOffsets() {
		for _, b := range singleOffsets() {
			checkSum(t, a, b)
		}
	}
	source := noise(13)
	small := func() impl.Element {
		count := int(source.below(6)) + 1
		chosen := source.element(count)
		return elementWhere(func(x, y int64) bool {
			return slices.ContainsFunc(chosen.Offsets, func(o impl.Spot) bool { return o.X/2 == x && o.Y/2 == y })
		})
	}
	for range 300 {
		checkSum(t, small(), small())
	}
}

func TestSumsAtTheLimits(t *testing.T) {
	expect(t, "to one end", results(impl.SumElements(element(-2, -1, 1, 1), element(-2, -3, 3, 3))), element(-4, -4, -1, -2, 1, 2, 4, 4), true)
	for _, sum := range [][2]impl.Element{
		{element(4, 0), element(1, 0)}, {element(-4, 0), element(-1, 0)}, {element(0, 4), element(0, 1)}, {element(0, -4), element(0, -1)},
		{element(0, 0, 4, 0), element(0, 0, 1, 0)}, {corners(), corners()}, {element(0, -1), element(0, -4, 0, 0)},
	} {
		expectFailure(t, fmt.Sprint("SumElements beyond MaxReach ", sum), results(impl.SumElements(sum[0], sum[1])))
	}
	double := element(0, 0, 0, 1)
	fifty := elementWhere(func(x, y int64) bool { return y == -4 || y == -2 || y == 0 && x <= 2 })
	got, ok := impl.SumElements(fifty, double)
	if !ok || len(got.Offsets) != 50 {
		t.Errorf("a sum with MaxOffsets offsets: got %v %v", got, ok)
	}
	more := elementWhere(func(x, y int64) bool {
		return slices.Contains(fifty.Offsets, impl.Spot{X: x, Y: y}) || x == 0 && y == 1
	})
	expectFailure(t, "SumElements with one offset more than MaxOffsets", results(impl.SumElements(more, double)))
}

// factors returns the factors of an element by trying all other offsets.
func factors(e impl.Element) (impl.Element, impl.Element, bool) {
	for _, other := range elementWhere(func(x, y int64) bool { return y > 0 || y == 0 && x > 0 }).Offsets {
		b := elementWhere(func(x, y int64) bool {
			return slices.Contains(e.Offsets, impl.Spot{X: x, Y: y}) && slices.Contains(e.Offsets, impl.Spot{X: x + other.X, Y: y + other.Y})
		})
		a := element(0, 0, other.X, other.Y)
		sum, ok := summed(a, b)
		if ok && len(b.Offsets) > 0 && slices.Equal(sum.Offsets, e.Offsets) {
			return a, b, true
		}
	}
	return impl.Element{}, impl.Element{}, false
}

func checkFactors(t *testing.T, e impl.Element) bool {
	t.Helper()
	wantA, wantB, wantOK := factors(e)
	a, b, ok := impl.FactorElement(e)
	expect(t, fmt.Sprint("FactorElement ", e), results(a, b, ok), wantA, wantB, wantOK)
	if ok {
		expect(t, fmt.Sprint("SumElements of the factors of ", e), results(impl.SumElements(a, b)), e, true)
	}
	return ok
}

func TestFactorElementByHand(t *testing.T) {
	tests := []struct{ e, a, b impl.Element }{
		// The line could also be made of 0, 0 and 2, 0, and of fewer offsets.
		{element(0, 0, 1, 0, 2, 0, 3, 0), element(0, 0, 1, 0), element(0, 0, 1, 0, 2, 0)},
		// The other offset 1, 0 does not make these.
		{element(0, 0, 2, 0), element(0, 0, 2, 0), element(0, 0)},
		{element(0, 0, 1, 0, 3, 0, 4, 0), element(0, 0, 1, 0), element(0, 0, 3, 0)},
		{element(0, 0, 1, 0, 2, 0, 0, 1, 1, 1, 3, 1), impl.Element{}, impl.Element{}},
		{element(-1, 0, 2, 0, 0, 1, 3, 1), element(0, 0, 3, 0), element(-1, 0, 0, 1)},
		{element(1, 0, 0, 1), element(0, 0, -1, 1), element(1, 0)},
		{element(0, 0, 4, 0), element(0, 0, 4, 0), element(0, 0)},
		{element(4, 0, 0, 1), element(0, 0, -4, 1), element(4, 0)},
		{element(-4, -4, 0, 0), element(0, 0, 4, 4), element(-4, -4)},
		{element(0, 0, 4, 4), element(0, 0, 4, 4), element(0, 0)},
		// What would be the other offset is beyond MaxReach.
		{element(-4, 0, 4, 0), impl.Element{}, impl.Element{}},
		{element(-1, 0, 4, 0), impl.Element{}, impl.Element{}},
		{element(0, -1, 0, 4), impl.Element{}, impl.Element{}},
		{element(0, 0), impl.Element{}, impl.Element{}},
		{element(-4, 4), impl.Element{}, impl.Element{}},
		{element(0, 0, 1, 0, 0, 1), impl.Element{}, impl.Element{}},
	}
	for _, test := range tests {
		a, b, ok := impl.FactorElement(test.e)
		expect(t, fmt.Sprint("FactorElement ", test.e), results(a, b, ok), test.a, test.b, len(test.a.Offsets) > 0)
	}
}

func TestFactorElementAsDefined(t *testing.T) {
	for _, e := range append(sampleElements(), singleOffsets()...) {
		checkFactors(t, e)
	}
	for code := 1; code < 1<<9; code++ {
		for _, corner := range []int64{-4, -1, 2} {
			checkFactors(t, elementWhere(func(x, y int64) bool {
				column, row := x-corner, y-corner
				return column >= 0 && column < 3 && row >= 0 && row < 3 && code>>(3*row+column)&1 == 1
			}))
		}
	}
	source := noise(14)
	made := 0
	for range 2000 {
		e, ok := summed(source.element(2), source.element(int(source.below(4))+1))
		if ok && checkFactors(t, e) {
			made++
		}
	}
	if made < 20 {
		t.Errorf("only %d arbitrary elements have factors", made)
	}
}

func TestPicturesChangedAsDefined(t *testing.T) {
	for _, p := range shapePictures() {
		for _, e := range sampleElements() {
			what := fmt.Sprintf(" %q %v", p.Rows, e.Offsets)
			expect(t, "DilatePicture"+what, results(impl.DilatePicture(p, e)), dilated(p, e), true)
			expect(t, "ErodePicture"+what, results(impl.ErodePicture(p, e)), eroded(p, e), true)
			expect(t, "OpenPicture"+what, results(impl.OpenPicture(p, e)), opened(p, e), true)
			expect(t, "ClosePicture"+what, results(impl.ClosePicture(p, e)), closed(p, e), true)
		}
	}
	for _, p := range allPictures(3, 3) {
		for _, e := range sampleElements()[:20] {
			what := fmt.Sprintf(" %q %v", p.Rows, e.Offsets)
			expect(t, "OpenPicture"+what, results(impl.OpenPicture(p, e)), opened(p, e), true)
			expect(t, "ClosePicture"+what, results(impl.ClosePicture(p, e)), closed(p, e), true)
		}
	}
}

func TestOneOffsetShifts(t *testing.T) {
	for _, p := range shapePictures() {
		for _, e := range singleOffsets() {
			o := e.Offsets[0]
			what := fmt.Sprintf(" %q %v", p.Rows, o)
			forth := painted(widthOf(p), heightOf(p), func(x, y int64) bool { return isBlack(p, x-o.X, y-o.Y) })
			back := painted(widthOf(p), heightOf(p), func(x, y int64) bool { return isBlack(p, x+o.X, y+o.Y) })
			expect(t, "DilatePicture"+what, results(impl.DilatePicture(p, e)), forth, true)
			expect(t, "ErodePicture"+what, results(impl.ErodePicture(p, e)), back, true)
			// Nothing is lost at the edge, although the spots lie outside.
			expect(t, "OpenPicture"+what, results(impl.OpenPicture(p, e)), p, true)
			expect(t, "ClosePicture"+what, results(impl.ClosePicture(p, e)), p, true)
		}
	}
}

func TestOffsetsThatLeaveThePicture(t *testing.T) {
	pixel, blank := drawn("#"), drawn(".")
	for _, e := range singleOffsets() {
		want := blank
		if e.Offsets[0] == (impl.Spot{}) {
			want = pixel
		}
		expect(t, fmt.Sprint("DilatePicture # ", e), results(impl.DilatePicture(pixel, e)), want, true)
		expect(t, fmt.Sprint("ErodePicture # ", e), results(impl.ErodePicture(pixel, e)), want, true)
	}
	expect(t, "opening by a line that leads outside", results(impl.OpenPicture(drawn("##"), element(3, 0, 4, 0))), drawn("##"), true)
	expect(t, "opening by a line that leads outside on the left", results(impl.OpenPicture(drawn("##.#"), element(-4, 0, -3, 0))), drawn("##.."), true)
	expect(t, "opening of an edge", results(impl.OpenPicture(drawn("##"), element(-1, 0, 0, 0, 1, 0))), drawn(".."), true)
	expect(t, "erosion at the edge", results(impl.ErodePicture(drawn("###/###/###"), element(0, -1, -1, 0, 0, 0, 1, 0, 0, 1))), drawn(".../.#./..."), true)
	expect(t, "closing over the outside", results(impl.ClosePicture(drawn("#.#/..."), element(0, -2, 1, -2))), drawn("###/..."), true)
	expect(t, "closing at the edge", results(impl.ClosePicture(drawn("#.#"), element(-4, 0, 4, 0))), drawn("#.#"), true)
	expect(t, "closing above the picture", results(impl.ClosePicture(drawn("#/./#"), element(0, -4, 0, -3))), drawn("#/#/#"), true)
	expect(t, "closing below the picture", results(impl.ClosePicture(drawn("#/./#"), element(0, 3, 0, 4))), drawn("#/#/#"), true)
	black := painted(16, 16, func(x, y int64) bool { return true })
	for _, e := range sampleElements() {
		expect(t, fmt.Sprint("closing of a black picture by ", e), results(impl.ClosePicture(black, e)), black, true)
	}
}

func TestOpeningsAreInsideAndClosingsContain(t *testing.T) {
	for _, p := range shapePictures() {
		for _, e := range sampleElements() {
			what := fmt.Sprintf("%q %v", p.Rows, e.Offsets)
			open, _ := impl.OpenPicture(p, e)
			if !impl.IsInside(open, p) {
				t.Errorf("the opening is not inside: %s", what)
			}
			expect(t, "the opening of an opening "+what, results(impl.OpenPicture(open, e)), open, true)
			shut, _ := impl.ClosePicture(p, e)
			if !impl.IsInside(p, shut) {
				t.Errorf("the closing does not contain: %s", what)
			}
			expect(t, "the closing of a closing "+what, results(impl.ClosePicture(shut, e)), shut, true)
		}
	}
}

// checkGrowth compares growing by two elements with growing by their sum.
func checkGrowth(t *testing.T, p impl.Picture, a, b, sum impl.Element) {
	t.Helper()
	first, _ := impl.DilatePicture(p, a)
	both, ok := impl.DilatePicture(first, b)
	expect(t, fmt.Sprintf("DilatePicture %q by %v and %v", p.Rows, a, b), results(impl.DilatePicture(p, sum)), both, ok)
}

func TestSumsGrowAsBoth(t *testing.T) {
	source := noise(15)
	// What an offset leads to from the middle is inside of the picture.
	middle := painted(16, 16, func(x, y int64) bool { return min(x, y) >= 4 && max(x, y) < 12 && source.below(6) == 0 })
	for _, a := range sampleElements() {
		for _, b := range sampleElements() {
			if sum, ok := impl.SumElements(a, b); ok {
				checkGrowth(t, middle, a, b, sum)
			}
		}
	}
	for size := int64(2); size <= 5; size++ {
		square, _ := impl.SquareElement(size)
		a, b, ok := impl.FactorElement(square)
		if !ok {
			t.Fatalf("the square of %d has no factors", size)
		}
		for _, p := range shapePictures() {
			checkGrowth(t, p, a, b, square)
		}
	}
}

func TestFitsAtEachSpot(t *testing.T) {
	black := painted(16, 16, func(x, y int64) bool { return true })
	elements := []impl.Element{element(0, 0), corners(), element(0, 0, 1, 0, 0, 1, 1, 1), element(4, 4), element(-4, -4), element(-1, 0, 1, 0)}
	for _, p := range []impl.Picture{black, drawn("###/###/..#"), drawn("#"), shapePictures()[5]} {
		for _, e := range elements {
			for y := int64(-17); y <= 33; y++ {
				for x := int64(-17); x <= 33; x++ {
					if got := impl.FitsAt(p, e, impl.Spot{X: x, Y: y}); got != fits(p, e, x, y) {
						t.Fatalf("FitsAt %q %v %d, %d: got %v", p.Rows, e, x, y, got)
					}
				}
			}
		}
	}
	for _, p := range shapePictures() {
		for _, e := range sampleElements() {
			for _, s := range []impl.Spot{{}, {X: 2, Y: 1}, {X: -1}, {Y: -1}, {X: -4, Y: -4}, {X: widthOf(p)}, {Y: heightOf(p)}, {X: 19, Y: 19}} {
				if got := impl.FitsAt(p, e, s); got != fits(p, e, s.X, s.Y) {
					t.Fatalf("FitsAt %q %v %v: got %v", p.Rows, e, s, got)
				}
			}
		}
	}
}

func TestFitsAtSpotsOutside(t *testing.T) {
	black := painted(16, 16, func(x, y int64) bool { return true })
	tests := []struct {
		e    impl.Element
		at   impl.Spot
		want bool
	}{
		{element(4, 4), impl.Spot{X: -4, Y: -4}, true},
		{element(4, 4), impl.Spot{X: -5, Y: -4}, false},
		{element(-4, -4), impl.Spot{X: 19, Y: 19}, true},
		{element(-4, -4), impl.Spot{X: 19, Y: 20}, false},
		{element(4, -4), impl.Spot{X: -4, Y: 19}, true},
		{element(0, 0), impl.Spot{X: 15, Y: 15}, true},
		{element(0, 0), impl.Spot{X: 16, Y: 15}, false},
		{element(4, 4), impl.Spot{X: -16, Y: -16}, false},
		{element(-4, -4), impl.Spot{X: 32, Y: 32}, false},
		{element(4, 0), impl.Spot{X: -17, Y: 0}, false},
		{element(-4, 0), impl.Spot{X: 33, Y: 0}, false},
	}
	for _, test := range tests {
		if got := impl.FitsAt(black, test.e, test.at); got != test.want {
			t.Errorf("FitsAt %v %v: got %v", test.e, test.at, got)
		}
	}
}

func TestHitOrMissAsDefined(t *testing.T) {
	elements := sampleElements()
	for i, p := range shapePictures() {
		for j, hit := range elements {
			for _, miss := range []impl.Element{elements[(j+1)%len(elements)], elements[(7*j+i)%len(elements)], elements[i%len(elements)], corners()} {
				want := painted(widthOf(p), heightOf(p), func(x, y int64) bool { return fits(p, hit, x, y) && !hits(p, miss, x, y) })
				expect(t, fmt.Sprintf("HitOrMiss %q %v %v", p.Rows, hit, miss), results(impl.HitOrMiss(p, hit, miss)), want, true)
			}
		}
	}
}

func TestHitOrMissByHand(t *testing.T) {
	pixel := element(0, 0)
	around := elementWhere(func(x, y int64) bool { return max(x, -x, y, -y) == 1 })
	expect(t, "single pixels", results(impl.HitOrMiss(drawn("#..##/...../..#../#...#"), pixel, around)), drawn("#..../...../..#../#...#"), true)
	expect(t, "left ends", results(impl.HitOrMiss(drawn("##.#"), pixel, element(-1, 0))), drawn("#..#"), true)
	expect(t, "before left ends", results(impl.HitOrMiss(drawn(".##.#"), element(1, 0), pixel)), drawn("#..#."), true)
	for _, p := range shapePictures() {
		blank := painted(widthOf(p), heightOf(p), func(x, y int64) bool { return false })
		for _, e := range sampleElements() {
			common := element(e.Offsets[0].X, e.Offsets[0].Y)
			expect(t, fmt.Sprintf("HitOrMiss %q with the common %v", p.Rows, common), results(impl.HitOrMiss(p, e, common)), blank, true)
			expect(t, fmt.Sprintf("HitOrMiss %q with the same %v", p.Rows, e), results(impl.HitOrMiss(p, e, e)), blank, true)
		}
	}
}

func TestSizesOf(t *testing.T) {
	expect(t, "SizesOf", results(impl.SizesOf(drawn("###/###/..#"))), []int64{7, 6, 0, 0, 0}, true)
	expect(t, "SizesOf white", results(impl.SizesOf(drawn("..../...."))), []int64{0, 0, 0, 0, 0}, true)
	expect(t, "SizesOf a square of 5", results(impl.SizesOf(drawn("#####/#####/#####/#####/#####"))), []int64{25, 25, 25, 25, 25}, true)
	expect(t, "SizesOf a square of 4", results(impl.SizesOf(drawn("####./####./####./####./....#"))), []int64{17, 16, 16, 16, 0}, true)
	for _, p := range append(samplePictures(), shapePictures()...) {
		var want []int64
		for size := int64(1); size <= 5; size++ {
			open := opened(p, elementWhere(func(x, y int64) bool { return min(x, y) >= 0 && max(x, y) < size }))
			want = append(want, int64(strings.Count(strings.Join(open.Rows, ""), "#")))
		}
		got, ok := impl.SizesOf(p)
		expect(t, fmt.Sprintf("SizesOf %q", p.Rows), results(got, ok), want, true)
		if !slices.IsSortedFunc(got, func(a, b int64) int { return int(b - a) }) {
			t.Errorf("SizesOf %q become greater: %v", p.Rows, got)
		}
	}
}

// reached returns the spots that are reached from one over neighbours for which a rule holds.
func reached(from impl.Spot, eight bool, rule func(x, y int64) bool) map[impl.Spot]bool {
	found := map[impl.Spot]bool{}
	work := []impl.Spot{from}
	for len(work) > 0 {
		s := work[len(work)-1]
		work = work[:len(work)-1]
		if found[s] || !rule(s.X, s.Y) {
			continue
		}
		found[s] = true
		work = append(work, impl.Spot{X: s.X + 1, Y: s.Y}, impl.Spot{X: s.X - 1, Y: s.Y}, impl.Spot{X: s.X, Y: s.Y + 1}, impl.Spot{X: s.X, Y: s.Y - 1})
		if eight {
			work = append(work, impl.Spot{X: s.X + 1, Y: s.Y + 1}, impl.Spot{X: s.X - 1, Y: s.Y - 1}, impl.Spot{X: s.X - 1, Y: s.Y + 1}, impl.Spot{X: s.X + 1, Y: s.Y - 1})
		}
	}
	return found
}

func reconstructed(marker, mask impl.Picture, eight bool) impl.Picture {
	all := map[impl.Spot]bool{}
	for y := range heightOf(mask) {
		for x := range widthOf(mask) {
			if isBlack(marker, x, y) {
				for s := range reached(impl.Spot{X: x, Y: y}, eight, func(x, y int64) bool { return isBlack(mask, x, y) }) {
					all[s] = true
				}
			}
		}
	}
	return painted(widthOf(mask), heightOf(mask), func(x, y int64) bool { return all[impl.Spot{X: x, Y: y}] })
}

// filled returns a picture in which each white pixel is black from which no spot outside is reached.
func filled(p impl.Picture, eight bool) impl.Picture {
	return painted(widthOf(p), heightOf(p), func(x, y int64) bool {
		around := func(x, y int64) bool {
			return x >= -1 && x <= widthOf(p) && y >= -1 && y <= heightOf(p) && !isBlack(p, x, y)
		}
		return !reached(impl.Spot{X: x, Y: y}, !eight, around)[impl.Spot{X: -1, Y: -1}]
	})
}

// longWays returns pictures of one way that is as long as can be: a spiral, a snake, and a line over corners.
func longWays() []impl.Picture {
	spiral := painted(16, 16, func(x, y int64) bool { return false })
	x, y, dx, dy := int64(0), int64(0), int64(1), int64(0)
	for turns := 0; turns < 2; {
		spiral, _ = impl.SetPixel(spiral, x, y, true)
		ahead := isBlack(spiral, x+dx, y+dy) || isBlack(spiral, x+2*dx, y+2*dy)
		if ahead || x+dx < 0 || x+dx > 15 || y+dy < 0 || y+dy > 15 {
			dx, dy = -dy, dx
			turns++
			continue
		}
		x, y, turns = x+dx, y+dy, 0
	}
	snake := painted(15, 16, func(x, y int64) bool { return y%2 == 0 || y%4 == 1 && x == 14 || y%4 == 3 && x == 0 })
	return []impl.Picture{spiral, snake, painted(16, 16, func(x, y int64) bool { return x == y })}
}

func TestReconstructPictureAsDefined(t *testing.T) {
	for _, eight := range []bool{false, true} {
		for _, marker := range allPictures(3, 2) {
			for _, mask := range allPictures(3, 2) {
				what := fmt.Sprintf("ReconstructPicture %q %q %v", marker.Rows, mask.Rows, eight)
				expect(t, what, results(impl.ReconstructPicture(marker, mask, eight)), reconstructed(marker, mask, eight), true)
			}
		}
		source := noise(16)
		for _, mask := range append(append(samplePictures(), longWays()...), shapePictures()...) {
			for _, one := range []int64{2, 12, 60} {
				marker := source.grainy(widthOf(mask), heightOf(mask), one, false)
				what := fmt.Sprintf("ReconstructPicture %q %q %v", marker.Rows, mask.Rows, eight)
				got, ok := impl.ReconstructPicture(marker, mask, eight)
				expect(t, what, results(got, ok), reconstructed(marker, mask, eight), true)
				expect(t, what+" again", results(impl.ReconstructPicture(got, mask, eight)), got, true)
			}
		}
	}
}

func TestReconstructPictureByHand(t *testing.T) {
	tests := []struct {
		marker, mask, four, eight string
	}{
		{"#....", "##.##", "##...", "##..."},
		{"#../.../...", "#../.#./..#", "#../.../...", "#../.#./..#"},
		{"..#/.../...", "..#/.#./#..", "..#/.../...", "..#/.#./#.."},
		// A black pixel of the marker that the mask does not have leads nowhere.
		{".#.", "#.#", "...", "..."},
		{".##", "#.#", "..#", "..#"},
		{"##/..", "../##", "../..", "../.."},
		{"#...", "....", "....", "...."},
		{"....", "####", "....", "...."},
		{"####", "####", "####", "####"},
		{"...#", "####", "####", "####"},
		{"#", "#", "#", "#"},
	}
	for _, test := range tests {
		marker, mask := drawn(test.marker), drawn(test.mask)
		expect(t, "ReconstructPicture "+test.marker+" "+test.mask, results(impl.ReconstructPicture(marker, mask, false)), drawn(test.four), true)
		expect(t, "ReconstructPicture eight "+test.marker+" "+test.mask, results(impl.ReconstructPicture(marker, mask, true)), drawn(test.eight), true)
	}
	for i, way := range longWays() {
		start := painted(widthOf(way), heightOf(way), func(x, y int64) bool { return x == 0 && y == 0 })
		want := way
		if i == 2 {
			want = start
		}
		expect(t, fmt.Sprint("the long way ", i), results(impl.ReconstructPicture(start, way, false)), want, true)
		expect(t, fmt.Sprint("the long way over eight neighbours ", i), results(impl.ReconstructPicture(start, way, true)), way, true)
	}
}

func TestFillHolesByHand(t *testing.T) {
	tests := []struct {
		text, four, eight string
	}{
		// The hole is open over corners only.
		{".#./#.#/.#.", ".#./#.#/.#.", ".#./###/.#."},
		{"###/#.#/##.", "###/#.#/##.", "###/###/##."},
		{"##./#.#/###", "##./#.#/###", "##./###/###"},
		{"###/#.#/###", "###/###/###", "###/###/###"},
		// White pixels of the edge are no holes.
		{"#.#/#.#/###", "#.#/#.#/###", "#.#/#.#/###"},
		{"###/..#/###", "###/..#/###", "###/..#/###"},
		{".##/###/###", ".##/###/###", ".##/###/###"},
		{"##/##", "##/##", "##/##"},
		{".", ".", "."}, {"#", "#", "#"}, {"#.#", "#.#", "#.#"}, {"#/./#", "#/./#", "#/./#"},
		// Two holes meet in a corner, and neither is open.
		{"####/#.##/##.#/####", "####/####/####/####", "####/####/####/####"},
		{"####/#.##/##.#/###.", "####/#.##/##.#/###.", "####/####/####/###."},
		// What is in a hole stays black.
		{"#####/#...#/#.#.#/#...#/#####", "#####/#####/#####/#####/#####", "#####/#####/#####/#####/#####"},
	}
	for _, test := range tests {
		expect(t, "FillHoles "+test.text, results(impl.FillHoles(drawn(test.text), false)), drawn(test.four), true)
		expect(t, "FillHoles eight "+test.text, results(impl.FillHoles(drawn(test.text), true)), drawn(test.eight), true)
	}
}

func TestFillHolesAsDefined(t *testing.T) {
	pictures := append(append(samplePictures(), shapePictures()...), longWays()...)
	for _, way := range longWays() {
		inverse, _ := impl.InvertPicture(way)
		pictures = append(pictures, inverse)
	}
	source := noise(17)
	for range 300 {
		pictures = append(pictures, source.grainy(5, 5, 3, true), source.grainy(7, 6, 3, true))
	}
	for _, p := range pictures {
		for _, eight := range []bool{false, true} {
			what := fmt.Sprintf("FillHoles %q %v", p.Rows, eight)
			got, ok := impl.FillHoles(p, eight)
			expect(t, what, results(got, ok), filled(p, eight), true)
			expect(t, what+" again", results(impl.FillHoles(got, eight)), got, true)
		}
	}
}
