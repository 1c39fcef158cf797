package tests

import (
	"fmt"
	"reflect"
	"slices"
	"testing"

	"loop.example/g01165/impl"
)

// The tests in this file are those of promise 1 for chapter 3: every function returns for all
// arguments, modifies none of them, and returns equal results, in new memory, for equal arguments.

// factorElement collects the results of FactorElement.
func factorElement(e impl.Element) []any {
	a, b, ok := impl.FactorElement(e)
	return results(a, b, ok)
}

// shapeCall is a call of a function of chapter 3 with a picture and an element.
type shapeCall struct {
	name string
	of   func(p impl.Picture, e impl.Element) []any
}

// elementCalls are the functions that need a valid element, and a valid picture if they have one.
func elementCalls() []shapeCall {
	good := element(0, 0)
	return []shapeCall{
		{"ValidElement", func(p impl.Picture, e impl.Element) []any { return results(impl.ValidElement(e)) }},
		{"MirrorElement", func(p impl.Picture, e impl.Element) []any { return results(impl.MirrorElement(e)) }},
		{"SumElements first", func(p impl.Picture, e impl.Element) []any { return results(impl.SumElements(e, good)) }},
		{"SumElements second", func(p impl.Picture, e impl.Element) []any { return results(impl.SumElements(good, e)) }},
		{"SumElements both", func(p impl.Picture, e impl.Element) []any { return results(impl.SumElements(e, e)) }},
		{"FactorElement", func(p impl.Picture, e impl.Element) []any { return factorElement(e) }},
	}
}

// changeCalls are the functions that need a valid picture and a valid element.
func changeCalls() []shapeCall {
	good := element(0, 0)
	return []shapeCall{
		{"DilatePicture", func(p impl.Picture, e impl.Element) []any { return results(impl.DilatePicture(p, e)) }},
		{"ErodePicture", func(p impl.Picture, e impl.Element) []any { return results(impl.ErodePicture(p, e)) }},
		{"OpenPicture", func(p impl.Picture, e impl.Element) []any { return results(impl.OpenPicture(p, e)) }},
		{"ClosePicture", func(p impl.Picture, e impl.Element) []any { return results(impl.ClosePicture(p, e)) }},
		{"FitsAt", func(p impl.Picture, e impl.Element) []any { return results(impl.FitsAt(p, e, impl.Spot{})) }},
		{"HitOrMiss hit", func(p impl.Picture, e impl.Element) []any { return results(impl.HitOrMiss(p, e, good)) }},
		{"HitOrMiss miss", func(p impl.Picture, e impl.Element) []any { return results(impl.HitOrMiss(p, good, e)) }},
		{"HitOrMiss both", func(p impl.Picture, e impl.Element) []any { return results(impl.HitOrMiss(p, e, e)) }},
	}
}

// fillCalls are the functions with pictures alone.
func fillCalls() []aCall {
	calls := []aCall{{"SizesOf", func(p impl.Picture) []any { return results(impl.SizesOf(p)) }}}
	for _, eight := range []bool{false, true} {
		calls = append(calls,
			aCall{fmt.Sprint("FillHoles ", eight), func(p impl.Picture) []any { return results(impl.FillHoles(p, eight)) }},
			aCall{fmt.Sprint("ReconstructPicture ", eight), func(p impl.Picture) []any { return results(impl.ReconstructPicture(p, p, eight)) }})
	}
	return calls
}

// firstOffsets returns the first ones of all offsets, in order.
func firstOffsets(count int) impl.Element {
	all := elementWhere(func(x, y int64) bool { return true })
	return impl.Element{Offsets: all.Offsets[:count]}
}

// badElements returns values that are no elements.
func badElements() []impl.Element {
	list := []impl.Element{
		{}, {Offsets: []impl.Spot{}}, {Offsets: make([]impl.Spot, 0, 9)},
		firstOffsets(51), firstOffsets(52), firstOffsets(81), {Offsets: make([]impl.Spot, 51)}, {Offsets: make([]impl.Spot, 1000000)},
		// Out of order.
		element(1, 0, 0, 0), element(0, 1, 0, 0), element(0, 1, 1, 0), element(0, 0, -1, 0), element(0, 0, 0, -1), element(0, 0, 4, -1),
		element(0, 0, 0, 1, 1, 0, 1, 1), element(0, 0, 1, 0, 1, 1, 0, 1), element(0, 0, 2, 0, 1, 0), element(-4, 0, 4, -4),
		// Twice.
		element(0, 0, 0, 0), element(4, 4, 4, 4), element(0, 0, 1, 0, 1, 0), element(0, 0, 0, 0, 1, 0), element(0, 0, 1, 0, 0, 0), {Offsets: make([]impl.Spot, 50)},
	}
	for _, n := range []int64{-5, 5, 8, -8, 9, 16, 1 << 32, -1 << 32, 1<<32 + 1, 1 << 62, leastInt, leastInt + 1, greatestInt, greatestInt - 1} {
		list = append(list, element(n, 0), element(0, n), element(n, n), element(n, -n))
		if n > 0 {
			list = append(list, element(0, 0, n, 0), element(0, 0, 0, n), element(-4, -4, 0, 0, n, 4), element(n, 0, 0, 1))
		} else {
			list = append(list, element(n, 0, 0, 0), element(0, n, 0, 0), element(0, 0, n, 1), element(-4, n, 4, 4))
		}
	}
	return list
}

func TestNoElementFailsEverywhere(t *testing.T) {
	for _, bad := range badElements() {
		// Some of them are too long to be told whole.
		what := fmt.Sprint(" ", len(bad.Offsets), " offsets ", bad.Offsets[:min(len(bad.Offsets), 9)])
		for _, p := range []impl.Picture{drawn("#"), drawn("."), drawn("###/###/..#"), painted(16, 16, func(x, y int64) bool { return true })} {
			for _, call := range append(elementCalls(), changeCalls()...) {
				expectFailure(t, call.name+what, call.of(p, bad))
			}
		}
	}
}

func TestNoPictureFailsInChapter3(t *testing.T) {
	elements := []impl.Element{element(0, 0), element(4, 4), element(0, 0, 1, 0), corners(), firstOffsets(50)}
	for _, bad := range badPictures() {
		for _, call := range changeCalls() {
			for _, e := range append(elements, badElements()...) {
				expectFailure(t, fmt.Sprintf("%s %q", call.name, bad.Rows), call.of(bad, e))
			}
		}
		for _, call := range fillCalls() {
			expectFailure(t, fmt.Sprintf("%s %q", call.name, bad.Rows), call.of(bad))
		}
		for _, good := range []impl.Picture{drawn("#"), drawn("##/##"), drawn("#/#"), drawn("."), painted(16, 16, func(x, y int64) bool { return true })} {
			for _, eight := range []bool{false, true} {
				what := fmt.Sprintf("ReconstructPicture %q %q", good.Rows, bad.Rows)
				expectFailure(t, what, results(impl.ReconstructPicture(good, bad, eight)))
				expectFailure(t, what, results(impl.ReconstructPicture(bad, good, eight)))
			}
		}
	}
}

func TestReconstructionOfDifferentSizesFails(t *testing.T) {
	texts := []string{"#", "##", "#/#", "##/##", "###/###", "##/##/##", "################"}
	for _, marker := range texts {
		for _, mask := range texts {
			for _, eight := range []bool{false, true} {
				got := results(impl.ReconstructPicture(drawn(marker), drawn(mask), eight))
				if marker == mask {
					expect(t, "ReconstructPicture "+mask, got, drawn(mask), true)
				} else {
					expectFailure(t, "ReconstructPicture "+marker+" "+mask, got)
				}
			}
		}
	}
}

func TestSizesAndReachesOutsideFail(t *testing.T) {
	for _, n := range append([]int64{-1, -2, -5, 6, 7, 8, 9, 16}, farNumbers...) {
		expectFailure(t, fmt.Sprint("SquareElement ", n), results(impl.SquareElement(n)))
		expectFailure(t, fmt.Sprint("CrossElement ", n), results(impl.CrossElement(n)))
	}
	expectFailure(t, "SquareElement 0", results(impl.SquareElement(0)))
	expectFailure(t, "CrossElement beyond MaxReach", results(impl.CrossElement(5)))
}

func TestNothingFitsAtFarSpots(t *testing.T) {
	black := painted(16, 16, func(x, y int64) bool { return true })
	far := []int64{-16, -17, 32, 33, 1 << 32, -1 << 32, 1<<32 + 1, 1 << 62, greatestInt, greatestInt - 1, greatestInt - 3, greatestInt - 4, leastInt, leastInt + 1, leastInt + 3, leastInt + 4}
	for _, n := range far {
		for _, e := range append(singleOffsets(), corners(), firstOffsets(50)) {
			for _, at := range []impl.Spot{{X: n}, {Y: n}, {X: n, Y: n}, {X: n, Y: -n}, {X: n, Y: 15}, {X: 15, Y: n}} {
				if impl.FitsAt(black, e, at) {
					t.Errorf("FitsAt %v %v", e, at)
				}
			}
		}
	}
}

// withSpareOffsets returns an element with the same offsets, and with offsets behind them in the capacity of the slice.
func withSpareOffsets(e impl.Element) impl.Element {
	offsets := append(append([]impl.Spot{}, e.Offsets...), impl.Spot{X: 7, Y: 7}, impl.Spot{X: 8, Y: 8})
	return impl.Element{Offsets: offsets[:len(e.Offsets)]}
}

func TestChapter3ModifiesNoArgument(t *testing.T) {
	elements := append(sampleElements(), badElements()...)
	for _, p := range append(fewPictures(), drawn("x"), drawn("##/#")) {
		picture := withSpareRows(p)
		rows := slices.Clone(picture.Rows[:cap(picture.Rows)])
		for _, e := range elements {
			if len(e.Offsets) > 100 {
				continue
			}
			given := withSpareOffsets(e)
			offsets := slices.Clone(given.Offsets[:cap(given.Offsets)])
			for _, call := range append(elementCalls(), changeCalls()...) {
				call.of(picture, given)
				if !slices.Equal(given.Offsets[:cap(given.Offsets)], offsets) {
					t.Fatalf("%s modifies %v", call.name, e)
				}
			}
		}
		for _, call := range fillCalls() {
			call.of(picture)
		}
		if !slices.Equal(picture.Rows[:cap(picture.Rows)], rows) {
			t.Fatalf("a function of chapter 3 modifies %q", p.Rows)
		}
	}
}

func TestReconstructionModifiesNoArgument(t *testing.T) {
	marker, mask := withSpareRows(drawn("##./...")), withSpareRows(drawn("#.#/##."))
	beforeMarker, beforeMask := slices.Clone(marker.Rows[:cap(marker.Rows)]), slices.Clone(mask.Rows[:cap(mask.Rows)])
	for _, eight := range []bool{false, true} {
		impl.ReconstructPicture(marker, mask, eight)
	}
	if !slices.Equal(marker.Rows[:cap(marker.Rows)], beforeMarker) || !slices.Equal(mask.Rows[:cap(mask.Rows)], beforeMask) {
		t.Error("ReconstructPicture modifies an argument")
	}
}

func TestChapter3ReturnsNewMemory(t *testing.T) {
	for _, p := range fewPictures() {
		rows := slices.Clone(p.Rows)
		for _, e := range sampleElements() {
			offsets := slices.Clone(e.Offsets)
			for _, call := range append(elementCalls(), changeCalls()...) {
				checkNewMemory(t, fmt.Sprintf("%s %q %v", call.name, p.Rows, e), func() []any { return call.of(p, e) })
				if !slices.Equal(p.Rows, rows) || !slices.Equal(e.Offsets, offsets) {
					t.Fatalf("the result of %s shares memory with its argument", call.name)
				}
			}
		}
		for _, call := range fillCalls() {
			checkNewMemory(t, fmt.Sprintf("%s %q", call.name, p.Rows), func() []any { return call.of(p) })
			if !slices.Equal(p.Rows, rows) {
				t.Fatalf("the result of %s shares memory with its argument", call.name)
			}
		}
	}
	for n := range int64(6) {
		checkNewMemory(t, fmt.Sprint("SquareElement ", n), func() []any { return results(impl.SquareElement(n)) })
		checkNewMemory(t, fmt.Sprint("CrossElement ", n), func() []any { return results(impl.CrossElement(n)) })
	}
}

func TestFactorsShareNoMemory(t *testing.T) {
	for size := int64(2); size <= 5; size++ {
		square, _ := impl.SquareElement(size)
		a, b, _ := impl.FactorElement(square)
		want := fmt.Sprint(b)
		spoil(a)
		if fmt.Sprint(b) != want {
			t.Errorf("the factors of the square of %d share memory", size)
		}
	}
}

func TestAnyElementIsUsedTheSameWayTwice(t *testing.T) {
	source := noise(18)
	pictures := fewPictures()
	for range 3000 {
		var e impl.Element
		for range source.below(5) {
			e.Offsets = append(e.Offsets, impl.Spot{X: source.below(12) - 6, Y: source.below(12) - 6})
		}
		p := pictures[source.below(int64(len(pictures)))]
		valid := impl.ValidElement(e)
		if valid != validAsDefined(e) {
			t.Fatalf("ValidElement %v: got %v", e, valid)
		}
		for _, call := range append(elementCalls(), changeCalls()...) {
			first, second := call.of(p, e), call.of(p, e)
			if !reflect.DeepEqual(first, second) {
				t.Fatalf("%s %q %v: got %v and %v", call.name, p.Rows, e, first, second)
			}
			if !valid {
				expectFailure(t, fmt.Sprint(call.name, e), first)
			}
		}
	}
}

// validAsDefined reports whether an element has the form that the document requires.
func validAsDefined(e impl.Element) bool {
	for i, o := range e.Offsets {
		if max(o.X, o.Y) > 4 || min(o.X, o.Y) < -4 {
			return false
		}
		if i == 0 {
			continue
		}
		last := e.Offsets[i-1]
		if last.Y > o.Y || last.Y == o.Y && last.X >= o.X {
			return false
		}
	}
	return len(e.Offsets) >= 1 && len(e.Offsets) <= 50
}
