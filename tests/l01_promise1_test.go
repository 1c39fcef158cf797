package tests

import (
	"fmt"
	"reflect"
	"slices"
	"testing"

	"loop.example/g01165/impl"
)

// The tests in this file are those of promise 1: every function of chapter 1 returns for all
// arguments, modifies none of them, and returns equal results, in new memory, for equal arguments.

// aCall is a call of a function of chapter 1 with a picture and valid other arguments.
type aCall struct {
	name string
	of   func(p impl.Picture) []any
}

func pictureCalls() []aCall {
	return []aCall{
		{"PixelAt", func(p impl.Picture) []any { return results(impl.PixelAt(p, 0, 0)) }},
		{"SetPixel white", func(p impl.Picture) []any { return results(impl.SetPixel(p, 0, 0, false)) }},
		{"SetPixel black", func(p impl.Picture) []any { return results(impl.SetPixel(p, 0, 0, true)) }},
		{"CountBlack", func(p impl.Picture) []any { return results(impl.CountBlack(p)) }},
		{"SpotsOf", func(p impl.Picture) []any { return results(impl.SpotsOf(p)) }},
		{"InvertPicture", func(p impl.Picture) []any { return results(impl.InvertPicture(p)) }},
		{"JoinPictures", func(p impl.Picture) []any { return results(impl.JoinPictures(1, p, p)) }},
		{"ShiftPicture", func(p impl.Picture) []any { return results(impl.ShiftPicture(p, 0, 0)) }},
		{"ShiftPicture by 1", func(p impl.Picture) []any { return results(impl.ShiftPicture(p, 1, 1)) }},
		{"TurnPicture 0", func(p impl.Picture) []any { return results(impl.TurnPicture(p, 0)) }},
		{"TurnPicture 1", func(p impl.Picture) []any { return results(impl.TurnPicture(p, 1)) }},
		{"TurnPicture 2", func(p impl.Picture) []any { return results(impl.TurnPicture(p, 2)) }},
		{"TurnPicture 3", func(p impl.Picture) []any { return results(impl.TurnPicture(p, 3)) }},
		{"BoxOf", func(p impl.Picture) []any {
			low, high, ok := impl.BoxOf(p)
			return results(low, high, ok)
		}},
		{"CropPicture", func(p impl.Picture) []any { return results(impl.CropPicture(p, impl.Spot{}, 1, 1)) }},
		{"PictureText", func(p impl.Picture) []any { return results(impl.PictureText(p)) }},
		{"ValidPicture", func(p impl.Picture) []any { return results(impl.ValidPicture(p)) }},
		{"IsInside", func(p impl.Picture) []any { return results(impl.IsInside(p, p)) }},
	}
}

func TestNoPictureFailsEverywhere(t *testing.T) {
	for _, bad := range badPictures() {
		for _, call := range pictureCalls() {
			expectFailure(t, fmt.Sprintf("%s %q", call.name, bad.Rows), call.of(bad))
		}
		for _, good := range []impl.Picture{drawn("#"), drawn("##/##"), drawn("#/#")} {
			for op := range int64(4) {
				what := fmt.Sprintf("JoinPictures %d %q %q", op, good.Rows, bad.Rows)
				expectFailure(t, what, results(impl.JoinPictures(op, good, bad)))
				expectFailure(t, what, results(impl.JoinPictures(op, bad, good)))
			}
			if impl.IsInside(good, bad) || impl.IsInside(bad, good) {
				t.Errorf("IsInside %q %q", good.Rows, bad.Rows)
			}
		}
	}
}

func TestDifferentSizesFail(t *testing.T) {
	texts := []string{"#", "##", "#/#", "##/##", "###/###", "................"}
	for i, p := range texts {
		for j, q := range texts {
			if i == j {
				continue
			}
			for op := range int64(4) {
				expectFailure(t, "JoinPictures "+p+" "+q, results(impl.JoinPictures(op, drawn(p), drawn(q))))
			}
			if impl.IsInside(drawn(p), drawn(q)) {
				t.Errorf("IsInside %s %s", p, q)
			}
		}
	}
}

// farNumbers are numbers that no parameter of chapter 1 may have where a side or a place is meant.
var farNumbers = []int64{-17, 17, 1 << 32, -1 << 32, 1<<32 + 1, leastInt, leastInt + 1, greatestInt, greatestInt - 1}

func TestNumbersOutsideFail(t *testing.T) {
	for _, p := range []impl.Picture{drawn("#"), drawn("#../##."), painted(16, 16, func(x, y int64) bool { return true })} {
		for _, n := range farNumbers {
			what := fmt.Sprintf("%q %d", p.Rows, n)
			expectFailure(t, "PixelAt x "+what, results(impl.PixelAt(p, n, 0)))
			expectFailure(t, "PixelAt y "+what, results(impl.PixelAt(p, 0, n)))
			for _, black := range []bool{false, true} {
				expectFailure(t, "SetPixel x "+what, results(impl.SetPixel(p, n, 0, black)))
				expectFailure(t, "SetPixel y "+what, results(impl.SetPixel(p, 0, n, black)))
			}
			expectFailure(t, "ShiftPicture dx "+what, results(impl.ShiftPicture(p, n, 0)))
			expectFailure(t, "ShiftPicture dy "+what, results(impl.ShiftPicture(p, 0, n)))
			expectFailure(t, "CropPicture X "+what, results(impl.CropPicture(p, impl.Spot{X: n}, 1, 1)))
			expectFailure(t, "CropPicture Y "+what, results(impl.CropPicture(p, impl.Spot{Y: n}, 1, 1)))
			expectFailure(t, "CropPicture width "+what, results(impl.CropPicture(p, impl.Spot{}, n, 1)))
			expectFailure(t, "CropPicture height "+what, results(impl.CropPicture(p, impl.Spot{}, 1, n)))
		}
		for _, n := range append([]int64{-1, 4}, farNumbers...) {
			expectFailure(t, fmt.Sprintf("JoinPictures op %d", n), results(impl.JoinPictures(n, p, p)))
			expectFailure(t, fmt.Sprintf("TurnPicture kind %d", n), results(impl.TurnPicture(p, n)))
		}
	}
	expectFailure(t, "CropPicture wraps around", results(impl.CropPicture(drawn("##"), impl.Spot{X: 1}, greatestInt, 1)))
}

func TestSidesOutsideFail(t *testing.T) {
	for _, n := range append([]int64{0, -1}, farNumbers...) {
		for _, spots := range [][]impl.Spot{nil, {{X: 0, Y: 0}}} {
			expectFailure(t, fmt.Sprint("PictureFrom width ", n), results(impl.PictureFrom(n, 1, spots)))
			expectFailure(t, fmt.Sprint("PictureFrom height ", n), results(impl.PictureFrom(1, n, spots)))
		}
		expectFailure(t, fmt.Sprint("BlankPicture width ", n), results(impl.BlankPicture(n, 1)))
		expectFailure(t, fmt.Sprint("BlankPicture height ", n), results(impl.BlankPicture(1, n)))
	}
}

func TestSpotsOutsideFail(t *testing.T) {
	outside := []impl.Spot{{X: -1}, {Y: -1}, {X: 3}, {Y: 2}, {X: 3, Y: 1}, {X: 2, Y: 2}, {X: 2, Y: 3}}
	for _, n := range farNumbers {
		outside = append(outside, impl.Spot{X: n}, impl.Spot{Y: n})
	}
	for _, s := range outside {
		expectFailure(t, fmt.Sprint("PictureFrom ", s), results(impl.PictureFrom(3, 2, []impl.Spot{s})))
		expectFailure(t, fmt.Sprint("PictureFrom with others ", s), results(impl.PictureFrom(3, 2, []impl.Spot{{X: 1, Y: 1}, s, {X: 0, Y: 0}})))
	}
}

func TestArgumentsAreNotModified(t *testing.T) {
	for _, p := range samplePictures() {
		given := withSpareRows(p)
		before := slices.Clone(given.Rows[:cap(given.Rows)])
		for _, call := range pictureCalls() {
			call.of(given)
			if !slices.Equal(given.Rows[:cap(given.Rows)], before) {
				t.Fatalf("%s modifies %q", call.name, p.Rows)
			}
		}
	}
	checkTwoPicturesAreNotModified(t)
	checkListsAreNotModified(t)
}

func checkTwoPicturesAreNotModified(t *testing.T) {
	t.Helper()
	p, q := withSpareRows(drawn("#./##")), withSpareRows(drawn(".#/#."))
	beforeP, beforeQ := slices.Clone(p.Rows[:cap(p.Rows)]), slices.Clone(q.Rows[:cap(q.Rows)])
	for op := range int64(4) {
		impl.JoinPictures(op, p, q)
	}
	impl.IsInside(p, q)
	if !slices.Equal(p.Rows[:cap(p.Rows)], beforeP) || !slices.Equal(q.Rows[:cap(q.Rows)], beforeQ) {
		t.Error("JoinPictures or IsInside modifies an argument")
	}
}

func checkListsAreNotModified(t *testing.T) {
	t.Helper()
	spots := []impl.Spot{{X: 1, Y: 1}, {X: 0, Y: 1}, {X: 1, Y: 1}, {X: 9, Y: 9}}
	beforeSpots := slices.Clone(spots)
	impl.PictureFrom(2, 2, spots[:3])
	impl.PictureFrom(2, 2, spots)
	list := []int64{3, 1, 2, 1, 7}
	beforeList := slices.Clone(list)
	impl.ListText(list[:4])
	if !slices.Equal(spots, beforeSpots) || !slices.Equal(list, beforeList) {
		t.Error("PictureFrom or ListText modifies its argument")
	}
}

// spoil overwrites all memory that a result has.
func spoil(result any) {
	switch v := result.(type) {
	case impl.Picture:
		spoil(v.Rows)
	case impl.Element:
		spoil(v.Offsets)
	case impl.Grey:
		spoil(v.Rows)
	case impl.GreyTree:
		spoil(v.Levels)
		spoil(v.Parents)
		spoil(v.Areas)
		spoil(v.Nodes)
	case impl.Desk:
		for _, p := range v.Pictures {
			spoil(p)
		}
		clear(v.Pictures[:cap(v.Pictures)])
		spoil(v.Names)
	case []string:
		v = v[:cap(v)]
		for i := range v {
			v[i] = "spoilt"
		}
	case []impl.Spot:
		v = v[:cap(v)]
		for i := range v {
			v[i] = impl.Spot{X: -9, Y: -9}
		}
	case []impl.Disc:
		v = v[:cap(v)]
		for i := range v {
			v[i] = impl.Disc{X: -9, Y: -9, Radius: -9}
		}
	case []int64:
		v = v[:cap(v)]
		for i := range v {
			v[i] = -9
		}
	case [][]int64:
		for _, list := range v {
			spoil(list)
		}
		clear(v[:cap(v)])
	}
}

// checkNewMemory makes a call twice, spoils what the first one returned, and compares.
func checkNewMemory(t *testing.T, what string, call func() []any) {
	t.Helper()
	first, second := call(), call()
	text := fmt.Sprint(second)
	if fmt.Sprint(first) != text {
		t.Errorf("%s: two calls differ: %v and %v", what, first, second)
	}
	for _, result := range first {
		spoil(result)
	}
	if fmt.Sprint(second) != text || fmt.Sprint(call()) != text {
		t.Errorf("%s: results share memory", what)
	}
}

func TestEqualResultsInNewMemory(t *testing.T) {
	for _, p := range samplePictures() {
		before := slices.Clone(p.Rows)
		for _, call := range pictureCalls() {
			checkNewMemory(t, fmt.Sprintf("%s %q", call.name, p.Rows), func() []any { return call.of(p) })
			if !slices.Equal(p.Rows, before) {
				t.Fatalf("the result of %s shares memory with its argument", call.name)
			}
		}
	}
	checkNewMemory(t, "BlankPicture", func() []any { return results(impl.BlankPicture(3, 2)) })
	checkNewMemory(t, "PictureFrom", func() []any { return results(impl.PictureFrom(2, 2, []impl.Spot{{X: 1, Y: 0}})) })
	checkNewMemory(t, "ReadPicture", func() []any { return results(impl.ReadPicture("#./..")) })
	checkNewMemory(t, "ReadList", func() []any { return results(impl.ReadList("4,-5,6")) })
	checkNewMemory(t, "ListText", func() []any { return results(impl.ListText([]int64{4, -5})) })
	checkNewMemory(t, "ReadDecimal", func() []any { return results(impl.ReadDecimal("-12")) })
	checkNewMemory(t, "Decimal", func() []any { return results(impl.Decimal(-12)) })
	checkNewMemory(t, "IsName", func() []any { return results(impl.IsName("leaf")) })
	checkNewMemory(t, "CheckOf", func() []any { return results(impl.CheckOf(5, "text")) })
}

// readers are the functions of chapter 1 that take a text alone.
func readers(s string) [][]any {
	check := results(impl.CheckOf(0, s))
	return [][]any{results(impl.ReadPicture(s)), results(impl.ReadList(s)), results(impl.ReadDecimal(s)), results(impl.IsName(s)), check}
}

func TestAnyTextIsReadTheSameWayTwice(t *testing.T) {
	source := noise(5)
	alphabet := "#./,-019anoe\xff\xc3 \n"
	for range 20000 {
		text := make([]byte, source.below(12))
		for i := range text {
			text[i] = alphabet[source.below(int64(len(alphabet)))]
		}
		s := string(text)
		if first, second := readers(s), readers(s); !reflect.DeepEqual(first, second) {
			t.Fatalf("%q is read as %v and as %v", s, first, second)
		}
		checkReadBack(t, s)
	}
}

// checkReadBack requires that a text that is read is the text of what has been read.
func checkReadBack(t *testing.T, s string) {
	t.Helper()
	if p, ok := impl.ReadPicture(s); ok {
		expect(t, "PictureText of "+s, results(impl.PictureText(p)), s, true)
	}
	if list, ok := impl.ReadList(s); ok {
		expect(t, "ListText of "+s, results(impl.ListText(list)), s, true)
	}
	if n, ok := impl.ReadDecimal(s); ok {
		expect(t, "Decimal of "+s, results(impl.Decimal(n)), s)
	}
}
