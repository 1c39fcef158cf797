package tests

import (
	"fmt"
	"reflect"
	"slices"
	"strings"
	"testing"

	"loop.example/g01165/impl"
)

// The tests in this file are those of promise 1 for chapter 7: every function returns for all
// arguments, modifies none of them, and returns equal results, in new memory, for equal arguments.

// greyCall is a call of a function with a grey picture and valid other arguments.
type greyCall struct {
	name string
	of   func(g impl.Grey) []any
}

// marksLike returns rows of the size of a grey picture, as far as it has one, with the mark 1 alone.
func marksLike(g impl.Grey) [][]int64 {
	var marks [][]int64
	for _, row := range g.Rows {
		marks = append(marks, slices.Repeat([]int64{1}, len(row)))
	}
	return marks
}

func greyCalls() []greyCall {
	calls := []greyCall{
		{"ValidGrey", func(g impl.Grey) []any { return results(impl.ValidGrey(g)) }},
		{"InvertGrey", func(g impl.Grey) []any { return results(impl.InvertGrey(g)) }},
		{"GreyTreeOf", func(g impl.Grey) []any { return results(impl.GreyTreeOf(g)) }},
		{"MaximaOf", func(g impl.Grey) []any { return results(impl.MaximaOf(g)) }},
		{"ReconstructGrey itself", func(g impl.Grey) []any { return results(impl.ReconstructGrey(g, g)) }},
		{"FloodMarks", func(g impl.Grey) []any { return results(impl.FloodMarks(g, marksLike(g))) }},
		{"GreyText", func(g impl.Grey) []any { return results(impl.GreyText(g)) }},
	}
	for _, n := range []int64{0, 1, 50, 99, 100} {
		calls = append(calls, greyCall{fmt.Sprint("ThresholdGrey ", n), func(g impl.Grey) []any { return results(impl.ThresholdGrey(g, n)) }})
		if n <= impl.MaxGrey {
			calls = append(calls, greyCall{fmt.Sprint("CutPeaks ", n), func(g impl.Grey) []any { return results(impl.CutPeaks(g, n)) }})
		}
	}
	for _, n := range []int64{1, 2, 256} {
		calls = append(calls, greyCall{fmt.Sprint("OpenAreas ", n), func(g impl.Grey) []any { return results(impl.OpenAreas(g, n)) }})
	}
	return calls
}

// farNumbersOfGreys are numbers that are too small or too great for everything in chapter 7.
var farNumbersOfGreys = []int64{-1, -2, -99, -100, 257, 258, 512, 1 << 16, 1 << 31, 1 << 32, -1 << 32, 1<<32 + 1, 1<<32 + 50, 1 << 62, leastInt, leastInt + 1, greatestInt, greatestInt - 1}

// badRows returns rows that are those of no picture, whatever the numbers are.
func badRows() [][][]int64 {
	long := make([]int64, 17)
	return [][][]int64{
		nil, {}, {{}}, {nil}, {{}, {}}, slices.Repeat([][]int64{nil}, 16), {{0}, {}}, {{}, {0}}, {{0}, nil, {0}},
		{{0, 0}, {0}}, {{0}, {0, 0}}, {{0, 0}, {0, 0}, {0}}, {{0, 0}, {0}, {0, 0}}, {{0}, {0, 0}, {0}},
		{long}, {long, long}, {long[:16], long}, {long, long[:16]}, slices.Repeat([][]int64{long}, 17), slices.Repeat([][]int64{long}, 16),
		slices.Repeat([][]int64{{0}}, 17), slices.Repeat([][]int64{long[:16]}, 17), slices.Repeat([][]int64{{0}}, 256), slices.Repeat([][]int64{{0}}, 272),
		{make([]int64, 256)}, {make([]int64, 272)},
	}
}

// withNumber returns rows that differ from others at one pixel.
func withNumber(rows [][]int64, at impl.Spot, n int64) [][]int64 {
	var list [][]int64
	for _, row := range rows {
		list = append(list, slices.Clone(row))
	}
	list[at.Y][at.X] = n
	return list
}

// rowsWith returns rows with a number at the first, at the last, and at another pixel.
func rowsWith(n int64) [][][]int64 {
	square, large := numbered("120/021/212"), make([][]int64, 16)
	for y := range large {
		large[y] = slices.Repeat([]int64{3}, 16)
	}
	return [][][]int64{
		{{n}}, {{n, 0}}, {{0, n}}, {{n}, {0}}, {{0}, {n}}, {{n, n}, {n, n}},
		withNumber(square, impl.Spot{}, n), withNumber(square, impl.Spot{X: 1, Y: 1}, n), withNumber(square, impl.Spot{X: 2, Y: 2}, n),
		withNumber(square, impl.Spot{X: 2}, n), withNumber(square, impl.Spot{Y: 2}, n),
		withNumber(large, impl.Spot{}, n), withNumber(large, impl.Spot{X: 15, Y: 15}, n), withNumber(large, impl.Spot{X: 9, Y: 4}, n),
	}
}

// badGreys returns values that are no grey pictures.
func badGreys() []impl.Grey {
	var list []impl.Grey
	for _, rows := range badRows() {
		list = append(list, impl.Grey{Rows: rows})
	}
	for _, n := range append([]int64{impl.MaxGrey + 1, impl.MaxGrey + 2, 127, 128, 255, 256}, farNumbersOfGreys...) {
		for _, rows := range rowsWith(n) {
			list = append(list, impl.Grey{Rows: rows})
		}
	}
	return list
}

func TestNoGreyPictureFailsInChapter7(t *testing.T) {
	for _, bad := range badGreys() {
		for _, call := range greyCalls() {
			expectFailure(t, fmt.Sprint(call.name, " ", bad.Rows), call.of(bad))
		}
		for _, good := range []impl.Grey{digits("0"), digits("00"), digits("0/0"), digits("00/00"), digits("120/021/212"), flat(16, 16, 3), flat(16, 16, 99)} {
			what := fmt.Sprint(" ", good.Rows, " ", bad.Rows)
			expectFailure(t, "ReconstructGrey"+what, results(impl.ReconstructGrey(good, bad)))
			expectFailure(t, "ReconstructGrey exchanged"+what, results(impl.ReconstructGrey(bad, good)))
			expectFailure(t, "FloodMarks"+what, results(impl.FloodMarks(bad, marksLike(good))))
		}
	}
}

func TestLevelsOutsideFail(t *testing.T) {
	for _, g := range fewGreys() {
		for _, level := range append([]int64{impl.MaxGrey + 2, 102, 128, 255, 256}, farNumbersOfGreys...) {
			expectFailure(t, fmt.Sprint("ThresholdGrey ", textOf(g), level), results(impl.ThresholdGrey(g, level)))
		}
		for _, height := range append([]int64{impl.MaxGrey + 1, impl.MaxGrey + 2, 128, 255, 256}, farNumbersOfGreys...) {
			expectFailure(t, fmt.Sprint("CutPeaks ", textOf(g), height), results(impl.CutPeaks(g, height)))
		}
		for _, least := range append([]int64{0}, farNumbersOfGreys...) {
			expectFailure(t, fmt.Sprint("OpenAreas ", textOf(g), least), results(impl.OpenAreas(g, least)))
		}
	}
}

func TestLimitsOfChapter7CanBeReached(t *testing.T) {
	for width := int64(1); width <= impl.MaxSide; width++ {
		for height := int64(1); height <= impl.MaxSide; height++ {
			what := fmt.Sprint(" ", width, " ", height)
			for _, n := range []int64{0, impl.MaxGrey} {
				g := flat(width, height, n)
				tree := rising([]int64{n}, []int64{width * height}, flat(width, height, 0).Rows)
				expect(t, "GreyTreeOf"+what, results(impl.GreyTreeOf(g)), tree, true)
				expect(t, "RebuildGrey"+what, results(impl.RebuildGrey(tree)), g, true)
				expect(t, "ThresholdGrey 0"+what, results(impl.ThresholdGrey(g, 0)), black(width, height), true)
				expect(t, "ThresholdGrey 100"+what, results(impl.ThresholdGrey(g, 100)), white(width, height), true)
				expect(t, "InvertGrey"+what, results(impl.InvertGrey(g)), flat(width, height, impl.MaxGrey-n), true)
				expect(t, "MaximaOf"+what, results(impl.MaximaOf(g)), black(width, height), true)
				expect(t, "OpenAreas 1"+what, results(impl.OpenAreas(g, 1)), g, true)
				expect(t, "OpenAreas 256"+what, results(impl.OpenAreas(g, 256)), g, true)
				expect(t, "CutPeaks 0"+what, results(impl.CutPeaks(g, 0)), g, true)
				expect(t, "CutPeaks 99"+what, results(impl.CutPeaks(g, 99)), flat(width, height, 0), true)
				expect(t, "ReconstructGrey"+what, results(impl.ReconstructGrey(flat(width, height, 0), g)), flat(width, height, 0), true)
				expect(t, "FloodMarks"+what, results(impl.FloodMarks(g, flat(width, height, 9).Rows)), flat(width, height, 9).Rows, true)
				marks := withNumber(flat(width, height, 0).Rows, impl.Spot{X: width - 1, Y: height - 1}, 9)
				expect(t, "FloodMarks from the last pixel"+what, results(impl.FloodMarks(g, marks)), flat(width, height, 9).Rows, true)
				expect(t, "ReadGrey"+what, results(impl.ReadGrey(textOf(g))), g, true)
			}
			expect(t, "StackPictures"+what, results(impl.StackPictures(slices.Repeat([]impl.Picture{black(width, height)}, 99))), flat(width, height, 99), true)
			expect(t, "StackPictures one"+what, results(impl.StackPictures([]impl.Picture{white(width, height)})), flat(width, height, 0), true)
		}
	}
}

func TestStacksThatAreNotValidFail(t *testing.T) {
	expectFailure(t, "StackPictures nil", results(impl.StackPictures(nil)))
	expectFailure(t, "StackPictures none", results(impl.StackPictures([]impl.Picture{})))
	for _, p := range []impl.Picture{drawn("#"), drawn("."), drawn("#../##."), black(16, 16), white(16, 16)} {
		for _, count := range []int{100, 101, 128, 255, 256, 355, 1 << 16, 1000000} {
			expectFailure(t, fmt.Sprintf("StackPictures %d times %q", count, p.Rows), results(impl.StackPictures(slices.Repeat([]impl.Picture{p}, count))))
		}
		for _, bad := range badPictures() {
			for _, list := range [][]impl.Picture{{bad}, {bad, p}, {p, bad}, {p, bad, p}, {bad, bad}, append(slices.Repeat([]impl.Picture{p}, 98), bad)} {
				expectFailure(t, fmt.Sprintf("StackPictures %q", list), results(impl.StackPictures(list)))
			}
		}
	}
	texts := []string{"#", ".", "##", "#/#", "##/##", "###/###", "##/##/##", "......", "################"}
	for _, p := range texts {
		for _, q := range texts {
			first, second := drawn(p), drawn(q)
			if widthOf(first) == widthOf(second) && heightOf(first) == heightOf(second) {
				continue
			}
			expectFailure(t, "StackPictures "+p+" "+q, results(impl.StackPictures([]impl.Picture{first, second})))
			expectFailure(t, "StackPictures "+p+" "+p+" "+q, results(impl.StackPictures([]impl.Picture{first, first, second})))
			expectFailure(t, "StackPictures "+p+" "+q+" "+p, results(impl.StackPictures([]impl.Picture{first, second, first})))
		}
	}
}

// listsOf returns where the lists of a tree are that have a number for each node.
func listsOf(t *impl.GreyTree) []*[]int64 { return []*[]int64{&t.Levels, &t.Parents, &t.Areas} }

// lopsidedTrees returns trees that are made of one by a list, or a part of it, that is left out or comes twice.
func lopsidedTrees(tree impl.GreyTree) []impl.GreyTree {
	var list []impl.GreyTree
	change := func(rule func(t *impl.GreyTree)) {
		other := cloned(tree)
		rule(&other)
		list = append(list, other)
	}
	for i := range 3 {
		numbers := func(t *impl.GreyTree) *[]int64 { return listsOf(t)[i] }
		change(func(t *impl.GreyTree) { *numbers(t) = nil })
		change(func(t *impl.GreyTree) { *numbers(t) = (*numbers(t))[1:] })
		change(func(t *impl.GreyTree) { *numbers(t) = (*numbers(t))[:len(tree.Levels)-1] })
		change(func(t *impl.GreyTree) { *numbers(t) = append(*numbers(t), 0) })
		change(func(t *impl.GreyTree) { *numbers(t) = append(*numbers(t), (*numbers(t))...) })
		change(func(t *impl.GreyTree) { *numbers(t) = append([]int64{(*numbers(t))[0]}, (*numbers(t))...) })
	}
	change(func(t *impl.GreyTree) {
		for _, numbers := range listsOf(t) {
			*numbers = nil
		}
	})
	change(func(t *impl.GreyTree) {
		for _, numbers := range listsOf(t) {
			*numbers = append(*numbers, (*numbers)[len(*numbers)-1])
		}
	})
	change(func(t *impl.GreyTree) {
		for _, numbers := range listsOf(t) {
			*numbers = (*numbers)[:len(*numbers)-1]
		}
	})
	for _, rows := range badRows() {
		change(func(t *impl.GreyTree) { t.Nodes = rows })
	}
	change(func(t *impl.GreyTree) { t.Nodes = append(t.Nodes, t.Nodes[0]) })
	change(func(t *impl.GreyTree) { t.Nodes = append(t.Nodes, nil) })
	change(func(t *impl.GreyTree) { t.Nodes[0] = append(t.Nodes[0], 0) })
	return list
}

// renumbered returns the tree in which two nodes have each other's numbers.
func renumbered(tree impl.GreyTree, a, b int64) impl.GreyTree {
	other := cloned(tree)
	for _, numbers := range listsOf(&other) {
		(*numbers)[a], (*numbers)[b] = (*numbers)[b], (*numbers)[a]
	}
	for _, numbers := range append([][]int64{other.Parents}, other.Nodes...) {
		for i, n := range numbers {
			switch n {
			case a:
				numbers[i] = b
			case b:
				numbers[i] = a
			}
		}
	}
	return other
}

func TestTreesThatAreNotValidFail(t *testing.T) {
	expectFailure(t, "RebuildGrey nothing", results(impl.RebuildGrey(impl.GreyTree{})))
	for _, rows := range append(badRows(), numbered("0"), numbered("00/00")) {
		expectFailure(t, fmt.Sprint("RebuildGrey without nodes ", rows), results(impl.RebuildGrey(impl.GreyTree{Nodes: rows})))
	}
	for _, test := range treeCases() {
		for _, bad := range lopsidedTrees(test.tree) {
			expectFailure(t, fmt.Sprint("RebuildGrey ", bad), results(impl.RebuildGrey(bad)))
		}
		count := int64(len(test.tree.Levels))
		for a := range count {
			for b := range a {
				// Each node has a pixel, so that this is another tree, and that of no picture.
				other := renumbered(test.tree, a, b)
				expectFailure(t, fmt.Sprint("RebuildGrey ", other), results(impl.RebuildGrey(other)))
			}
		}
		for i := range numbersOf(&test.tree) {
			for _, n := range append([]int64{100, 101}, farNumbersOfGreys...) {
				other := cloned(test.tree)
				place := numbersOf(&other)[i]
				if *place != n {
					*place = n
					expectFailure(t, fmt.Sprint("RebuildGrey ", other), results(impl.RebuildGrey(other)))
				}
			}
		}
	}
}

func TestMarkersThatAreNotValidFail(t *testing.T) {
	for _, mask := range fewGreys() {
		for _, at := range pixelsOfGrey(mask) {
			if numberAt(mask, at) == impl.MaxGrey {
				continue
			}
			marker := impl.Grey{Rows: withNumber(mask.Rows, at, numberAt(mask, at)+1)}
			expectFailure(t, "ReconstructGrey "+textOf(marker)+" "+textOf(mask), results(impl.ReconstructGrey(marker, mask)))
			nothing := impl.Grey{Rows: withNumber(flat(greyWidth(mask), greyHeight(mask), 0).Rows, at, numberAt(mask, at)+1)}
			expectFailure(t, "ReconstructGrey "+textOf(nothing)+" "+textOf(mask), results(impl.ReconstructGrey(nothing, mask)))
		}
	}
	sizes := [][2]int64{{1, 1}, {2, 1}, {1, 2}, {2, 2}, {3, 2}, {2, 3}, {16, 1}, {1, 16}, {16, 16}, {15, 16}, {16, 15}}
	for _, a := range sizes {
		for _, b := range sizes {
			got := results(impl.ReconstructGrey(flat(a[0], a[1], 2), flat(b[0], b[1], 5)))
			if a == b {
				expect(t, fmt.Sprint("ReconstructGrey ", a), got, flat(a[0], a[1], 2), true)
			} else {
				expectFailure(t, fmt.Sprint("ReconstructGrey ", a, b), got)
			}
		}
	}
}

func TestMarksThatAreNotValidFail(t *testing.T) {
	for _, g := range append(fewGreys(), flat(3, 3, 5), flat(2, 1, 99)) {
		nothing := flat(greyWidth(g), greyHeight(g), 0).Rows
		expectFailure(t, "FloodMarks without marks "+textOf(g), results(impl.FloodMarks(g, nothing)))
		for _, marks := range badRows() {
			expectFailure(t, fmt.Sprint("FloodMarks ", textOf(g), marks), results(impl.FloodMarks(g, marks)))
		}
		pixels := pixelsOfGrey(g)
		for _, n := range append([]int64{impl.MaxMark + 1, impl.MaxMark + 2, 99, 100, 255, 256}, farNumbersOfGreys...) {
			for _, at := range []impl.Spot{pixels[0], pixels[len(pixels)/2], pixels[len(pixels)-1]} {
				for _, marks := range [][][]int64{withNumber(nothing, at, n), withNumber(marksLike(g), at, n)} {
					expectFailure(t, fmt.Sprint("FloodMarks ", textOf(g), marks), results(impl.FloodMarks(g, marks)))
				}
			}
		}
		sizes := [][2]int64{{1, 1}, {2, 1}, {1, 2}, {4, 1}, {1, 4}, {2, 2}, {3, 3}, {16, 1}, {1, 16}, {16, 16}, {15, 16}, {16, 15},
			{greyWidth(g) + 1, greyHeight(g)}, {greyWidth(g), greyHeight(g) + 1}, {greyWidth(g) - 1, greyHeight(g)}, {greyHeight(g), greyWidth(g)}}
		for _, size := range sizes {
			marks := flat(size[0], size[1], 1).Rows
			got := results(impl.FloodMarks(g, marks))
			if size == [2]int64{greyWidth(g), greyHeight(g)} {
				expect(t, fmt.Sprint("FloodMarks ", textOf(g), size), got, marks, true)
			} else {
				expectFailure(t, fmt.Sprint("FloodMarks ", textOf(g), size), got)
			}
		}
	}
}

func TestTextsOfNoGreyPicture(t *testing.T) {
	long := strings.Repeat("0,", 16) + "0"
	texts := []string{
		"", "/", ",", "//", "none", "none/none", "0/none", "none/0", "none,none",
		"1,,2", ",1", "1,", "1,2,", ",1,2", "1/", "/1", "1//2", "1,2//3,4", "1,2/3,4/", "/1,2/3,4", "1,2/,", "1,2,/3,4",
		"01", "1,02", "00", "0,00", "007", "+1", "1,+2", "-1", "-0", "1,-1", "--1", " 1", "1 ", "1, 2", "1 ,2", "1\n", "1,2\n", "1/2\n", "1\t", "1\x00",
		"100", "1,100", "100,1", "1/100", "101", "255", "256", "999", "1000000000", "1000000001", "4294967296", "4294967297", "9223372036854775807", "9223372036854775808", "18446744073709551616", "-9223372036854775808",
		"1,2/3", "1/2,3", "1,2/3,4/5", "1/2/3,4", "1,2/3/4,5",
		long, long + "/" + long, long[:31] + "/" + long, strings.Repeat("0/", 16) + "0", strings.Repeat(long[:31]+"/", 16) + long[:31], strings.Repeat("0/", 16), strings.Repeat("0,", 16),
		"x", "1,x", "#", "#.", "1.0", "1e1", "0x1", "1_0", "१", "１", "1;2", "1|2", "[1]", "1,2\\3,4", "\xff", "1\xff", "1,\xc3",
		strings.Repeat("0,", 1000000), strings.Repeat("0/", 1000000), strings.Repeat("9", 1000000), strings.Repeat("/", 1000000), strings.Repeat(",", 1000000),
	}
	for _, text := range texts {
		expectFailure(t, fmt.Sprintf("ReadGrey %q", text[:min(len(text), 99)]), results(impl.ReadGrey(text)))
	}
}

func TestHugeArgumentsFailInChapter7(t *testing.T) {
	// All rows are the same memory, so that only a copy of them would be huge.
	long := make([]int64, 1<<20)
	for _, rows := range [][][]int64{slices.Repeat([][]int64{long}, 1<<20), {long}, slices.Repeat([][]int64{{0}}, 1<<20)} {
		for _, call := range greyCalls() {
			if call.name != "FloodMarks" {
				expectFailure(t, call.name+" huge", call.of(impl.Grey{Rows: rows}))
			}
		}
		expectFailure(t, "FloodMarks huge", results(impl.FloodMarks(impl.Grey{Rows: rows}, rows)))
		expectFailure(t, "FloodMarks huge marks", results(impl.FloodMarks(digits("0"), rows)))
		expectFailure(t, "RebuildGrey huge", results(impl.RebuildGrey(impl.GreyTree{Levels: []int64{0}, Parents: []int64{-1}, Areas: []int64{1}, Nodes: rows})))
		expectFailure(t, "RebuildGrey huge lists", results(impl.RebuildGrey(impl.GreyTree{Levels: long, Parents: long, Areas: long, Nodes: rows})))
	}
	expectFailure(t, "RebuildGrey long lists", results(impl.RebuildGrey(impl.GreyTree{Levels: long, Parents: long, Areas: long, Nodes: numbered("0")})))
}

// spared returns rows with the same numbers, and with others behind each of them, and other rows behind all of them.
func spared(rows [][]int64) [][]int64 {
	var list [][]int64
	for _, row := range rows {
		list = append(list, withSpare(row, 7))
	}
	return withSpare(list, []int64{7})
}

// allMemory returns a text of all numbers of rows and of those behind them.
func allMemory(rows [][]int64) string {
	var list [][]int64
	for _, row := range rows[:cap(rows)] {
		list = append(list, row[:cap(row)])
	}
	return fmt.Sprint(list)
}

// checkRowsUnmodified requires that a call modifies neither rows nor what is behind them.
func checkRowsUnmodified(t *testing.T, what string, rows [][]int64, call func(rows [][]int64)) {
	t.Helper()
	given := spared(rows)
	before := allMemory(given)
	call(given)
	if allMemory(given) != before {
		t.Fatalf("%s modifies %v", what, rows)
	}
}

func TestChapter7ModifiesNoArgument(t *testing.T) {
	source := noise(79)
	for _, g := range append(fewGreys(), badGreys()...) {
		for _, call := range greyCalls() {
			checkRowsUnmodified(t, call.name, g.Rows, func(rows [][]int64) { call.of(impl.Grey{Rows: rows}) })
		}
		if !impl.ValidGrey(g) {
			continue
		}
		marker, marks := source.markerBelow(g), source.marksFor(g, 9, 9)
		checkRowsUnmodified(t, "ReconstructGrey marker", marker.Rows, func(rows [][]int64) { impl.ReconstructGrey(impl.Grey{Rows: rows}, g) })
		checkRowsUnmodified(t, "ReconstructGrey mask", g.Rows, func(rows [][]int64) { impl.ReconstructGrey(marker, impl.Grey{Rows: rows}) })
		checkRowsUnmodified(t, "ReconstructGrey exchanged", marker.Rows, func(rows [][]int64) { impl.ReconstructGrey(g, impl.Grey{Rows: rows}) })
		checkRowsUnmodified(t, "FloodMarks", g.Rows, func(rows [][]int64) { impl.FloodMarks(impl.Grey{Rows: rows}, marks) })
		checkRowsUnmodified(t, "FloodMarks marks", marks, func(rows [][]int64) { impl.FloodMarks(g, rows) })
	}
	for _, test := range treeCases() {
		for _, tree := range append(lopsidedTrees(test.tree), test.tree) {
			lists := [][]int64{tree.Levels, tree.Parents, tree.Areas}
			checkRowsUnmodified(t, "RebuildGrey", lists, func(rows [][]int64) {
				impl.RebuildGrey(impl.GreyTree{Levels: rows[0], Parents: rows[1], Areas: rows[2], Nodes: tree.Nodes})
			})
			checkRowsUnmodified(t, "RebuildGrey nodes", tree.Nodes, func(rows [][]int64) {
				impl.RebuildGrey(impl.GreyTree{Levels: tree.Levels, Parents: tree.Parents, Areas: tree.Areas, Nodes: rows})
			})
		}
	}
	for _, list := range [][]impl.Picture{drawnAll("##.", "#.."), drawnAll("#", "##"), drawnAll("#", "x"), nil} {
		checkUnmodified(t, "StackPictures", list, drawn("###"), func(list []impl.Picture) { impl.StackPictures(list) })
		for _, p := range list {
			checkUnmodified(t, "StackPictures rows", p.Rows, "#", func(rows []string) { impl.StackPictures([]impl.Picture{{Rows: rows}, {Rows: rows}}) })
		}
	}
}

func TestChapter7ReturnsNewMemory(t *testing.T) {
	source := noise(80)
	for _, g := range append(fewGreys(), largeGreys()...) {
		marker, marks := source.markerBelow(g), source.marksFor(g, 9, 9)
		tree := treeOfSets(g, levelSets(g))
		before := fmt.Sprint(g, marker, marks, tree)
		for _, call := range greyCalls() {
			checkNewMemory(t, call.name+" "+textOf(g), func() []any { return call.of(g) })
		}
		checkNewMemory(t, "RebuildGrey", func() []any { return results(impl.RebuildGrey(tree)) })
		checkNewMemory(t, "ReconstructGrey", func() []any { return results(impl.ReconstructGrey(marker, g)) })
		checkNewMemory(t, "FloodMarks", func() []any { return results(impl.FloodMarks(g, marks)) })
		checkNewMemory(t, "ReadGrey", func() []any { return results(impl.ReadGrey(textOf(g))) })
		if fmt.Sprint(g, marker, marks, tree) != before {
			t.Fatalf("a result of chapter 7 shares memory with an argument: %s", before)
		}
		for _, call := range greyCalls() {
			for _, result := range call.of(g) {
				if other, ok := result.(impl.Grey); ok {
					checkRowsShareNothing(t, call.name+" "+textOf(g), other.Rows)
				}
			}
		}
		told, _ := impl.GreyTreeOf(g)
		checkRowsShareNothing(t, "GreyTreeOf "+textOf(g), append([][]int64{told.Levels, told.Parents, told.Areas}, told.Nodes...))
		back, _ := impl.RebuildGrey(tree)
		checkRowsShareNothing(t, "RebuildGrey "+textOf(g), back.Rows)
		grown, _ := impl.ReconstructGrey(marker, g)
		checkRowsShareNothing(t, "ReconstructGrey "+textOf(g), grown.Rows)
		reached, _ := impl.FloodMarks(g, marks)
		checkRowsShareNothing(t, "FloodMarks "+textOf(g), reached)
		read, _ := impl.ReadGrey(textOf(g))
		checkRowsShareNothing(t, "ReadGrey "+textOf(g), read.Rows)
	}
	list := drawnAll("##./#..", "#../.##")
	checkNewMemory(t, "StackPictures", func() []any { return results(impl.StackPictures(list)) })
	stacked, _ := impl.StackPictures(list)
	checkRowsShareNothing(t, "StackPictures", stacked.Rows)
	if fmt.Sprint(list) != fmt.Sprint(drawnAll("##./#..", "#../.##")) {
		t.Error("the result of StackPictures shares memory with its argument")
	}
}

// damagedRows returns rows with one number changed, left out or put in, or with one row left out or twice.
func (n *noise) damagedRows(rows [][]int64) [][]int64 {
	y := n.below(int64(len(rows)))
	x := n.below(int64(len(rows[y])))
	number := []int64{0, 9, 99, 100, -1, n.below(101)}[n.below(6)]
	list := withNumber(rows, impl.Spot{X: x, Y: y}, number)
	switch n.below(5) {
	case 0:
		list[y] = slices.Delete(list[y], int(x), int(x)+1)
	case 1:
		list[y] = slices.Insert(list[y], int(x), number)
	case 2:
		list = slices.Delete(list, int(y), int(y)+1)
	case 3:
		list = slices.Insert(list, int(y), slices.Clone(list[y]))
	}
	return list
}

func isGreyAsDefined(g impl.Grey) bool {
	for _, row := range g.Rows {
		if len(row) < 1 || len(row) > 16 || len(row) != len(g.Rows[0]) || slices.ContainsFunc(row, func(n int64) bool { return n < 0 || n > 99 }) {
			return false
		}
	}
	return len(g.Rows) >= 1 && len(g.Rows) <= 16
}

func TestAnyGreyIsUsedTheSameWayTwice(t *testing.T) {
	source := noise(81)
	greys := append(fewGreys(), flat(3, 3, 5), flat(2, 1, 99))
	valids := 0
	for range 1000 {
		g := impl.Grey{Rows: source.damagedRows(greys[source.below(int64(len(greys)))].Rows)}
		valid := isGreyAsDefined(g)
		if valid {
			valids++
		}
		if impl.ValidGrey(g) != valid {
			t.Fatalf("ValidGrey %v: must be %v", g, valid)
		}
		for _, call := range greyCalls() {
			first, second := call.of(g), call.of(g)
			if !reflect.DeepEqual(first, second) {
				t.Fatalf("%s %v: got %v and %v", call.name, g, first, second)
			}
			if ok := first[len(first)-1].(bool); ok != valid {
				t.Fatalf("%s %v: got %v", call.name, g, first)
			}
			if !valid {
				expectFailure(t, fmt.Sprint(call.name, g), first)
			}
		}
	}
	if valids < 200 || valids > 800 {
		t.Errorf("%d of 1000 are valid", valids)
	}
}

func TestAnyArgumentsAreUsedTheSameWayTwiceInChapter7(t *testing.T) {
	source := noise(82)
	greys := append(fewGreys(), flat(3, 3, 5), flat(2, 1, 99))
	for range 1000 {
		g := greys[source.below(int64(len(greys)))]
		marks := source.marksFor(g, 5, 9)
		if source.below(2) == 0 {
			marks = source.damagedRows(marks)
		}
		marker := source.markerBelow(g)
		if source.below(2) == 0 {
			marker.Rows = source.damagedRows(marker.Rows)
		}
		tree, _ := impl.GreyTreeOf(g)
		places := numbersOf(&tree)
		*places[source.below(int64(len(places)))] = source.below(20) - 2
		text := []byte(textOf(g))
		text[source.below(int64(len(text)))] = "0159,/-+ "[source.below(9)]
		calls := []func() []any{
			func() []any { return results(impl.FloodMarks(g, marks)) },
			func() []any { return results(impl.ReconstructGrey(marker, g)) },
			func() []any { return results(impl.RebuildGrey(tree)) },
			func() []any { return results(impl.ReadGrey(string(text))) },
			func() []any { return results(impl.ThresholdGrey(g, source.below(120)-10)) },
		}
		for i, call := range calls {
			kept := source
			first := call()
			source = kept
			second := call()
			if !reflect.DeepEqual(first, second) {
				t.Fatalf("the call %d with %s: got %v and %v", i, textOf(g), first, second)
			}
			if ok := first[len(first)-1].(bool); !ok {
				expectFailure(t, fmt.Sprint("the call ", i, " with ", textOf(g)), first)
			}
		}
	}
}
