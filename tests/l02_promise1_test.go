package tests

import (
	"fmt"
	"reflect"
	"slices"
	"strings"
	"testing"

	"loop.example/g01165/impl"
)

// The tests in this file are those of promise 1 for chapter 2: every function returns for all
// arguments, modifies none of them, and returns equal results, in new memory, for equal arguments.

// bestShift collects the results of BestShift.
func bestShift(p impl.Picture, side int64) []any {
	x, y, leaves, ok := impl.BestShift(p, side)
	return results(x, y, leaves, ok)
}

// treeCall is a call of a function of chapter 2 with a tree and other arguments that are valid for each tree.
type treeCall struct {
	name string
	of   func(t impl.Tree) []any
}

func treeCalls() []treeCall {
	calls := []treeCall{
		{"ValidTree", func(t impl.Tree) []any { return results(impl.ValidTree(t)) }},
		{"PictureOf", func(t impl.Tree) []any { return results(impl.PictureOf(t)) }},
		{"LeavesOf", func(t impl.Tree) []any { return results(impl.LeavesOf(t)) }},
		{"LeafAt", func(t impl.Tree) []any { return results(impl.LeafAt(t, 0, 0)) }},
		{"AddressOf", func(t impl.Tree) []any { return results(impl.AddressOf(t, 0)) }},
		{"TouchingLeaves", func(t impl.Tree) []any { return results(impl.TouchingLeaves(t, 0)) }},
		{"BlackArea", func(t impl.Tree) []any { return results(impl.BlackArea(t)) }},
		{"InvertTree", func(t impl.Tree) []any { return results(impl.InvertTree(t)) }},
	}
	for n := range int64(4) {
		calls = append(calls,
			treeCall{fmt.Sprint("CombineTrees ", n), func(t impl.Tree) []any { return results(impl.CombineTrees(n, t, t)) }},
			treeCall{fmt.Sprint("TurnTree ", n), func(t impl.Tree) []any { return results(impl.TurnTree(t, n)) }})
	}
	return calls
}

// badSides are numbers that are no side of a tree.
var badSides = []int64{0, -1, -2, -16, 3, 5, 6, 7, 9, 12, 15, 17, 32, 64, 1 << 32, 1 << 62, leastInt, leastInt + 1, greatestInt, greatestInt - 1}

// badTrees returns values that are no trees.
func badTrees() []impl.Tree {
	var list []impl.Tree
	for _, side := range badSides {
		for _, text := range []string{"", "#", ".", "(###.)", "(#(#...)..)"} {
			list = append(list, impl.Tree{Side: side, Text: text})
		}
	}
	texts := []string{
		"", "(", ")", "()", "((", "))", ")(", "##", "#.", "....", "#)", "(#", "(#)", "(#..)", "(#...", "#...)", "(#...))", "((#...)", "(#...#)", "(#...)#", "#(#...)",
		"x", " ", "\x00", "\xff", "é", "#\n", " #", "(#..x)", "(#..\x00)", "(#..é)", "(# ..)", "[#...]", "(####)", "(....)", "{#...}", "(#...]", "(#...\x00", "(#...x",
		strings.Repeat("(", 100000), strings.Repeat("#", 100000), strings.Repeat(")", 100000), "(#...)" + strings.Repeat(")", 100000),
		strings.Repeat("(", 50000) + "#..." + strings.Repeat(")...", 50000),
	}
	for _, side := range treeSides {
		for _, text := range texts {
			list = append(list, impl.Tree{Side: side, Text: text})
		}
	}
	for i, side := range treeSides {
		// The leaves of the first text are as deep as the side allows, those of the others are deeper or wrong.
		deepest := strings.Repeat("(", i) + "#" + strings.Repeat("...)", i)
		deeper := strings.Repeat("(", i+1) + "#" + strings.Repeat("...)", i+1)
		merged := strings.Repeat("(", i+1) + "." + strings.Repeat("...)", i+1)
		last := strings.Repeat("(...", i+1) + "#" + strings.Repeat(")", i+1)
		for _, text := range []string{deeper, merged, last, deepest + ")", "(" + deepest, deepest + "."} {
			list = append(list, impl.Tree{Side: side, Text: text})
		}
	}
	for _, text := range []string{"((####)...)", "((....)...)", "((....)###)", "(#..(####))", "((####)(####)(####)(####))", "(..(.(....)..)#)"} {
		list = append(list, impl.Tree{Side: 8, Text: text}, impl.Tree{Side: 16, Text: text})
	}
	return list
}

func TestNoTreeFailsEverywhere(t *testing.T) {
	for _, bad := range badTrees() {
		what := fmt.Sprintf("%d %.40q", bad.Side, bad.Text)
		for _, call := range treeCalls() {
			expectFailure(t, call.name+" "+what, call.of(bad))
		}
		for _, side := range treeSides {
			good := impl.Tree{Side: side, Text: "#"}
			for op := range int64(4) {
				expectFailure(t, "CombineTrees "+what, results(impl.CombineTrees(op, good, bad)))
				expectFailure(t, "CombineTrees "+what, results(impl.CombineTrees(op, bad, good)))
			}
		}
	}
}

func TestDeepestTrees(t *testing.T) {
	for i, side := range treeSides {
		for _, text := range []string{strings.Repeat("(", i) + "#" + strings.Repeat("...)", i), strings.Repeat("(...", i) + "#" + strings.Repeat(")", i)} {
			for j, other := range treeSides {
				if tree := (impl.Tree{Side: other, Text: text}); impl.ValidTree(tree) != (j >= i) {
					t.Errorf("ValidTree %v: must be valid for a side of at least %d", tree, side)
				}
			}
		}
	}
}

func TestPicturesThatAreNoSquaresOfATreeFail(t *testing.T) {
	for _, bad := range badPictures() {
		expectFailure(t, fmt.Sprintf("TreeOf %q", bad.Rows), results(impl.TreeOf(bad)))
		for _, side := range treeSides {
			expectFailure(t, fmt.Sprintf("BestShift %q", bad.Rows), bestShift(bad, side))
		}
	}
	for _, p := range samplePictures() {
		if widthOf(p) != heightOf(p) || !slices.Contains(treeSides, widthOf(p)) {
			expectFailure(t, fmt.Sprintf("TreeOf %q", p.Rows), results(impl.TreeOf(p)))
		}
		for _, side := range treeSides {
			if widthOf(p) > side || heightOf(p) > side {
				expectFailure(t, fmt.Sprintf("BestShift %q %d", p.Rows, side), bestShift(p, side))
			}
		}
	}
	for _, side := range badSides {
		for _, p := range fewPictures() {
			expectFailure(t, fmt.Sprintf("BestShift %q %d", p.Rows, side), bestShift(p, side))
		}
	}
}

func TestNoLeafOfATreeFails(t *testing.T) {
	for _, p := range squarePictures() {
		tree, leaves := treeAsDefined(p)
		count := int64(len(leaves))
		for _, leaf := range []int64{-1, -2, count, count + 1, 256, 1 << 32, -1 << 32, leastInt, greatestInt} {
			if leaf >= 0 && leaf < count {
				continue
			}
			expectFailure(t, fmt.Sprint("AddressOf ", tree, leaf), results(impl.AddressOf(tree, leaf)))
			expectFailure(t, fmt.Sprint("TouchingLeaves ", tree, leaf), results(impl.TouchingLeaves(tree, leaf)))
		}
	}
}

func TestPixelsOutsideOfATreeFail(t *testing.T) {
	for _, p := range squarePictures() {
		tree, _ := treeAsDefined(p)
		for _, n := range []int64{-1, -2, -tree.Side, tree.Side, tree.Side + 1, 1 << 32, -1 << 32, leastInt, greatestInt} {
			for _, spot := range []impl.Spot{{X: n}, {Y: n}, {X: n, Y: n}, {X: n, Y: tree.Side - 1}, {X: tree.Side - 1, Y: n}, {X: n, Y: -n}} {
				expectFailure(t, fmt.Sprint("LeafAt ", tree, spot), results(impl.LeafAt(tree, spot.X, spot.Y)))
			}
		}
	}
}

func TestOpsAndKindsThatDoNotExistFail(t *testing.T) {
	for _, tree := range []impl.Tree{{Side: 1, Text: "#"}, {Side: 1, Text: "."}, {Side: 2, Text: "(###.)"}, {Side: 16, Text: "."}, {Side: 16, Text: "(#(...#)..)"}} {
		for _, n := range append([]int64{-1, 4, 5}, farNumbers...) {
			expectFailure(t, fmt.Sprint("CombineTrees ", n, tree), results(impl.CombineTrees(n, tree, tree)))
			expectFailure(t, fmt.Sprint("TurnTree ", tree, n), results(impl.TurnTree(tree, n)))
		}
	}
}

func TestTreesWithDifferentSidesFail(t *testing.T) {
	for _, a := range treeSides {
		for _, b := range treeSides {
			for op := range int64(4) {
				for _, text := range []string{"#", "."} {
					got := results(impl.CombineTrees(op, impl.Tree{Side: a, Text: text}, impl.Tree{Side: b, Text: "#"}))
					if a != b {
						expectFailure(t, fmt.Sprint("CombineTrees of sides ", a, b), got)
					} else if got[1] != true {
						t.Errorf("CombineTrees of side %d fails", a)
					}
				}
			}
		}
	}
}

func TestChapter2ModifiesNoPicture(t *testing.T) {
	for _, p := range append(squarePictures(), fewPictures()...) {
		given := withSpareRows(p)
		before := slices.Clone(given.Rows[:cap(given.Rows)])
		impl.TreeOf(given)
		bestShift(given, 16)
		if !slices.Equal(given.Rows[:cap(given.Rows)], before) {
			t.Fatalf("TreeOf or BestShift modifies %q", p.Rows)
		}
	}
}

func TestChapter2ReturnsNewMemory(t *testing.T) {
	for _, p := range squarePictures() {
		tree, leaves := treeAsDefined(p)
		for _, call := range treeCalls() {
			checkNewMemory(t, fmt.Sprint(call.name, tree), func() []any { return call.of(tree) })
		}
		last := int64(len(leaves)) - 1
		checkNewMemory(t, fmt.Sprint("TouchingLeaves ", tree), func() []any { return results(impl.TouchingLeaves(tree, last)) })
		checkNewMemory(t, fmt.Sprint("AddressOf ", tree), func() []any { return results(impl.AddressOf(tree, last)) })
		checkNewMemory(t, fmt.Sprintf("TreeOf %q", p.Rows), func() []any { return results(impl.TreeOf(p)) })
		checkLeavesShareNothing(t, tree)
	}
	for _, p := range fewPictures() {
		checkNewMemory(t, fmt.Sprintf("BestShift %q", p.Rows), func() []any { return bestShift(p, 16) })
	}
}

// checkLeavesShareNothing writes into one list of LeavesOf after the other, and behind it.
func checkLeavesShareNothing(t *testing.T, tree impl.Tree) {
	t.Helper()
	leaves, _ := impl.LeavesOf(tree)
	want, _ := impl.LeavesOf(tree)
	for i := range leaves {
		if !slices.Equal(leaves[i], want[i]) {
			t.Fatalf("LeavesOf %v: the list %d shares memory with one before it", tree, i)
		}
		spoil(leaves[i])
	}
}

func TestAnyTreeTextIsReadTheSameWayTwice(t *testing.T) {
	source := noise(10)
	for range 20000 {
		text := make([]byte, source.below(20))
		for i := range text {
			text[i] = "##..(()) x"[source.below(10)]
		}
		tree := impl.Tree{Side: treeSides[source.below(5)], Text: string(text)}
		for _, call := range treeCalls() {
			first, second := call.of(tree), call.of(tree)
			if !reflect.DeepEqual(first, second) {
				t.Fatalf("%s %v: got %v and %v", call.name, tree, first, second)
			}
		}
		if p, ok := impl.PictureOf(tree); ok {
			expect(t, fmt.Sprint("TreeOf PictureOf ", tree), results(impl.TreeOf(p)), tree, true)
		}
	}
}
