package tests

import (
	"fmt"
	"slices"
	"strings"
	"testing"

	"loop.example/g01165/impl"
)

// The tests in this file are those of promise 3: what the functions of chapter 2 return for trees.

var treeSides = []int64{1, 2, 4, 8, 16}

// aLeaf is a leaf as the document defines it, found in the picture and not in the text.
type aLeaf struct {
	x, y, side int64
	black      bool
	address    string
}

func (l aLeaf) has(x, y int64) bool {
	return x >= l.x && x < l.x+l.side && y >= l.y && y < l.y+l.side
}

// dividedPart returns the text and the leaves of a square in a picture, outside of which all is white.
func dividedPart(p impl.Picture, x, y, side int64, address string) (string, []aLeaf) {
	count := int64(0)
	for atY := y; atY < y+side; atY++ {
		for atX := x; atX < x+side; atX++ {
			if isBlack(p, atX, atY) {
				count++
			}
		}
	}
	switch count {
	case 0:
		return ".", []aLeaf{{x, y, side, false, address}}
	case side * side:
		return "#", []aLeaf{{x, y, side, true, address}}
	}
	text := "("
	var leaves []aLeaf
	for i, corner := range [][2]int64{{0, 0}, {1, 0}, {0, 1}, {1, 1}} {
		part, partLeaves := dividedPart(p, x+corner[0]*side/2, y+corner[1]*side/2, side/2, address+fmt.Sprint(i))
		text += part
		leaves = append(leaves, partLeaves...)
	}
	return text + ")", leaves
}

// treeAsDefined returns the tree of a picture and its leaves, without the program's help.
func treeAsDefined(p impl.Picture) (impl.Tree, []aLeaf) {
	text, leaves := dividedPart(p, 0, 0, widthOf(p), "")
	return impl.Tree{Side: widthOf(p), Text: text}, leaves
}

// blocks returns a picture that is a square whose tree has leaves of several sides.
func (n *noise) blocks(side int64) impl.Picture {
	p := painted(side, side, func(x, y int64) bool { return false })
	for size := side; size >= 1; size /= 2 {
		for y := int64(0); y < side; y += size {
			for x := int64(0); x < side; x += size {
				if n.below(3) > 0 {
					continue
				}
				black := n.below(2) == 0
				p = painted(side, side, func(atX, atY int64) bool {
					if atX >= x && atX < x+size && atY >= y && atY < y+size {
						return black
					}
					return isBlack(p, atX, atY)
				})
			}
		}
	}
	return p
}

// squarePictures returns pictures of each side of a tree: all of side 1 and 2, those of one colour,
// those with one other pixel in a corner or in the middle, a chessboard, and arbitrary ones.
func squarePictures() []impl.Picture {
	list := append(allPictures(1, 1), allPictures(2, 2)...)
	source := noise(6)
	for _, side := range treeSides[2:] {
		for _, colour := range []bool{false, true} {
			list = append(list, painted(side, side, func(x, y int64) bool { return colour }))
			for _, spot := range [][2]int64{{0, 0}, {side - 1, 0}, {0, side - 1}, {side - 1, side - 1}, {side / 2, side / 2}, {side/2 - 1, side / 2}} {
				list = append(list, painted(side, side, func(x, y int64) bool { return (x == spot[0] && y == spot[1]) != colour }))
			}
		}
		list = append(list, painted(side, side, func(x, y int64) bool { return (x+y)%2 == 0 }))
		list = append(list, painted(side, side, func(x, y int64) bool { return x < side/2 }))
		for range 10 {
			list = append(list, source.blocks(side), source.picture(side, side))
		}
	}
	return list
}

func TestChapter2Examples(t *testing.T) {
	p := impl.Picture{Rows: []string{"##", "#."}}
	expect(t, "TreeOf", results(impl.TreeOf(p)), impl.Tree{Side: 2, Text: "(###.)"}, true)
	expect(t, "PictureOf", results(impl.PictureOf(impl.Tree{Side: 2, Text: "(###.)"})), p, true)
	x, y, leaves, ok := impl.BestShift(drawn("##/##"), 4)
	expect(t, "BestShift", results(x, y, leaves, ok), 0, 0, 4, true)
}

func TestTreesByHand(t *testing.T) {
	texts := map[string]string{
		"#": "#", ".": ".",
		"##/##": "#", "../..": ".", "#./..": "(#...)", ".#/..": "(.#..)", "../#.": "(..#.)", "../.#": "(...#)",
		"..../..../..../....": ".",
		"##../##../..../....": "(#...)",
		"..../..../..##/..##": "(...#)",
		"#.../..../..../....": "((#...)...)",
		"..../..../..../...#": "(...(...#))",
		".#../..#./#.../..##": "((.#..)(..#.)(#...)(..##))",
	}
	for picture, text := range texts {
		tree := impl.Tree{Side: widthOf(drawn(picture)), Text: text}
		expect(t, "TreeOf "+picture, results(impl.TreeOf(drawn(picture))), tree, true)
		expect(t, "PictureOf "+text, results(impl.PictureOf(tree)), drawn(picture), true)
	}
}

func TestTreeAndPictureOfOneAnother(t *testing.T) {
	for _, p := range append(squarePictures(), allPictures(4, 4)...) {
		want, _ := treeAsDefined(p)
		tree, ok := impl.TreeOf(p)
		if !ok || tree != want {
			t.Fatalf("TreeOf %q: got %v %v, want %v", p.Rows, tree, ok, want)
		}
		back, ok := impl.PictureOf(tree)
		if !ok || !slices.Equal(back.Rows, p.Rows) {
			t.Fatalf("PictureOf %v: got %q %v", tree, back.Rows, ok)
		}
		if !impl.ValidTree(tree) {
			t.Fatalf("%v must be valid", tree)
		}
	}
}

func TestLeafOfOneColourOfEachSide(t *testing.T) {
	for _, side := range treeSides {
		for i, letter := range []string{".", "#"} {
			tree := impl.Tree{Side: side, Text: letter}
			what := fmt.Sprint(tree)
			expect(t, "LeavesOf "+what, results(impl.LeavesOf(tree)), [][]int64{{0, 0, side, int64(i)}}, true)
			expect(t, "LeafAt "+what, results(impl.LeafAt(tree, side-1, side-1)), 0, true)
			expect(t, "AddressOf "+what, results(impl.AddressOf(tree, 0)), "", true)
			expect(t, "TouchingLeaves "+what, results(impl.TouchingLeaves(tree, 0)), []int64{}, true)
			expect(t, "BlackArea "+what, results(impl.BlackArea(tree)), int64(i)*side*side, true)
			for kind := range int64(4) {
				expect(t, "TurnTree "+what, results(impl.TurnTree(tree, kind)), tree, true)
			}
			expect(t, "InvertTree "+what, results(impl.InvertTree(tree)), impl.Tree{Side: side, Text: []string{"#", "."}[i]}, true)
		}
	}
}

func TestLeavesAsDefined(t *testing.T) {
	for _, p := range squarePictures() {
		tree, leaves := treeAsDefined(p)
		var want [][]int64
		for _, l := range leaves {
			colour := int64(0)
			if l.black {
				colour = 1
			}
			want = append(want, []int64{l.x, l.y, l.side, colour})
		}
		expect(t, fmt.Sprint("LeavesOf ", tree), results(impl.LeavesOf(tree)), want, true)
		n, _ := impl.CountBlack(p)
		expect(t, fmt.Sprint("BlackArea ", tree), results(impl.BlackArea(tree)), n, true)
		for i, l := range leaves {
			expect(t, fmt.Sprint("AddressOf ", tree, i), results(impl.AddressOf(tree, int64(i))), l.address, true)
		}
		for y := range tree.Side {
			for x := range tree.Side {
				at := slices.IndexFunc(leaves, func(l aLeaf) bool { return l.has(x, y) })
				expect(t, fmt.Sprint("LeafAt ", tree, x, y), results(impl.LeafAt(tree, x, y)), at, true)
			}
		}
	}
}

// nextTo reports whether two different leaves have pixels next to one another.
func nextTo(a, b aLeaf) bool {
	for y := a.y; y < a.y+a.side; y++ {
		for x := a.x; x < a.x+a.side; x++ {
			if b.has(x-1, y) || b.has(x+1, y) || b.has(x, y-1) || b.has(x, y+1) {
				return true
			}
		}
	}
	return false
}

func TestTouchingLeavesAsDefined(t *testing.T) {
	for _, p := range squarePictures() {
		tree, leaves := treeAsDefined(p)
		for i, l := range leaves {
			want := []int64{}
			for j, other := range leaves {
				if j != i && nextTo(l, other) {
					want = append(want, int64(j))
				}
			}
			expect(t, fmt.Sprint("TouchingLeaves ", tree, i), results(impl.TouchingLeaves(tree, int64(i))), want, true)
		}
	}
}

func TestTouchingLeavesOfOtherSides(t *testing.T) {
	// The leaf 1 touches a larger one, and the first one four smaller ones.
	tree := impl.Tree{Side: 4, Text: "(#(.#.#)(..##).)"}
	expect(t, "the larger leaf", results(impl.TouchingLeaves(tree, 0)), []int64{1, 3, 5, 6}, true)
	expect(t, "a smaller leaf", results(impl.TouchingLeaves(tree, 1)), []int64{0, 2, 3}, true)
	expect(t, "the leaf across a corner from the first one", results(impl.TouchingLeaves(tree, 9)), []int64{3, 4, 6, 8}, true)
	deep := impl.Tree{Side: 8, Text: "(((...#)...)#..)"}
	expect(t, "a large leaf next to smaller ones", results(impl.TouchingLeaves(deep, 7)), []int64{4, 6, 9}, true)
}

func TestCombineTreesAsPictures(t *testing.T) {
	source := noise(7)
	for _, p := range squarePictures() {
		side := widthOf(p)
		black := painted(side, side, func(x, y int64) bool { return true })
		for _, q := range []impl.Picture{p, black, source.blocks(side), source.picture(side, side)} {
			checkCombined(t, p, q)
			checkCombined(t, q, p)
		}
	}
	for _, p := range allPictures(2, 2) {
		for _, q := range allPictures(2, 2) {
			checkCombined(t, p, q)
		}
	}
}

func checkCombined(t *testing.T, p, q impl.Picture) {
	t.Helper()
	a, _ := treeAsDefined(p)
	b, _ := treeAsDefined(q)
	for op := range int64(4) {
		want, _ := treeAsDefined(painted(a.Side, a.Side, func(x, y int64) bool { return joined(op, isBlack(p, x, y), isBlack(q, x, y)) }))
		expect(t, fmt.Sprint("CombineTrees ", op, a, b), results(impl.CombineTrees(op, a, b)), want, true)
	}
}

func TestInvertAndTurnTreesAsPictures(t *testing.T) {
	for _, p := range squarePictures() {
		tree, _ := treeAsDefined(p)
		last := tree.Side - 1
		rules := []func(x, y int64) bool{
			func(x, y int64) bool { return isBlack(p, last-x, y) },
			func(x, y int64) bool { return isBlack(p, x, last-y) },
			func(x, y int64) bool { return isBlack(p, y, x) },
			func(x, y int64) bool { return isBlack(p, y, last-x) },
		}
		for kind, rule := range rules {
			want, _ := treeAsDefined(painted(tree.Side, tree.Side, rule))
			expect(t, fmt.Sprint("TurnTree ", tree, kind), results(impl.TurnTree(tree, int64(kind))), want, true)
		}
		want, _ := treeAsDefined(painted(tree.Side, tree.Side, func(x, y int64) bool { return !isBlack(p, x, y) }))
		expect(t, fmt.Sprint("InvertTree ", tree), results(impl.InvertTree(tree)), want, true)
	}
}

// checkBestShift compares with all places at which a picture can lie.
func checkBestShift(t *testing.T, p impl.Picture, side int64) {
	t.Helper()
	var bestX, bestY int64
	least := -1
	for y := int64(0); y+heightOf(p) <= side; y++ {
		for x := int64(0); x+widthOf(p) <= side; x++ {
			_, leaves := dividedPart(p, -x, -y, side, "")
			if least < 0 || len(leaves) < least {
				bestX, bestY, least = x, y, len(leaves)
			}
		}
	}
	x, y, n, ok := impl.BestShift(p, side)
	expect(t, fmt.Sprintf("BestShift %q %d", p.Rows, side), results(x, y, n, ok), bestX, bestY, least, true)
}

func TestNoShiftHasFewerLeaves(t *testing.T) {
	source := noise(8)
	for _, side := range treeSides {
		for width := int64(1); width <= min(side, 3); width++ {
			for height := int64(1); height <= min(side, 3); height++ {
				if width*height == 9 && side == impl.MaxSide {
					continue // 512 pictures at 196 places
				}
				for _, p := range allPictures(int(width), int(height)) {
					checkBestShift(t, p, side)
				}
			}
		}
		step := max(1, side/5)
		for width := int64(1); width <= side; width += step {
			for height := int64(1); height <= side; height += step {
				checkBestShift(t, source.picture(width, height), side)
				checkBestShift(t, painted(width, height, func(x, y int64) bool { return true }), side)
			}
		}
	}
}

func TestShiftsAtTheEdge(t *testing.T) {
	eight := strings.Repeat(".########/", 7) + ".########"
	tests := []struct {
		text             string
		side, x, y, want int64
	}{
		{"#", 1, 0, 0, 1}, {".", 1, 0, 0, 1},
		{"#", 2, 0, 0, 4}, {"#", 16, 0, 0, 13}, {".", 16, 0, 0, 1}, {"...", 4, 0, 0, 1},
		{".##/.##", 4, 1, 0, 4},
		{".../.##/.##", 4, 1, 1, 4},
		{"##./##.", 4, 0, 0, 4},
		{eight, 16, 7, 0, 4},
		{"........./" + eight, 16, 7, 7, 4},
		{strings.Repeat("################/", 15) + "################", 16, 0, 0, 1},
		{"################", 16, 0, 0, 46},
		{"./#/#/#/#", 8, 0, 3, 13},
		// The places below are equally good.
		{"#.##/....", 4, 0, 0, 10},
		// So are the places 3, 0 and 5, 0 here, and those below at 2, 4 and 6.
		{".##/.##", 8, 1, 0, 7},
		// The place 0, 1 is as good as 1, 0, and 0, 0 is worse than both.
		{"..#/.#./#..", 4, 1, 0, 10},
	}
	for _, test := range tests {
		x, y, leaves, ok := impl.BestShift(drawn(test.text), test.side)
		expect(t, "BestShift "+test.text, results(x, y, leaves, ok), test.x, test.y, test.want, true)
	}
}

// isTreeText reports whether s is the text of a tree, by the definition alone.
func isTreeText(s string, side int64) bool {
	if s == "#" || s == "." {
		return true
	}
	if side == 1 || len(s) < 2 || s[0] != '(' || s[len(s)-1] != ')' {
		return false
	}
	var parts []string
	depth, from := 0, 1
	for i := 1; i < len(s)-1; i++ {
		switch s[i] {
		case '(':
			depth++
		case ')':
			depth--
		}
		if depth < 0 {
			return false
		}
		if depth == 0 {
			parts = append(parts, s[from:i+1])
			from = i + 1
		}
	}
	if depth != 0 || len(parts) != 4 || s == "(####)" || s == "(....)" {
		return false
	}
	return !slices.ContainsFunc(parts, func(part string) bool { return !isTreeText(part, side/2) })
}

func TestValidTreeForEachShortText(t *testing.T) {
	texts := []string{""}
	for range 7 {
		for _, s := range texts {
			for _, side := range treeSides {
				if tree := (impl.Tree{Side: side, Text: s}); impl.ValidTree(tree) != isTreeText(s, side) {
					t.Fatalf("ValidTree %v: want %v", tree, isTreeText(s, side))
				}
			}
		}
		var longer []string
		for _, s := range texts {
			for _, letter := range []string{"#", ".", "(", ")"} {
				longer = append(longer, s+letter)
			}
		}
		texts = longer
	}
}

// changedTexts returns texts that differ from s at one place.
func changedTexts(s string) []string {
	var changed []string
	for i := range len(s) + 1 {
		changed = append(changed, s[:i], s[i:])
		for _, letter := range []string{"#", ".", "(", ")", "x", "\x00", "\xff", "(###.)", "(....)"} {
			changed = append(changed, s[:i]+letter+s[i:])
			if i < len(s) {
				changed = append(changed, s[:i]+letter+s[i+1:])
			}
		}
		if i < len(s) {
			changed = append(changed, s[:i]+s[i+1:])
		}
	}
	return changed
}

func TestValidTreeForChangedTexts(t *testing.T) {
	source := noise(9)
	pictures := append(allPictures(1, 1), allPictures(2, 2)...)
	for _, side := range treeSides[2:] {
		pictures = append(pictures, source.blocks(side), source.blocks(side), source.blocks(side), source.picture(side, side))
	}
	for _, p := range pictures {
		tree, _ := treeAsDefined(p)
		for _, s := range changedTexts(tree.Text) {
			for _, side := range []int64{tree.Side / 2, tree.Side, tree.Side * 2} {
				want := slices.Contains(treeSides, side) && isTreeText(s, side)
				if other := (impl.Tree{Side: side, Text: s}); impl.ValidTree(other) != want {
					t.Fatalf("ValidTree %v: want %v", other, want)
				}
			}
		}
	}
}
