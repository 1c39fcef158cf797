package tests

import (
	"fmt"
	"math/bits"
	"slices"
	"strconv"
	"strings"
	"testing"

	"loop.example/g01165/impl"
)

// The tests in this file are those of promise 8: what the functions of chapter 7 return for valid arguments.

// grey returns the grey picture with the given text, without the program's help.
func grey(text string) impl.Grey {
	var g impl.Grey
	for _, line := range strings.Split(text, "/") {
		var row []int64
		for _, word := range strings.Split(line, ",") {
			n, err := strconv.Atoi(word)
			if err != nil {
				panic(err)
			}
			row = append(row, int64(n))
		}
		g.Rows = append(g.Rows, row)
	}
	return g
}

// digits returns the grey picture whose numbers are given by their digits.
func digits(text string) impl.Grey { return impl.Grey{Rows: numbered(text)} }

// textOf returns the text of a grey picture, without the program's help.
func textOf(g impl.Grey) string {
	var lines []string
	for _, row := range g.Rows {
		words := strings.Fields(strings.Trim(fmt.Sprint(row), "[]"))
		lines = append(lines, strings.Join(words, ","))
	}
	return strings.Join(lines, "/")
}

// greyFrom returns the grey picture with a width and a height whose numbers a rule says.
func greyFrom(width, height int64, rule func(at impl.Spot) int64) impl.Grey {
	return impl.Grey{Rows: eachPixel(white(width, height), rule)}
}

// flat returns the grey picture with one number alone.
func flat(width, height, n int64) impl.Grey {
	return greyFrom(width, height, func(at impl.Spot) int64 { return n })
}

func greyWidth(g impl.Grey) int64 { return int64(len(g.Rows[0])) }

func greyHeight(g impl.Grey) int64 { return int64(len(g.Rows)) }

// pixelsOfGrey returns all pixels in reading order.
func pixelsOfGrey(g impl.Grey) []impl.Spot {
	return allSpots(impl.Spot{}, impl.Spot{X: greyWidth(g), Y: greyHeight(g)})
}

func numberAt(g impl.Grey, at impl.Spot) int64 { return g.Rows[at.Y][at.X] }

// eachNumber returns the grey picture with what a rule says for each pixel.
func eachNumber(g impl.Grey, rule func(at impl.Spot) int64) impl.Grey {
	return greyFrom(greyWidth(g), greyHeight(g), rule)
}

// blackWhere returns the picture that is black where a rule says so.
func blackWhere(g impl.Grey, rule func(at impl.Spot) bool) impl.Picture {
	return painted(greyWidth(g), greyHeight(g), func(x, y int64) bool { return rule(impl.Spot{X: x, Y: y}) })
}

// isJoined reports whether two pixels are neighbours.
func isJoined(a, b impl.Spot) bool { return farAsDefined(impl.FarCity, a, b) == 1 }

// joinedTo returns the pixels that are joined with one: up, left, right and down.
func joinedTo(g impl.Grey, at impl.Spot) []impl.Spot {
	var list []impl.Spot
	for _, to := range spots(at.X, at.Y-1, at.X-1, at.Y, at.X+1, at.Y, at.X, at.Y+1) {
		if to.X >= 0 && to.Y >= 0 && to.X < greyWidth(g) && to.Y < greyHeight(g) {
			list = append(list, to)
		}
	}
	return list
}

// pixelSet is a set of pixels. The pixel at x and y is the bit 16 y + x.
type pixelSet [4]uint64

func bitOf(at impl.Spot) int { return int(16*at.Y + at.X) }

func (s pixelSet) has(at impl.Spot) bool { return s[bitOf(at)/64]>>(bitOf(at)%64)&1 == 1 }

func (s *pixelSet) add(at impl.Spot) { s[bitOf(at)/64] |= 1 << (bitOf(at) % 64) }

func (s pixelSet) with(other pixelSet) pixelSet {
	for i := range s {
		s[i] |= other[i]
	}
	return s
}

func (s pixelSet) isInside(other pixelSet) bool { return s.with(other) == other }

func (s pixelSet) size() int64 {
	count := 0
	for _, word := range s {
		count += bits.OnesCount64(word)
	}
	return int64(count)
}

// pixels returns the pixels of a set, in reading order.
func (s pixelSet) pixels() []impl.Spot {
	var list []impl.Spot
	for i, word := range s {
		for ; word != 0; word &= word - 1 {
			at := int64(64*i + bits.TrailingZeros64(word))
			list = append(list, impl.Spot{X: at % 16, Y: at / 16})
		}
	}
	return list
}

// partAround returns the pixels that are reached from one over pixels for which a rule holds.
func partAround(g impl.Grey, from impl.Spot, rule func(at impl.Spot) bool) pixelSet {
	var part pixelSet
	work := []impl.Spot{from}
	for len(work) > 0 {
		at := work[len(work)-1]
		work = work[:len(work)-1]
		if !part.has(at) && rule(at) {
			part.add(at)
			work = append(work, joinedTo(g, at)...)
		}
	}
	return part
}

// upTo returns the pixels that are reached from one over numbers of at least a level.
func upTo(g impl.Grey, from impl.Spot, level int64) pixelSet {
	return partAround(g, from, func(at impl.Spot) bool { return numberAt(g, at) >= level })
}

// levelSet is a node of a grey picture.
type levelSet struct {
	level  int64
	pixels pixelSet
}

// levelSets returns the nodes of a grey picture in their order: for each level, and from each
// pixel in reading order, what is reached from there, if it is new and the level is in it.
func levelSets(g impl.Grey) []levelSet {
	var nodes []levelSet
	for level := range int64(impl.MaxGrey + 1) {
		if !slices.ContainsFunc(g.Rows, func(row []int64) bool { return slices.Contains(row, level) }) {
			continue
		}
		var seen pixelSet
		for _, from := range pixelsOfGrey(g) {
			if seen.has(from) || numberAt(g, from) < level {
				continue
			}
			part := upTo(g, from, level)
			seen = seen.with(part)
			if slices.ContainsFunc(part.pixels(), func(at impl.Spot) bool { return numberAt(g, at) == level }) {
				nodes = append(nodes, levelSet{level, part})
			}
		}
	}
	return nodes
}

// leastAround returns the index of the least one of the nodes that have all pixels of a set and
// more of them than a number, or -1 if there is none.
func leastAround(nodes []levelSet, pixels pixelSet, more int64) int64 {
	best, size := int64(-1), int64(0)
	for i, n := range nodes {
		if !pixels.isInside(n.pixels) {
			continue
		}
		if count := n.pixels.size(); count > more && (best < 0 || count < size) {
			best, size = int64(i), count
		}
	}
	return best
}

// treeOfSets returns the tree with some nodes.
func treeOfSets(g impl.Grey, nodes []levelSet) impl.GreyTree {
	var tree impl.GreyTree
	for _, n := range nodes {
		area := n.pixels.size()
		tree.Levels = append(tree.Levels, n.level)
		tree.Parents = append(tree.Parents, leastAround(nodes, n.pixels, area))
		tree.Areas = append(tree.Areas, area)
	}
	tree.Nodes = eachNumber(g, func(at impl.Spot) int64 {
		var one pixelSet
		one.add(at)
		return leastAround(nodes, one, 0)
	}).Rows
	return tree
}

// isLevelSet reports whether a set and a level are a node, by what the document says of each pixel.
func isLevelSet(g impl.Grey, n levelSet) bool {
	pixels := n.pixels.pixels()
	if len(pixels) == 0 || partAround(g, pixels[0], n.pixels.has) != n.pixels {
		return false
	}
	hasLevel := false
	for _, at := range pixels {
		hasLevel = hasLevel || numberAt(g, at) == n.level
		if numberAt(g, at) < n.level {
			return false
		}
		for _, to := range joinedTo(g, at) {
			if !n.pixels.has(to) && numberAt(g, to) >= n.level {
				return false
			}
		}
	}
	return hasLevel
}

// levelSetsOfAll returns the nodes of a small grey picture: all sets of pixels are tried.
func levelSetsOfAll(g impl.Grey, greatest int64) []levelSet {
	var nodes []levelSet
	pixels := pixelsOfGrey(g)
	for code := range 1 << len(pixels) {
		var set pixelSet
		for i, at := range pixels {
			if code>>i&1 == 1 {
				set.add(at)
			}
		}
		for level := range greatest + 1 {
			if n := (levelSet{level, set}); isLevelSet(g, n) {
				nodes = append(nodes, n)
			}
		}
	}
	slices.SortFunc(nodes, func(a, b levelSet) int {
		if a.level != b.level {
			return int(a.level - b.level)
		}
		return bitOf(a.pixels.pixels()[0]) - bitOf(b.pixels.pixels()[0])
	})
	return nodes
}

// allGreys returns every grey picture with a width and a height and numbers from 0 to a greatest one.
func allGreys(width, height, greatest int64) []impl.Grey {
	list := []impl.Grey{flat(width, height, 0)}
	for _, at := range pixelsOfGrey(list[0]) {
		for _, g := range list {
			for n := range greatest {
				list = append(list, eachNumber(g, func(s impl.Spot) int64 {
					if s == at {
						return n + 1
					}
					return numberAt(g, s)
				}))
			}
		}
	}
	return list
}

// smallGreys returns all grey pictures of small sizes with few numbers.
func smallGreys() []impl.Grey {
	list := append(allGreys(1, 1, impl.MaxGrey), allGreys(2, 2, 3)...)
	list = append(append(list, allGreys(4, 1, 3)...), allGreys(1, 4, 3)...)
	list = append(append(list, allGreys(3, 2, 2)...), allGreys(2, 3, 2)...)
	return append(list, allGreys(3, 3, 1)...)
}

// grey returns a grey picture of arbitrary numbers, from least on, in squares with a side.
func (n *noise) grey(width, height, side, least, numbers int64) impl.Grey {
	small := map[impl.Spot]int64{}
	return greyFrom(width, height, func(at impl.Spot) int64 {
		corner := impl.Spot{X: at.X / side, Y: at.Y / side}
		if _, ok := small[corner]; !ok {
			small[corner] = least + n.below(numbers)
		}
		return small[corner]
	})
}

// hill returns the grey picture with one number for each ring around the middle, from the edge on.
func hill(width, height int64, number func(ring int64) int64) impl.Grey {
	return greyFrom(width, height, func(at impl.Spot) int64 {
		return number(min(at.X, at.Y, width-1-at.X, height-1-at.Y))
	})
}

// largeGreys returns grey pictures of extreme sizes and forms: hills and hollows, stairs, combs, rings,
// a board, one number alone.
func largeGreys() []impl.Grey {
	list := []impl.Grey{
		hill(16, 16, func(ring int64) int64 { return ring }),
		hill(16, 15, func(ring int64) int64 { return impl.MaxGrey - ring }),
		hill(15, 16, func(ring int64) int64 { return 10 * (ring % 2) }),
		hill(15, 15, func(ring int64) int64 { return 7 * ring * (1 - ring%2) }),
		greyFrom(16, 16, func(at impl.Spot) int64 { return impl.MaxGrey * ((at.X + at.Y) % 2) }),
		greyFrom(16, 16, func(at impl.Spot) int64 { return (16*at.Y + at.X) % 100 }),
		greyFrom(16, 16, func(at impl.Spot) int64 { return impl.MaxGrey - 6*at.X }),
		greyFrom(16, 16, func(at impl.Spot) int64 { return 5*at.X%17 + 3*at.Y%11 }),
		greyFrom(16, 16, func(at impl.Spot) int64 { return at.Y * (1 - at.X%2) }),
		greyFrom(16, 16, func(at impl.Spot) int64 { return min((15-at.Y)*(1-at.X%2)+at.X, 99) }),
		greyFrom(16, 1, func(at impl.Spot) int64 { return 6 * at.X }),
		greyFrom(1, 16, func(at impl.Spot) int64 { return impl.MaxGrey - 6*at.Y }),
		greyFrom(16, 1, func(at impl.Spot) int64 { return 50 + at.X*(1-2*(at.X%2)) }),
	}
	for _, size := range [][2]int64{{16, 16}, {16, 1}, {1, 16}, {5, 7}} {
		list = append(list, flat(size[0], size[1], 0), flat(size[0], size[1], impl.MaxGrey), flat(size[0], size[1], 42))
	}
	for _, way := range longWays() {
		list = append(list, impl.Grey{Rows: eachPixel(way, func(at impl.Spot) int64 {
			if isBlack(way, at.X, at.Y) {
				return 60 + (at.X+at.Y)%3
			}
			return 40 + (at.X*at.Y)%2
		})})
	}
	return list
}

// sampleGreys returns grey pictures of all sizes and of many forms.
func sampleGreys() []impl.Grey {
	list := largeGreys()
	source := noise(71)
	for width := int64(1); width <= impl.MaxSide; width++ {
		for height := int64(1); height <= impl.MaxSide; height++ {
			numbers := []int64{2, 3, 5, 100}[(width+height)%4]
			list = append(list, source.grey(width, height, 1, (width*height)%(101-numbers), numbers))
		}
	}
	for side := int64(1); side <= 5; side++ {
		list = append(list, source.grey(16, 16, side, 0, 100), source.grey(15, 13, side, 97, 3), source.grey(9, 16, side, 0, 4), source.grey(16, 16, side, 20, 9))
	}
	return list
}

// fewGreys returns grey pictures for tests that try many other arguments with each of them.
func fewGreys() []impl.Grey {
	source := noise(72)
	list := []impl.Grey{digits("0"), grey("99"), grey("1,3,1,2"), grey("3/1/2"), digits("1221/1001/1221"), digits("0110/1331/0110"), grey("99,0/0,99")}
	list = append(list, hill(16, 16, func(ring int64) int64 { return 3 * ring }), flat(16, 16, 7), greyFrom(16, 16, func(at impl.Spot) int64 { return (16*at.Y + at.X) % 100 }))
	for _, size := range [][2]int64{{5, 3}, {16, 1}, {1, 16}, {7, 7}} {
		list = append(list, source.grey(size[0], size[1], 1, 0, 5))
	}
	return append(list, source.grey(16, 16, 1, 0, 6), source.grey(15, 16, 2, 0, 100))
}

func TestChapter7Examples(t *testing.T) {
	g := grey("1,3,1,2")
	tree, ok := impl.GreyTreeOf(g)
	expect(t, "GreyTreeOf", results(tree.Levels, tree.Areas, ok), []int64{1, 2, 3}, []int64{4, 1, 1}, true)
	expect(t, "MaximaOf", results(impl.MaximaOf(g)), drawn(".#.#"), true)
	expect(t, "OpenAreas", results(impl.OpenAreas(g, 2)), grey("1,1,1,1"), true)
	expect(t, "FloodMarks", results(impl.FloodMarks(g, numbered("1002"))), numbered("1122"), true)
	expect(t, "limits", results(int64(impl.MaxGrey), int64(impl.MaxMark)), 99, 9)
}

func TestValidGreyByHand(t *testing.T) {
	for _, text := range []string{"0", "99", "0,99", "0/99", "1,2/3,4", "0,0,0,0,0,0,0,0,0,0,0,0,0,0,0,99"} {
		expect(t, "ValidGrey "+text, results(impl.ValidGrey(grey(text))), true)
	}
	for n := range int64(impl.MaxGrey + 1) {
		expect(t, fmt.Sprint("ValidGrey of ", n), results(impl.ValidGrey(flat(1, 1, n))), true)
	}
	for _, g := range sampleGreys() {
		expect(t, "ValidGrey "+textOf(g), results(impl.ValidGrey(g)), true)
	}
}

func TestThresholdGreyByHand(t *testing.T) {
	tests := []struct {
		text  string
		level int64
		want  string
	}{
		{"0", 0, "#"},
		{"0", 1, "."},
		{"99", 99, "#"},
		{"99", 100, "."},
		{"98", 99, "."},
		{"1,3,1,2", 0, "####"},
		{"1,3,1,2", 1, "####"},
		{"1,3,1,2", 2, ".#.#"},
		{"1,3,1,2", 3, ".#.."},
		{"1,3,1,2", 4, "...."},
		{"1/3/1/2", 2, "./#/./#"},
		{"0,99/50,49", 50, ".#/#."},
		{"0,99/50,49", 0, "##/##"},
		{"0,99/50,49", 99, ".#/.."},
		{"0,99/50,49", 100, "../.."},
		{"5,6,7/8,9,10", 7, "..#/###"},
	}
	for _, test := range tests {
		expect(t, fmt.Sprint("ThresholdGrey ", test.text, test.level), results(impl.ThresholdGrey(grey(test.text), test.level)), drawn(test.want), true)
	}
}

func TestThresholdGreyAsDefined(t *testing.T) {
	for _, g := range sampleGreys() {
		for level := range int64(impl.MaxGrey + 2) {
			want := blackWhere(g, func(at impl.Spot) bool { return numberAt(g, at) >= level })
			expect(t, fmt.Sprint("ThresholdGrey ", textOf(g), level), results(impl.ThresholdGrey(g, level)), want, true)
		}
	}
}

func drawnAll(texts ...string) []impl.Picture {
	var list []impl.Picture
	for _, text := range texts {
		list = append(list, drawn(text))
	}
	return list
}

func TestStackPicturesByHand(t *testing.T) {
	tests := []struct {
		list []impl.Picture
		want impl.Grey
	}{
		{drawnAll("#"), digits("1")},
		{drawnAll("."), digits("0")},
		{drawnAll("#", "#", ".", "#"), digits("3")},
		{drawnAll("##.", "#.."), digits("210")},
		// Neither of two is inside the other one.
		{drawnAll("##.", ".##"), digits("121")},
		{drawnAll("#./.#", ".#/#."), digits("11/11")},
		{drawnAll("#./..", "#./.#", "##/.#"), digits("31/02")},
		{drawnAll("#/.", "#/.", "#/#"), digits("3/1")},
		{slices.Repeat(drawnAll("#.#/..#"), impl.MaxGrey), grey("99,0,99/0,0,99")},
		{append(slices.Repeat(drawnAll("#."), 98), drawn(".#")), grey("98,1")},
		{[]impl.Picture{black(16, 16), white(16, 16), black(16, 16)}, flat(16, 16, 2)},
		{slices.Repeat([]impl.Picture{black(16, 16)}, impl.MaxGrey), flat(16, 16, impl.MaxGrey)},
	}
	for _, test := range tests {
		expect(t, fmt.Sprint("StackPictures ", test.list), results(impl.StackPictures(test.list)), test.want, true)
	}
}

func TestStackPicturesAsDefined(t *testing.T) {
	source := noise(73)
	for range 300 {
		width, height := 1+source.below(16), 1+source.below(16)
		var list []impl.Picture
		for range 1 + source.below(impl.MaxGrey) {
			list = append(list, source.grainy(width, height, 1+source.below(5), source.below(2) == 0))
		}
		want := greyFrom(width, height, func(at impl.Spot) int64 {
			count := int64(0)
			for _, p := range list {
				if isBlack(p, at.X, at.Y) {
					count++
				}
			}
			return count
		})
		expect(t, fmt.Sprint("StackPictures ", list), results(impl.StackPictures(list)), want, true)
	}
}

func TestThresholdsAreStackedToTheGreyPicture(t *testing.T) {
	for _, g := range sampleGreys() {
		var list []impl.Picture
		for level := int64(1); level <= impl.MaxGrey; level++ {
			p, ok := impl.ThresholdGrey(g, level)
			if !ok {
				t.Fatalf("ThresholdGrey %s %d fails", textOf(g), level)
			}
			list = append(list, p)
		}
		expect(t, "StackPictures of the thresholds of "+textOf(g), results(impl.StackPictures(list)), g, true)
		slices.Reverse(list)
		expect(t, "StackPictures of the thresholds of "+textOf(g)+" backwards", results(impl.StackPictures(list)), g, true)
	}
}

func TestInvertGrey(t *testing.T) {
	tests := []struct{ text, want string }{
		{"0", "99"}, {"99", "0"}, {"49", "50"}, {"1,5,2,4,0", "98,94,97,95,99"}, {"0/99", "99/0"}, {"1,2/3,4/50,6", "98,97/96,95/49,93"},
	}
	for _, test := range tests {
		expect(t, "InvertGrey "+test.text, results(impl.InvertGrey(grey(test.text))), grey(test.want), true)
	}
	for _, g := range sampleGreys() {
		inverse, ok := impl.InvertGrey(g)
		expect(t, "InvertGrey "+textOf(g), results(inverse, ok), eachNumber(g, func(at impl.Spot) int64 { return 99 - numberAt(g, at) }), true)
		expect(t, "InvertGrey twice "+textOf(g), results(impl.InvertGrey(inverse)), g, true)
	}
}

// treeCase is a grey picture with its tree.
type treeCase struct {
	what, text string
	tree       impl.GreyTree
}

// rising returns a tree in which each node has the one before it as its parent.
func rising(levels, areas []int64, nodes [][]int64) impl.GreyTree {
	var parents []int64
	for i := range levels {
		parents = append(parents, int64(i)-1)
	}
	return impl.GreyTree{Levels: levels, Parents: parents, Areas: areas, Nodes: nodes}
}

// starry returns a tree in which all nodes have the node 0 as their parent.
func starry(levels, areas []int64, nodes [][]int64) impl.GreyTree {
	tree := rising(levels, areas, nodes)
	for i := range tree.Parents {
		tree.Parents[i] = min(tree.Parents[i], 0)
	}
	return tree
}

func lineCases() []treeCase {
	return []treeCase{
		{"one pixel", "0", rising([]int64{0}, []int64{1}, numbered("0"))},
		{"one pixel of MaxGrey", "99", rising([]int64{99}, []int64{1}, numbered("0"))},
		{"one row", "1,3,1,2", starry([]int64{1, 2, 3}, []int64{4, 1, 1}, numbered("0201"))},
		{"one column", "1/3/1/2", starry([]int64{1, 2, 3}, []int64{4, 1, 1}, numbered("0/2/0/1"))},
		{"stairs up", "0,1,2,99", rising([]int64{0, 1, 2, 99}, []int64{4, 3, 2, 1}, numbered("0123"))},
		{"stairs down", "99/2/1/0", rising([]int64{0, 1, 2, 99}, []int64{4, 3, 2, 1}, numbered("3/2/1/0"))},
		{"one number in a row", "7,7,7", rising([]int64{7}, []int64{3}, numbered("000"))},
		{"a valley", "5,0,5", starry([]int64{0, 5, 5}, []int64{3, 1, 1}, numbered("102"))},
		{"plateaus in a row", "4,4,2,2,4,4,3", impl.GreyTree{
			Levels: []int64{2, 3, 4, 4}, Parents: []int64{-1, 0, 0, 1}, Areas: []int64{7, 3, 2, 2}, Nodes: numbered("2200331")}},
		// A pass of the level 2 joins what is apart at 3.
		{"peaks in groups", "3,2,4,1,5,2,6", impl.GreyTree{
			Levels: []int64{1, 2, 2, 3, 4, 5, 6}, Parents: []int64{-1, 0, 0, 1, 1, 2, 2}, Areas: []int64{7, 3, 3, 1, 1, 1, 1}, Nodes: numbered("3140526")}},
		{"equal peaks of a group", "6,2,6,1,6,2,6", impl.GreyTree{
			Levels: []int64{1, 2, 2, 6, 6, 6, 6}, Parents: []int64{-1, 0, 0, 1, 1, 2, 2}, Areas: []int64{7, 3, 3, 1, 1, 1, 1}, Nodes: numbered("3140526")}},
		{"a peak without a level between", "0,9,8,0,8", impl.GreyTree{
			Levels: []int64{0, 8, 8, 9}, Parents: []int64{-1, 0, 0, 1}, Areas: []int64{5, 2, 1, 1}, Nodes: numbered("03102")}},
		{"a step below a peak on both sides", "1,2,3,2,1", rising([]int64{1, 2, 3}, []int64{5, 3, 1}, numbered("01210"))},
	}
}

func planeCases() []treeCase {
	return []treeCase{
		{"one number", "0,0/0,0", rising([]int64{0}, []int64{4}, numbered("00/00"))},
		{"one number of MaxGrey", "99,99/99,99", rising([]int64{99}, []int64{4}, numbered("00/00"))},
		{"plateaus that touch in a corner only", "5,5,0/5,5,0/0,0,5", starry([]int64{0, 5, 5}, []int64{9, 4, 1}, numbered("110/110/002"))},
		{"low plateaus that touch in a corner only", "5,0/0,5", starry([]int64{0, 5, 5}, []int64{4, 1, 1}, numbered("10/02"))},
		{"plateaus that touch in the other corner", "0,5/5,0", starry([]int64{0, 5, 5}, []int64{4, 1, 1}, numbered("01/20"))},
		{"a plateau around a greater one", "1,1,1/1,2,1/1,1,1", rising([]int64{1, 2}, []int64{9, 1}, numbered("000/010/000"))},
		{"a plateau around a lesser one", "2,2,2/2,1,2/2,2,2", rising([]int64{1, 2}, []int64{9, 8}, numbered("111/101/111"))},
		{"a lesser one in a hollow around a peak", "2,2,2,2,2/2,1,1,1,2/2,1,3,1,2/2,1,1,1,2/2,2,2,2,2", impl.GreyTree{
			Levels: []int64{1, 2, 3}, Parents: []int64{-1, 0, 0}, Areas: []int64{25, 16, 1}, Nodes: numbered("11111/10001/10201/10001/11111")}},
		// The level 3 is in two nodes: the one on the right begins in a row above.
		{"first pixels in a row above", "0,0,3/3,0,3/3,0,0", starry([]int64{0, 3, 3}, []int64{9, 2, 2}, numbered("001/201/200"))},
		{"first pixels on the right", "0,3/0,0/3,3", starry([]int64{0, 3, 3}, []int64{6, 1, 2}, numbered("01/00/22"))},
		{"parts of one level and a peak apart from them", "0,9,0/2,0,2/0,0,2/0,0,2/0,0,0", impl.GreyTree{
			Levels: []int64{0, 2, 2, 9}, Parents: []int64{-1, 0, 0, 0}, Areas: []int64{15, 1, 3, 1}, Nodes: numbered("030/102/002/002/000")}},
		// The first pixel of the node 1 is one of the node 3.
		{"own pixels that are not the first ones", "0,9,0,0/0,4,0,4/0,0,0,0", impl.GreyTree{
			Levels: []int64{0, 4, 4, 9}, Parents: []int64{-1, 0, 0, 1}, Areas: []int64{12, 2, 1, 1}, Nodes: numbered("0300/0102/0000")}},
		// The node 1 begins with a pixel of the node 4, and all of its own ones come behind those of the node 2.
		{"own pixels that come behind those of the next node", "0,0,0,9/4,0,0,8/4,0,4,4", impl.GreyTree{
			Levels: []int64{0, 4, 4, 8, 9}, Parents: []int64{-1, 0, 0, 1, 3}, Areas: []int64{12, 4, 2, 2, 1}, Nodes: numbered("0004/2003/2011")}},
		{"levels decide before first pixels", "9,0,1/0,0,0/5,0,5", starry([]int64{0, 1, 5, 5, 9}, []int64{9, 1, 1, 1, 1}, numbered("401/000/203"))},
		{"rings", "3,3,3,3,3/3,0,0,0,3/3,0,3,0,3/3,0,0,0,3/3,3,3,3,3", starry([]int64{0, 3, 3}, []int64{25, 16, 1}, numbered("11111/10001/10201/10001/11111"))},
		{"joined below only", "4,1,4/4,4,4/0,0,0", impl.GreyTree{
			Levels: []int64{0, 1, 4}, Parents: []int64{-1, 0, 1}, Areas: []int64{9, 6, 5}, Nodes: numbered("212/222/000")}},
		{"joined from the right", "0,0,4/4,4,4/4,0,0", rising([]int64{0, 4}, []int64{9, 5}, numbered("001/111/100"))},
	}
}

// treeCases returns grey pictures with their trees, which are worked out by hand.
func treeCases() []treeCase { return append(lineCases(), planeCases()...) }

func TestGreyTreeByHand(t *testing.T) {
	for _, test := range treeCases() {
		expect(t, "GreyTreeOf "+test.what, results(impl.GreyTreeOf(grey(test.text))), test.tree, true)
		expect(t, "RebuildGrey "+test.what, results(impl.RebuildGrey(test.tree)), grey(test.text), true)
	}
}

func TestNodesAreAsTheDocumentSays(t *testing.T) {
	list := append(append(allGreys(3, 2, 2), allGreys(2, 3, 2)...), append(allGreys(2, 2, 3), allGreys(5, 1, 2)...)...)
	source := noise(74)
	for range 60 {
		list = append(list, source.grey(3, 3, 1, 0, 4))
	}
	for _, g := range list {
		want := treeOfSets(g, levelSetsOfAll(g, 3))
		expect(t, "GreyTreeOf "+textOf(g), results(impl.GreyTreeOf(g)), want, true)
	}
}

func TestGreyTreeAsDefined(t *testing.T) {
	most := 0
	for _, g := range append(smallGreys(), sampleGreys()...) {
		want := treeOfSets(g, levelSets(g))
		expect(t, "GreyTreeOf "+textOf(g), results(impl.GreyTreeOf(g)), want, true)
		most = max(most, len(want.Levels))
	}
	if most < 200 {
		t.Errorf("no tree has more than %d nodes", most)
	}
}

func TestGreyPicturesAreRebuiltFromTheirTrees(t *testing.T) {
	for _, g := range append(smallGreys(), sampleGreys()...) {
		tree, ok := impl.GreyTreeOf(g)
		if !ok {
			t.Fatalf("GreyTreeOf %s fails", textOf(g))
		}
		expect(t, "RebuildGrey of the tree of "+textOf(g), results(impl.RebuildGrey(tree)), g, true)
	}
}

// cloned returns a tree with the same numbers in other memory.
func cloned(t impl.GreyTree) impl.GreyTree {
	c := impl.GreyTree{Levels: slices.Clone(t.Levels), Parents: slices.Clone(t.Parents), Areas: slices.Clone(t.Areas)}
	for _, row := range t.Nodes {
		c.Nodes = append(c.Nodes, slices.Clone(row))
	}
	return c
}

// numbersOf returns where each number of a tree is.
func numbersOf(t *impl.GreyTree) []*int64 {
	var list []*int64
	for _, numbers := range append([][]int64{t.Levels, t.Parents, t.Areas}, t.Nodes...) {
		for i := range numbers {
			list = append(list, &numbers[i])
		}
	}
	return list
}

// changedTrees returns the trees that differ from one in one number, which another one from least to greatest takes the place of.
func changedTrees(t impl.GreyTree, least, greatest int64) []impl.GreyTree {
	var list []impl.GreyTree
	for i := range numbersOf(&t) {
		for n := least; n <= greatest; n++ {
			other := cloned(t)
			place := numbersOf(&other)[i]
			if *place != n {
				*place = n
				list = append(list, other)
			}
		}
	}
	return list
}

func TestTreesThatDifferInOneNumber(t *testing.T) {
	for _, size := range [][2]int64{{1, 1}, {2, 1}, {1, 2}, {3, 1}, {1, 3}, {2, 2}} {
		list := allGreys(size[0], size[1], 4)
		pictures := map[string]impl.Grey{}
		for _, g := range list {
			pictures[fmt.Sprint(treeOfSets(g, levelSets(g)))] = g
		}
		if len(pictures) != len(list) {
			t.Errorf("%d pictures have %d trees", len(list), len(pictures))
		}
		for _, g := range list {
			for _, other := range changedTrees(treeOfSets(g, levelSets(g)), -2, 4) {
				what, got := fmt.Sprint("RebuildGrey ", other), results(impl.RebuildGrey(other))
				if want, ok := pictures[fmt.Sprint(other)]; ok {
					expect(t, what, got, want, true)
				} else {
					expectFailure(t, what, got)
				}
			}
		}
	}
}

func TestLargeTreesThatDifferInOneNumber(t *testing.T) {
	for _, test := range treeCases() {
		pictures := 0
		for _, other := range changedTrees(test.tree, -1, 12) {
			// Only one picture can have this tree: each node has a pixel with its level.
			g := eachNumber(grey(test.text), func(at impl.Spot) int64 {
				node := other.Nodes[at.Y][at.X]
				if node < 0 || node >= int64(len(other.Levels)) {
					return 0
				}
				return max(0, other.Levels[node])
			})
			what, got := fmt.Sprint("RebuildGrey ", other), results(impl.RebuildGrey(other))
			if fmt.Sprint(treeOfSets(g, levelSets(g))) == fmt.Sprint(other) {
				pictures++
				expect(t, what, got, g, true)
			} else {
				expectFailure(t, what, got)
			}
		}
		if pictures == 0 && len(test.tree.Levels) < 5 {
			t.Errorf("%s: no picture has another level", test.what)
		}
	}
}

func TestOpenAreasByHand(t *testing.T) {
	tests := []struct {
		text  string
		least int64
		want  string
	}{
		{"0", 1, "0"}, {"99", 1, "99"}, {"99", 2, "99"}, {"99", 256, "99"},
		{"1,3,1,2", 1, "1,3,1,2"},
		{"1,3,1,2", 2, "1,1,1,1"},
		{"1,3,1,2", 4, "1,1,1,1"},
		{"1,3,1,2", 5, "1,1,1,1"},
		{"1,3,1,2", 256, "1,1,1,1"},
		{"0,1,2,99", 1, "0,1,2,99"},
		{"0,1,2,99", 2, "0,1,2,2"},
		{"0,1,2,99", 3, "0,1,1,1"},
		{"0,1,2,99", 4, "0,0,0,0"},
		{"4,4,2,2,4,4,3", 2, "4,4,2,2,4,4,3"},
		{"4,4,2,2,4,4,3", 3, "2,2,2,2,3,3,3"},
		{"4,4,2,2,4,4,3", 4, "2,2,2,2,2,2,2"},
		// Peaks of one pixel are lowered to the pass to the next one, not to what is around the group.
		{"0/6/2/7/0", 2, "0/2/2/2/0"},
		{"0/6/2/7/0", 3, "0/2/2/2/0"},
		{"0/6/2/7/0", 4, "0/0/0/0/0"},
		// Pixels in a corner only are not joined.
		{"5,0/0,5", 1, "5,0/0,5"},
		{"5,0/0,5", 2, "0,0/0,0"},
		{"5,5/0,5", 2, "5,5/0,5"},
		{"5,5/0,5", 3, "5,5/0,5"},
		{"5,5/0,5", 4, "0,0/0,0"},
		// Hollows stay.
		{"2,2,2/2,1,2/2,2,2", 8, "2,2,2/2,1,2/2,2,2"},
		{"2,2,2/2,1,2/2,2,2", 9, "1,1,1/1,1,1/1,1,1"},
		{"2,2,2/2,1,2/2,2,2", 10, "1,1,1/1,1,1/1,1,1"},
		{"1,1,1/1,2,1/1,1,1", 2, "1,1,1/1,1,1/1,1,1"},
	}
	for _, test := range tests {
		expect(t, fmt.Sprint("OpenAreas ", test.text, " ", test.least), results(impl.OpenAreas(grey(test.text), test.least)), grey(test.want), true)
	}
}

// openedAsDefined returns the greatest level of a node that has a pixel and enough others, for each pixel.
func openedAsDefined(g impl.Grey, nodes []levelSet, least int64) impl.Grey {
	return eachNumber(g, func(at impl.Spot) int64 {
		greatest := nodes[0].level
		for _, n := range nodes {
			if n.pixels.has(at) && n.pixels.size() >= least {
				greatest = max(greatest, n.level)
			}
		}
		return greatest
	})
}

func TestOpenAreasAsDefined(t *testing.T) {
	for _, g := range smallGreys() {
		nodes := levelSets(g)
		for least := int64(1); least <= greyWidth(g)*greyHeight(g)+1; least++ {
			expect(t, fmt.Sprint("OpenAreas ", textOf(g), " ", least), results(impl.OpenAreas(g, least)), openedAsDefined(g, nodes, least), true)
		}
	}
	for _, g := range sampleGreys() {
		nodes, count := levelSets(g), greyWidth(g)*greyHeight(g)
		for _, least := range []int64{1, 2, 3, 5, 9, 20, count - 1, count, count + 1, 255, 256} {
			if least < 1 || least > 256 {
				continue
			}
			expect(t, fmt.Sprint("OpenAreas ", textOf(g), " ", least), results(impl.OpenAreas(g, least)), openedAsDefined(g, nodes, least), true)
		}
	}
}

func TestOpenAreasKeepsComponentsOfThresholds(t *testing.T) {
	for _, g := range fewGreys() {
		for _, least := range []int64{1, 2, 3, 4, 7, 30, 100, 256} {
			open, _ := impl.OpenAreas(g, least)
			expect(t, fmt.Sprint("OpenAreas again ", textOf(g), " ", least), results(impl.OpenAreas(open, least)), open, true)
			lowest := slices.Min(slices.Concat(g.Rows...))
			for level := lowest + 1; level <= impl.MaxGrey+1; level++ {
				p, _ := impl.ThresholdGrey(g, level)
				want, _ := impl.KeepComponents(p, false, least)
				expect(t, fmt.Sprint("a threshold of OpenAreas ", textOf(g), " ", least, " ", level), results(impl.ThresholdGrey(open, level)), want, true)
			}
		}
	}
}

func TestMaximaByHand(t *testing.T) {
	tests := []struct{ text, want string }{
		{"0", "#"}, {"99", "#"}, {"1,3,1,2", ".#.#"}, {"1/3/1/2", "./#/./#"},
		{"0,1,2,99", "...#"}, {"99,2,1,0", "#..."}, {"7,7,7", "###"}, {"0,0/0,0", "##/##"},
		{"5,0,5", "#.#"}, {"4,4,2,2,4,4,3", "##..##."}, {"1,2,2,1,2,2,3", ".##...#"},
		// A plateau beside a greater number is none, although most of its pixels are.
		{"2,2,2,2,3", "....#"}, {"3,2,2,2,3", "#...#"},
		// A greater number in a corner is not a neighbour.
		{"1,1,0/1,1,0/0,0,5", "##./##./..#"}, {"5,0/0,3", "#./.#"}, {"0,3/5,0", ".#/#."},
		{"1,1,1/1,2,1/1,1,1", ".../.#./..."}, {"2,2,2/2,1,2/2,2,2", "###/#.#/###"},
		{"2,2,2,2,2/2,1,1,1,2/2,1,3,1,2/2,1,1,1,2/2,2,2,2,2", "#####/#...#/#.#.#/#...#/#####"},
		{"4,1,4/4,4,4/0,0,0", "#.#/###/..."},
	}
	for _, test := range tests {
		expect(t, "MaximaOf "+test.text, results(impl.MaximaOf(grey(test.text))), drawn(test.want), true)
	}
}

func TestMaximaAsDefined(t *testing.T) {
	for _, g := range append(smallGreys(), sampleGreys()...) {
		tree := treeOfSets(g, levelSets(g))
		want := blackWhere(g, func(at impl.Spot) bool { return !slices.Contains(tree.Parents, tree.Nodes[at.Y][at.X]) })
		expect(t, "MaximaOf "+textOf(g), results(impl.MaximaOf(g)), want, true)
		// From a pixel of such a node, no way leads to a greater number without going down before.
		want = blackWhere(g, func(at impl.Spot) bool {
			return !slices.ContainsFunc(upTo(g, at, numberAt(g, at)).pixels(), func(s impl.Spot) bool { return numberAt(g, s) > numberAt(g, at) })
		})
		expect(t, "MaximaOf by ways "+textOf(g), results(impl.MaximaOf(g)), want, true)
	}
}

func TestReconstructGreyByHand(t *testing.T) {
	tests := []struct{ marker, mask, want string }{
		{"0", "0", "0"}, {"0", "99", "0"}, {"99", "99", "99"}, {"5", "9", "5"},
		{"0,0,2,0,0", "1,5,2,4,0", "1,2,2,2,0"},
		{"1,3,0,2,0", "1,5,2,4,0", "1,3,2,2,0"},
		// The mask itself, nothing, and all but one pixel.
		{"1,5,2,4,0", "1,5,2,4,0", "1,5,2,4,0"},
		{"0,0,0,0,0", "1,5,2,4,0", "0,0,0,0,0"},
		{"1,4,2,4,0", "1,5,2,4,0", "1,4,2,4,0"},
		{"1,5,1,4,0", "1,5,2,4,0", "1,5,2,4,0"},
		{"1,5,2,3,0", "1,5,2,4,0", "1,5,2,3,0"},
		// A way goes over the lowest pass that it must, and a detour can be better.
		{"9,0,0", "9,4,9", "9,4,4"},
		{"9,0,0/0,0,0", "9,4,9/6,6,6", "9,4,6/6,6,6"},
		{"0,0,0/0,0,0/0,0,9", "9,9,9/9,2,9/9,1,9", "9,9,9/9,2,9/9,1,9"},
		{"0,0,0/9,0,0/0,0,0", "3,7,3/9,5,8/3,7,3", "3,5,3/9,5,5/3,5,3"},
		// Pixels in a corner only are not joined.
		{"5,0/0,0", "5,0/0,5", "5,0/0,0"},
		{"0,5/0,0", "1,5/5,1", "1,5/1,1"},
		// Of two ways, the one over the greater numbers, from whichever side.
		{"8,0,0,0,6", "8,3,9,5,6", "8,3,5,5,6"},
		{"6/0/0/0/8", "6/5/9/3/8", "6/5/5/3/8"},
		{"4,0,0", "4,9,9", "4,4,4"},
		{"0,0,4", "9,9,9", "4,4,4"},
		{"2,0,3,0,1", "9,9,9,9,9", "3,3,3,3,3"},
		{"0,99,0", "99,99,99", "99,99,99"},
	}
	for _, test := range tests {
		expect(t, "ReconstructGrey "+test.marker+" "+test.mask, results(impl.ReconstructGrey(grey(test.marker), grey(test.mask))), grey(test.want), true)
	}
}

// reconstructedAsDefined returns for each pixel the greatest n with a way to a pixel where the marker is at least n.
func reconstructedAsDefined(marker, mask impl.Grey) impl.Grey {
	greatest := map[impl.Spot]int64{}
	for n := range slices.Max(slices.Concat(marker.Rows...)) + 1 {
		var done pixelSet
		for _, from := range pixelsOfGrey(mask) {
			if numberAt(marker, from) >= n && !done.has(from) {
				done = done.with(upTo(mask, from, n))
			}
		}
		for _, at := range done.pixels() {
			greatest[at] = n
		}
	}
	return eachNumber(mask, func(at impl.Spot) int64 { return greatest[at] })
}

// markerBelow returns an arbitrary marker that is nowhere greater than a mask.
func (n *noise) markerBelow(mask impl.Grey) impl.Grey {
	kind := n.below(4)
	return eachNumber(mask, func(at impl.Spot) int64 {
		number := numberAt(mask, at)
		switch {
		case kind == 0:
			return n.below(number + 1)
		case kind == 1 && n.below(5) > 0, kind == 2 && n.below(20) > 0:
			return 0
		case kind == 3:
			return max(0, number-n.below(10))
		}
		return number
	})
}

func checkReconstruction(t *testing.T, marker, mask impl.Grey) {
	t.Helper()
	what := "ReconstructGrey " + textOf(marker) + " " + textOf(mask)
	expect(t, what, results(impl.ReconstructGrey(marker, mask)), reconstructedAsDefined(marker, mask), true)
}

func TestReconstructGreyAsDefined(t *testing.T) {
	for _, size := range [][2]int64{{1, 1}, {3, 1}, {1, 3}, {2, 2}} {
		list := allGreys(size[0], size[1], 2)
		for _, marker := range list {
			for _, mask := range list {
				if slices.ContainsFunc(pixelsOfGrey(mask), func(at impl.Spot) bool { return numberAt(marker, at) > numberAt(mask, at) }) {
					expectFailure(t, "ReconstructGrey "+textOf(marker)+" "+textOf(mask), results(impl.ReconstructGrey(marker, mask)))
				} else {
					checkReconstruction(t, marker, mask)
				}
			}
		}
	}
	source := noise(75)
	for _, mask := range sampleGreys() {
		checkReconstruction(t, source.markerBelow(mask), mask)
		checkReconstruction(t, source.markerBelow(mask), mask)
	}
}

func TestReconstructGreyFromExtremeMarkers(t *testing.T) {
	for _, mask := range append(fewGreys(), largeGreys()...) {
		nothing := eachNumber(mask, func(at impl.Spot) int64 { return 0 })
		expect(t, "ReconstructGrey itself "+textOf(mask), results(impl.ReconstructGrey(mask, mask)), mask, true)
		expect(t, "ReconstructGrey nothing "+textOf(mask), results(impl.ReconstructGrey(nothing, mask)), nothing, true)
		pixels := pixelsOfGrey(mask)
		for _, one := range []impl.Spot{pixels[0], pixels[len(pixels)/2], pixels[len(pixels)-1]} {
			// A marker that is 0 at all pixels but one, and one that is less at all pixels but one.
			checkReconstruction(t, eachNumber(mask, func(at impl.Spot) int64 {
				if at == one {
					return numberAt(mask, at)
				}
				return 0
			}), mask)
			checkReconstruction(t, eachNumber(mask, func(at impl.Spot) int64 {
				if at == one {
					return numberAt(mask, at)
				}
				return max(0, numberAt(mask, at)-1)
			}), mask)
		}
	}
}

func TestThresholdsOfReconstructGrey(t *testing.T) {
	source := noise(76)
	for _, mask := range fewGreys() {
		marker := source.markerBelow(mask)
		grown, _ := impl.ReconstructGrey(marker, mask)
		expect(t, "ReconstructGrey again", results(impl.ReconstructGrey(grown, mask)), grown, true)
		for level := range int64(impl.MaxGrey + 2) {
			p, _ := impl.ThresholdGrey(marker, level)
			q, _ := impl.ThresholdGrey(mask, level)
			want, _ := impl.ReconstructPicture(p, q, false)
			what := fmt.Sprint("a threshold of ReconstructGrey ", textOf(marker), " ", textOf(mask), " ", level)
			expect(t, what, results(impl.ThresholdGrey(grown, level)), want, true)
		}
	}
}

func TestCutPeaksByHand(t *testing.T) {
	tests := []struct {
		text   string
		height int64
		want   string
	}{
		{"0", 0, "0"}, {"0", 99, "0"}, {"99", 0, "99"}, {"99", 1, "98"}, {"99", 99, "0"}, {"5", 7, "0"},
		{"1,5,2,4,0", 0, "1,5,2,4,0"},
		{"1,5,2,4,0", 1, "1,4,2,3,0"},
		{"1,5,2,4,0", 2, "1,3,2,2,0"},
		{"1,5,2,4,0", 3, "1,2,2,2,0"},
		{"1,5,2,4,0", 4, "1,1,1,1,0"},
		{"1,5,2,4,0", 5, "0,0,0,0,0"},
		{"1,5,2,4,0", 99, "0,0,0,0,0"},
		{"1,3,1,2", 1, "1,2,1,1"},
		{"1,3,1,2", 2, "1,1,1,1"},
		// A plateau loses its height as a whole, a hollow none.
		{"9,9,9/9,1,9/9,9,9", 3, "6,6,6/6,1,6/6,6,6"},
		{"1,1,1/1,9,1/1,1,1", 3, "1,1,1/1,6,1/1,1,1"},
		{"50,99/99,50", 49, "50,50/50,50"},
		{"50,99/99,50", 50, "49,49/49,49"},
	}
	for _, test := range tests {
		expect(t, fmt.Sprint("CutPeaks ", test.text, " ", test.height), results(impl.CutPeaks(grey(test.text), test.height)), grey(test.want), true)
	}
}

func TestCutPeaksAsDefined(t *testing.T) {
	for _, g := range append(fewGreys(), sampleGreys()...) {
		for _, height := range []int64{0, 1, 2, 5, 30, 98, 99} {
			marker := eachNumber(g, func(at impl.Spot) int64 { return max(0, numberAt(g, at)-height) })
			expect(t, fmt.Sprint("CutPeaks ", textOf(g), " ", height), results(impl.CutPeaks(g, height)), reconstructedAsDefined(marker, g), true)
		}
	}
}

func TestCutPeaksBy1FindsTheMaxima(t *testing.T) {
	for _, g := range append(smallGreys(), sampleGreys()...) {
		cut, _ := impl.CutPeaks(g, 1)
		maxima, _ := impl.MaximaOf(g)
		for _, at := range pixelsOfGrey(g) {
			isPeak := isBlack(maxima, at.X, at.Y) && numberAt(g, at) > 0
			if less := numberAt(g, at) - numberAt(cut, at); less != 0 && less != 1 || isPeak != (less == 1) {
				t.Fatalf("CutPeaks %s 1: %s, but the maxima are %q", textOf(g), textOf(cut), maxima.Rows)
			}
		}
	}
}

func TestFloodMarksByHand(t *testing.T) {
	tests := []struct{ text, marks, want string }{
		{"0", "1", "1"}, {"99", "9", "9"}, {"5,5", "10", "11"}, {"5,5", "03", "33"}, {"5/5", "0/3", "3/3"},
		{"1,3,1,2", "1002", "1122"},
		// Marks on all pixels, and the same mark at several pixels.
		{"4,0,7", "312", "312"},
		{"4,0,7,1", "3003", "3333"},
		{"1,1,1,1,1,1", "200102", "221112"},
		// On a plateau, the marks go on by turns, and the first one in reading order begins.
		{"5,5,5", "102", "112"}, {"5,5,5", "201", "221"}, {"5/5/5", "1/0/2", "1/1/2"},
		{"5,5,5,5", "1002", "1122"},
		{"5,5,5,5,5", "10002", "11122"}, {"0,0,0,0,0,0", "100002", "111222"}, {"9,9,9,9,9,9,9", "1000002", "1111222"},
		{"7,7,7/7,7,7/7,7,7", "100/000/002", "111/112/122"}, {"7,7,7/7,7,7/7,7,7", "001/000/200", "111/211/221"},
		// One that is lower comes first, wherever it lies.
		{"5,5,4", "102", "122"}, {"4,5,5", "102", "112"}, {"9,9,1", "102", "122"}, {"9,5,1", "102", "122"}, {"1,9,9", "102", "112"},
		// A mark that goes over a high pixel has its height from then on.
		{"0,9,0,0,5,0", "100002", "112222"}, {"0,9,0,0,5,9,0", "1000002", "1111222"}, {"0,8,0,0,5,9,0", "1000002", "1111122"},
		{"0,4,0,0,5,0", "100002", "111122"}, {"0,5,0,0,4,0", "100002", "112222"},
		{"0,5,0,5,0", "10002", "11122"}, {"0,5,0,4,0", "10002", "11222"},
		// A pass that is reached from both sides at once belongs to the one that has waited longest.
		{"0,9,0", "102", "112"}, {"0,9,0", "201", "221"},
		{"3,1,9,0,2", "10002", "11222"}, {"2,0,9,1,3", "10002", "11122"}, {"1,0,9,0,1", "10002", "11122"},
		// Marks that touch leave nothing between them.
		{"1,2,3,4", "1200", "1222"}, {"4,3,2,1", "0120", "1122"},
		{"1,5/5,1", "10/02", "11/12"}, {"1,5/5,1", "01/20", "11/21"},
		// Marks go over sides only, not over corners.
		{"0,9/9,0", "10/00", "11/11"}, {"0,9,9/9,0,9/9,9,1", "100/000/002", "111/112/122"},
		// Around a wall.
		{"0,9,0/0,9,0/0,0,0", "102/000/000", "112/112/112"}, {"0,9,0/0,9,0/0,0,0", "102/000/001", "112/112/111"},
	}
	for _, test := range tests {
		expect(t, "FloodMarks "+test.text+" "+test.marks, results(impl.FloodMarks(grey(test.text), numbered(test.marks))), numbered(test.want), true)
	}
}

// waiter is a pixel that waits, with its height.
type waiter struct {
	at     impl.Spot
	height int64
}

// floodAsDefined keeps those that wait in the order in which they began to.
func floodAsDefined(g impl.Grey, marks [][]int64) [][]int64 {
	var waiting []waiter
	result := eachNumber(g, func(at impl.Spot) int64 { return marks[at.Y][at.X] }).Rows
	for _, at := range pixelsOfGrey(g) {
		if marks[at.Y][at.X] != 0 {
			waiting = append(waiting, waiter{at, numberAt(g, at)})
		}
	}
	for len(waiting) > 0 {
		next := 0
		for i, w := range waiting {
			if w.height < waiting[next].height {
				next = i
			}
		}
		taken := waiting[next]
		waiting = slices.Delete(waiting, next, next+1)
		for _, to := range joinedTo(g, taken.at) {
			if result[to.Y][to.X] == 0 {
				result[to.Y][to.X] = result[taken.at.Y][taken.at.X]
				waiting = append(waiting, waiter{to, max(taken.height, numberAt(g, to))})
			}
		}
	}
	return result
}

func hasMark(marks [][]int64) bool { return slices.Max(slices.Concat(marks...)) > 0 }

// marksFor returns arbitrary marks for a grey picture, about one for so many pixels, and at least one.
func (n *noise) marksFor(g impl.Grey, pixels, greatest int64) [][]int64 {
	marks := eachNumber(g, func(at impl.Spot) int64 {
		if n.below(pixels) > 0 {
			return 0
		}
		return 1 + n.below(greatest)
	}).Rows
	marks[n.below(greyHeight(g))][n.below(greyWidth(g))] = 1 + n.below(greatest)
	return marks
}

func TestFloodMarksAsDefined(t *testing.T) {
	for _, size := range [][2]int64{{4, 1}, {1, 4}, {2, 2}} {
		for _, g := range allGreys(size[0], size[1], 2) {
			for _, marks := range allGreys(size[0], size[1], 2) {
				if hasMark(marks.Rows) {
					expect(t, "FloodMarks "+textOf(g)+" "+textOf(marks), results(impl.FloodMarks(g, marks.Rows)), floodAsDefined(g, marks.Rows), true)
				}
			}
		}
	}
	source := noise(77)
	for _, g := range sampleGreys() {
		for _, pixels := range []int64{1, 2, 10, 60, 1000} {
			marks := source.marksFor(g, pixels, 1+source.below(impl.MaxMark))
			expect(t, fmt.Sprint("FloodMarks ", textOf(g), marks), results(impl.FloodMarks(g, marks)), floodAsDefined(g, marks), true)
		}
	}
}

func TestFloodMarksOnPlateaus(t *testing.T) {
	ground := []impl.Grey{flat(3, 3, 5), flat(5, 2, 0), flat(2, 4, 99), digits("010/111/010"), digits("000/010/000"), digits("111/101/111")}
	for _, g := range ground {
		for _, p := range allPictures(int(greyWidth(g)), int(greyHeight(g))) {
			// Each black pixel has another mark, so that each step of the flood shows.
			count := int64(0)
			marks := eachPixel(p, func(at impl.Spot) int64 {
				if !isBlack(p, at.X, at.Y) || count == impl.MaxMark {
					return 0
				}
				count++
				return count
			})
			if count > 0 {
				expect(t, fmt.Sprint("FloodMarks ", textOf(g), marks), results(impl.FloodMarks(g, marks)), floodAsDefined(g, marks), true)
			}
		}
	}
}

// passFrom returns the least height of a way from a pixel with one of some marks to each pixel, or MaxGrey + 1.
func passFrom(g impl.Grey, has func(at impl.Spot) bool) map[impl.Spot]int64 {
	pass := map[impl.Spot]int64{}
	for height := int64(impl.MaxGrey); height >= 0; height-- {
		var low pixelSet
		for _, from := range pixelsOfGrey(g) {
			if has(from) && !low.has(from) {
				low = low.with(partAround(g, from, func(at impl.Spot) bool { return numberAt(g, at) <= height }))
			}
		}
		for _, at := range low.pixels() {
			pass[at] = height
		}
	}
	return pass
}

func TestFloodsReachEachPixelAsLowAsCanBe(t *testing.T) {
	source := noise(78)
	for _, g := range fewGreys() {
		marks := source.marksFor(g, 12, 4)
		reached, _ := impl.FloodMarks(g, marks)
		markAt := func(at impl.Spot) int64 { return marks[at.Y][at.X] }
		lowest := passFrom(g, func(at impl.Spot) bool { return markAt(at) != 0 })
		for mark := range int64(impl.MaxMark + 1) {
			own := passFrom(g, func(at impl.Spot) bool { return markAt(at) != 0 && markAt(at) == mark })
			var region pixelSet
			for _, at := range pixelsOfGrey(g) {
				if markAt(at) == mark && mark != 0 {
					region = region.with(partAround(g, at, func(s impl.Spot) bool { return reached[s.Y][s.X] == mark }))
				}
			}
			for _, at := range pixelsOfGrey(g) {
				if reached[at.Y][at.X] != mark {
					continue
				}
				// The mark comes from a pixel that has it from the first on, over pixels that get it.
				if pass, ok := own[at]; !ok || pass != lowest[at] || !region.has(at) {
					t.Fatalf("FloodMarks %s %v: the mark %d at %v comes over %d, and another one over %d", textOf(g), marks, mark, at, pass, lowest[at])
				}
			}
		}
	}
}

func TestGreyTextByHand(t *testing.T) {
	tests := []struct {
		text string
		rows [][]int64
	}{
		{"0", [][]int64{{0}}}, {"99", [][]int64{{99}}}, {"10", [][]int64{{10}}}, {"1,3,1,2", [][]int64{{1, 3, 1, 2}}},
		{"1/3/1/2", [][]int64{{1}, {3}, {1}, {2}}}, {"0,99/99,0", [][]int64{{0, 99}, {99, 0}}}, {"12,3,45/6,78,9", [][]int64{{12, 3, 45}, {6, 78, 9}}},
		{"0,0,0,0,0,0,0,0,0,0,0,0,0,0,0,0", [][]int64{make([]int64, 16)}},
	}
	for _, test := range tests {
		expect(t, "GreyText "+test.text, results(impl.GreyText(impl.Grey{Rows: test.rows})), test.text, true)
		expect(t, "ReadGrey "+test.text, results(impl.ReadGrey(test.text)), impl.Grey{Rows: test.rows}, true)
	}
}

func TestGreyTextsAreReadBack(t *testing.T) {
	for _, g := range append(smallGreys(), sampleGreys()...) {
		expect(t, "GreyText "+textOf(g), results(impl.GreyText(g)), textOf(g), true)
		expect(t, "ReadGrey "+textOf(g), results(impl.ReadGrey(textOf(g))), g, true)
	}
}

// changedGreyTexts returns the texts that differ from one in one byte, which is left out, or another one takes
// the place of, or comes before.
func changedGreyTexts(s string) []string {
	var list []string
	for i := range len(s) + 1 {
		for _, letter := range "0159,/-+ n." {
			list = append(list, s[:i]+string(letter)+s[i:])
			if i < len(s) {
				list = append(list, s[:i]+string(letter)+s[i+1:])
			}
		}
		if i < len(s) {
			list = append(list, s[:i]+s[i+1:])
		}
	}
	return list
}

// isGreyText reports whether a text has rows of as many numbers as each other, without anything that Atoi reads too.
func isGreyText(s string) bool {
	lines := strings.Split(s, "/")
	for _, line := range lines {
		words := strings.Split(line, ",")
		if len(words) != len(strings.Split(lines[0], ",")) || len(words) > 16 {
			return false
		}
		for _, word := range words {
			n, err := strconv.Atoi(word)
			if err != nil || n < 0 || n > 99 || strconv.Itoa(n) != word {
				return false
			}
		}
	}
	return len(lines) <= 16
}

func TestTextsThatDifferInOneByte(t *testing.T) {
	texts := []string{"0", "9", "10", "99", "1,3", "1/3", "0,99/50,1", "1,0/0,1/5,5", "0,0,0,0,0,0,0,0,0,0,0,0,0,0,0,0", "0/0/0/0/0/0/0/0/0/0/0/0/0/0/0/0"}
	for _, text := range texts {
		for _, other := range changedGreyTexts(text) {
			got := results(impl.ReadGrey(other))
			if isGreyText(other) {
				expect(t, "ReadGrey "+other, got, grey(other), true)
			} else {
				expectFailure(t, "ReadGrey "+other, got)
			}
		}
	}
}
