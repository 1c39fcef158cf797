package tests

import (
	"fmt"
	"slices"
	"strings"
	"testing"

	"loop.example/g01165/impl"
)

// The tests in this file are those of promise 6: what the functions of chapter 5 return for valid arguments.

// bothKinds are the values that eight can have.
var bothKinds = []bool{false, true}

// pixelBesideRing is the text of a picture with a ring and a pixel in one hole, the ring first.
const pixelBesideRing = "#########/#.......#/#.###...#/#.#.#.#.#/#.###...#/#.......#/#########"

// ringWithTail is the text of a picture with a line that ends.
const ringWithTail = "###..../#.#####/###...."

// nestedRings returns the picture of rings within one another, black and white in turn.
func nestedRings(side int64) impl.Picture {
	return painted(side, side, func(x, y int64) bool { return min(x, y, side-1-x, side-1-y)%2 == 0 })
}

// loosePixels returns the picture of black pixels that do not even meet in corners.
func loosePixels() impl.Picture {
	return painted(16, 16, func(x, y int64) bool { return x%2 == 0 && y%2 == 0 })
}

// holedPicture returns the black picture with white pixels that a rule chooses, none of them at the edge.
func holedPicture(white func(x, y int64) bool) impl.Picture {
	return painted(16, 16, func(x, y int64) bool { return min(x, y) < 1 || max(x, y) > 14 || !white(x, y) })
}

// comb returns the picture of lines that come together only in the last row.
func comb() impl.Picture {
	return painted(15, 16, func(x, y int64) bool { return x%2 == 0 || y == 15 })
}

// topologyPictures returns pictures with components and holes of all kinds.
func topologyPictures() []impl.Picture {
	list := append(borderPictures(), nestedRings(16), nestedRings(15), nestedRings(14), loosePixels(), comb(), drawn(pixelBesideRing), drawn(ringWithTail))
	list = append(list, holedPicture(func(x, y int64) bool { return (x+y)%2 == 0 }), holedPicture(func(x, y int64) bool { return x%2 == 1 && y%2 == 1 }))
	source := noise(31)
	for range 60 {
		list = append(list, source.grainy(9, 9, 5, true), source.grainy(7, 8, 3, true), source.grainy(8, 7, 3, false))
	}
	return list
}

// numbersAsDefined returns for each row and each pixel the number of its component, found by going from one pixel to the others.
func numbersAsDefined(p impl.Picture, eight bool) ([][]int64, int64) {
	rows := make([][]int64, heightOf(p))
	for y := range rows {
		rows[y] = make([]int64, widthOf(p))
	}
	count := int64(0)
	for y := range heightOf(p) {
		for x := range widthOf(p) {
			if !isBlack(p, x, y) || rows[y][x] != 0 {
				continue
			}
			count++
			for s := range reached(impl.Spot{X: x, Y: y}, eight, func(x, y int64) bool { return isBlack(p, x, y) }) {
				rows[s.Y][s.X] = count
			}
		}
	}
	return rows, count
}

// areasAsDefined returns the numbers of pixels of all components.
func areasAsDefined(p impl.Picture, eight bool) []int64 {
	rows, count := numbersAsDefined(p, eight)
	areas := make([]int64, count)
	for _, number := range slices.Concat(rows...) {
		if number > 0 {
			areas[number-1]++
		}
	}
	return areas
}

// whitesFrom returns the white pixels that are reached from one of them, and those around the picture.
func whitesFrom(p impl.Picture, from impl.Spot, eight bool) map[impl.Spot]bool {
	return reached(from, eight, func(x, y int64) bool {
		return x >= -1 && x <= widthOf(p) && y >= -1 && y <= heightOf(p) && !isBlack(p, x, y)
	})
}

// holesAsDefined returns the sets of white pixels from which the outside is not reached.
func holesAsDefined(p impl.Picture, eight bool) []map[impl.Spot]bool {
	var holes []map[impl.Spot]bool
	outside := whitesFrom(p, impl.Spot{X: -1, Y: -1}, !eight)
	known := map[impl.Spot]bool{}
	for y := range heightOf(p) {
		for x := range widthOf(p) {
			at := impl.Spot{X: x, Y: y}
			if isBlack(p, x, y) || outside[at] || known[at] {
				continue
			}
			hole := whitesFrom(p, at, !eight)
			for s := range hole {
				known[s] = true
			}
			holes = append(holes, hole)
		}
	}
	return holes
}

// nodesAsDefined returns the sets of pixels that are the nodes of the tree, the outside first.
func nodesAsDefined(p impl.Picture) []map[impl.Spot]bool {
	nodes := append([]map[impl.Spot]bool{whitesFrom(p, impl.Spot{X: -1, Y: -1}, false)}, holesAsDefined(p, true)...)
	rows, count := numbersAsDefined(p, true)
	for number := range count {
		component := map[impl.Spot]bool{}
		for y, row := range rows {
			for x := range row {
				if row[x] == number+1 {
					component[impl.Spot{X: int64(x), Y: int64(y)}] = true
				}
			}
		}
		nodes = append(nodes, component)
	}
	return nodes
}

// touch reports whether a pixel of one set is next to one of the other, across or up or down.
func touch(a, b map[impl.Spot]bool) bool {
	for s := range a {
		if b[impl.Spot{X: s.X + 1, Y: s.Y}] || b[impl.Spot{X: s.X - 1, Y: s.Y}] || b[impl.Spot{X: s.X, Y: s.Y + 1}] || b[impl.Spot{X: s.X, Y: s.Y - 1}] {
			return true
		}
	}
	return false
}

// codeAsDefined returns the code and the depth of the tree, which goes from the outside to what touches it, and on from there.
func codeAsDefined(p impl.Picture) (string, int64) {
	nodes := nodesAsDefined(p)
	visited := make([]bool, len(nodes))
	var visit func(i int) (string, int64)
	visit = func(i int) (string, int64) {
		visited[i] = true
		var codes []string
		deepest := int64(0)
		for j := range nodes {
			if !visited[j] && touch(nodes[i], nodes[j]) {
				code, depth := visit(j)
				codes = append(codes, code)
				deepest = max(deepest, depth+1)
			}
		}
		slices.Sort(codes)
		return "(" + strings.Join(codes, "") + ")", deepest
	}
	code, depth := visit(0)
	if slices.Contains(visited, false) {
		panic(fmt.Sprintf("a node of %q is not below the outside", p.Rows))
	}
	return code, depth
}

// around returns the eight spots around one.
func around(at impl.Spot) []impl.Spot {
	var list []impl.Spot
	for y := at.Y - 1; y <= at.Y+1; y++ {
		for x := at.X - 1; x <= at.X+1; x++ {
			if x != at.X || y != at.Y {
				list = append(list, impl.Spot{X: x, Y: y})
			}
		}
	}
	return list
}

// blacksAround returns how many pixels around one are black.
func blacksAround(p impl.Picture, at impl.Spot) int {
	count := 0
	for _, s := range around(at) {
		if isBlack(p, s.X, s.Y) {
			count++
		}
	}
	return count
}

// partsAround returns how many parts of one colour there are around a pixel that have a neighbour of it.
func partsAround(p impl.Picture, at impl.Spot, black, eight bool) int {
	parts := 0
	known := map[impl.Spot]bool{}
	for _, s := range around(at) {
		near := eight || s.X == at.X || s.Y == at.Y
		if !near || known[s] || isBlack(p, s.X, s.Y) != black {
			continue
		}
		parts++
		part := reached(s, eight, func(x, y int64) bool {
			return isBlack(p, x, y) == black && slices.Contains(around(at), impl.Spot{X: x, Y: y})
		})
		for other := range part {
			known[other] = true
		}
	}
	return parts
}

// simpleAsDefined reports whether there is a black pixel, and this is simple.
func simpleAsDefined(p impl.Picture, at impl.Spot, eight bool) bool {
	return isBlack(p, at.X, at.Y) && partsAround(p, at, true, eight) == 1 && partsAround(p, at, false, !eight) == 1
}

// erasedAsDefined returns what is left if simple pixels with so many black ones around them are made white, and in how many rounds one was.
func erasedAsDefined(p impl.Picture, eight bool, least int) (impl.Picture, int) {
	rows := make([][]byte, heightOf(p))
	for y := range rows {
		rows[y] = []byte(p.Rows[y])
	}
	left := func() impl.Picture {
		return painted(widthOf(p), heightOf(p), func(x, y int64) bool { return rows[y][x] == '#' })
	}
	for rounds := 0; ; rounds++ {
		changed := false
		now := left()
		for y := range heightOf(p) {
			for x := range widthOf(p) {
				at := impl.Spot{X: x, Y: y}
				if isBlack(now, x, y) && blacksAround(now, at) >= least && simpleAsDefined(now, at, eight) {
					rows[y][x] = '.'
					now = left()
					changed = true
				}
			}
		}
		if !changed {
			return now, rounds
		}
	}
}

// numbered returns lists of numbers that are given by their digits.
func numbered(text string) [][]int64 {
	var rows [][]int64
	for _, line := range strings.Split(text, "/") {
		var row []int64
		for _, digit := range []byte(line) {
			row = append(row, int64(digit-'0'))
		}
		rows = append(rows, row)
	}
	return rows
}

// components collects the results of ComponentsOf.
func components(p impl.Picture, eight bool) []any {
	rows, count, ok := impl.ComponentsOf(p, eight)
	return results(rows, count, ok)
}

func TestChapter5Examples(t *testing.T) {
	ring := drawn("###/#.#/###")
	for _, eight := range bothKinds {
		expect(t, "ComponentsOf a ring", components(ring, eight), numbered("111/101/111"), 1, true)
		expect(t, "CountHoles of a ring", results(impl.CountHoles(ring, eight)), 1, true)
		expect(t, "EulerNumber of a ring", results(impl.EulerNumber(ring, eight)), 0, true)
		expect(t, "IsSimple in the middle of a line", results(impl.IsSimple(drawn("###"), impl.Spot{X: 1}, eight)), false)
		expect(t, "IsSimple on the left of a line", results(impl.IsSimple(drawn("###"), impl.Spot{}, eight)), true)
	}
	expect(t, "TreeCode of a ring", results(impl.TreeCode(ring)), "((()))", true)
}

func TestComponentsByHand(t *testing.T) {
	tests := []struct {
		text, four, eight string
		count             [2]int
	}{
		{".", "0", "0", [2]int{0, 0}},
		{"#", "1", "1", [2]int{1, 1}},
		{"..../....", "0000/0000", "0000/0000", [2]int{0, 0}},
		{"##/##", "11/11", "11/11", [2]int{1, 1}},
		// One row, in which all begin, and one column.
		{"##.#.##", "1102033", "1102033", [2]int{3, 3}},
		{"#/./#/#", "1/0/2/2", "1/0/2/2", [2]int{2, 2}},
		// Pixels that meet in a corner only, over both diagonals.
		{"#./.#", "10/02", "10/01", [2]int{2, 1}},
		{".#/#.", "01/20", "01/10", [2]int{2, 1}},
		{"#.#/.#./..#", "102/030/004", "101/010/001", [2]int{4, 1}},
		{"..#/.#./#..", "001/020/300", "001/010/100", [2]int{3, 1}},
		// They come together only in a later row, from the left, from the right, and over corners.
		{"#.#/###", "101/111", "101/111", [2]int{1, 1}},
		{"#.#.#/#.#.#/###.#", "10102/10102/11102", "10102/10102/11102", [2]int{2, 2}},
		{"#.#.#/#.#.#/#.###", "10202/10202/10222", "10202/10202/10222", [2]int{2, 2}},
		{"..#/#.#/###", "001/101/111", "001/101/111", [2]int{1, 1}},
		{"#..#./.##.#", "10020/03304", "10010/01101", [2]int{4, 1}},
		{"#.#.#/#.###/###..", "10101/10111/11100", "10101/10111/11100", [2]int{1, 1}},
		// The number of one that begins later on the left.
		{".#.#/##.#", "0102/1102", "0102/1102", [2]int{2, 2}},
		{"...#/.#.#/##.#", "0001/0201/2201", "0001/0201/2201", [2]int{2, 2}},
		// All four sides and all four corners of the picture.
		{"#.#/.../#.#", "102/000/304", "102/000/304", [2]int{4, 4}},
		{".#./#.#/.#.", "010/203/040", "010/101/010", [2]int{4, 1}},
		// One within a hole.
		{pixelInHole, "11111/10001/10201/10001/11111", "11111/10001/10201/10001/11111", [2]int{2, 2}},
	}
	for _, test := range tests {
		p := drawn(test.text)
		expect(t, "ComponentsOf "+test.text, components(p, false), numbered(test.four), test.count[0], true)
		expect(t, "ComponentsOf eight "+test.text, components(p, true), numbered(test.eight), test.count[1], true)
	}
}

func TestComponentsAsDefined(t *testing.T) {
	for _, p := range topologyPictures() {
		for _, eight := range bothKinds {
			what := fmt.Sprintf(" %q %v", p.Rows, eight)
			rows, count := numbersAsDefined(p, eight)
			expect(t, "ComponentsOf"+what, components(p, eight), rows, count, true)
			expect(t, "AreasOf"+what, results(impl.AreasOf(p, eight)), areasAsDefined(p, eight), true)
		}
	}
}

func TestMostComponentsAndHoles(t *testing.T) {
	tests := []struct {
		p                 impl.Picture
		components, holes [2]int64
	}{
		{singlePixels(), [2]int64{128, 1}, [2]int64{0, 98}},
		{loosePixels(), [2]int64{64, 64}, [2]int64{0, 0}},
		{comb(), [2]int64{1, 1}, [2]int64{0, 0}},
		{black(16, 16), [2]int64{1, 1}, [2]int64{0, 0}},
		{painted(16, 16, func(x, y int64) bool { return false }), [2]int64{0, 0}, [2]int64{0, 0}},
		{holedPicture(func(x, y int64) bool { return (x+y)%2 == 0 }), [2]int64{73, 1}, [2]int64{1, 98}},
		{holedPicture(func(x, y int64) bool { return x%2 == 1 && y%2 == 1 }), [2]int64{1, 1}, [2]int64{49, 49}},
		{nestedRings(16), [2]int64{4, 4}, [2]int64{4, 4}},
	}
	for _, test := range tests {
		for i, eight := range bothKinds {
			what := fmt.Sprintf(" %q %v", test.p.Rows, eight)
			_, count, ok := impl.ComponentsOf(test.p, eight)
			expect(t, "ComponentsOf"+what, results(count, ok), test.components[i], true)
			expect(t, "CountHoles"+what, results(impl.CountHoles(test.p, eight)), test.holes[i], true)
			expect(t, "EulerNumber"+what, results(impl.EulerNumber(test.p, eight)), test.components[i]-test.holes[i], true)
		}
	}
}

func TestHolesByHand(t *testing.T) {
	tests := []struct {
		text         string
		holes, euler [2]int
	}{
		{".", [2]int{0, 0}, [2]int{0, 0}},
		{"#", [2]int{0, 0}, [2]int{1, 1}},
		{"################", [2]int{0, 0}, [2]int{1, 1}},
		{"#.#", [2]int{0, 0}, [2]int{2, 2}},
		{"#/./#", [2]int{0, 0}, [2]int{2, 2}},
		// Holes of one pixel, and of several.
		{"###/#.#/###", [2]int{1, 1}, [2]int{0, 0}},
		{"####/#..#/####", [2]int{1, 1}, [2]int{0, 0}},
		{"####/#..#/#.##/####", [2]int{1, 1}, [2]int{0, 0}},
		{"#####/#...#/###.#/#####", [2]int{1, 1}, [2]int{0, 0}},
		{"#####/#.#.#/#####", [2]int{2, 2}, [2]int{-1, -1}},
		// White pixels that reach the edge, one side after the other.
		{"#.#/#.#/###", [2]int{0, 0}, [2]int{1, 1}},
		{"###/#../###", [2]int{0, 0}, [2]int{1, 1}},
		{"###/#.#/#.#", [2]int{0, 0}, [2]int{1, 1}},
		{"###/..#/###", [2]int{0, 0}, [2]int{1, 1}},
		{".##/###/###", [2]int{0, 0}, [2]int{1, 1}},
		// White pixels that meet the outside in a corner only, in each corner.
		{".##/#.#/###", [2]int{0, 1}, [2]int{1, 0}},
		{"##./#.#/###", [2]int{0, 1}, [2]int{1, 0}},
		{"###/#.#/.##", [2]int{0, 1}, [2]int{1, 0}},
		{"###/#.#/##.", [2]int{0, 1}, [2]int{1, 0}},
		{".#./#.#/.#.", [2]int{0, 1}, [2]int{4, 0}},
		// White pixels that meet another hole in a corner only, over both diagonals.
		{linkedHoles, [2]int{1, 2}, [2]int{0, -1}},
		{"####/##.#/#.##/####", [2]int{1, 2}, [2]int{0, -1}},
		{"####/#.##/##.#/###.", [2]int{0, 2}, [2]int{1, -1}},
		// A component within a hole, and one that meets what is around the hole in a corner.
		{pixelInHole, [2]int{1, 1}, [2]int{1, 1}},
		{"#####/#..##/#.#.#/##..#/#####", [2]int{1, 2}, [2]int{1, -1}},
	}
	for _, test := range tests {
		for i, eight := range bothKinds {
			what := fmt.Sprint(" ", test.text, " ", eight)
			expect(t, "CountHoles"+what, results(impl.CountHoles(drawn(test.text), eight)), test.holes[i], true)
			expect(t, "EulerNumber"+what, results(impl.EulerNumber(drawn(test.text), eight)), test.euler[i], true)
		}
	}
}

func TestHolesAsDefined(t *testing.T) {
	for _, p := range topologyPictures() {
		for _, eight := range bothKinds {
			what := fmt.Sprintf(" %q %v", p.Rows, eight)
			_, count := numbersAsDefined(p, eight)
			holes := int64(len(holesAsDefined(p, eight)))
			expect(t, "CountHoles"+what, results(impl.CountHoles(p, eight)), holes, true)
			expect(t, "EulerNumber"+what, results(impl.EulerNumber(p, eight)), count-holes, true)
		}
	}
}

func TestQuadCountsByHand(t *testing.T) {
	tests := []struct {
		text  string
		quads []int64
	}{
		{".", []int64{0, 0, 0}},
		{"#", []int64{4, 0, 0}},
		{"##", []int64{4, 0, 0}},
		{"#/#", []int64{4, 0, 0}},
		{"#.#", []int64{8, 0, 0}},
		{"##/##", []int64{4, 0, 0}},
		{"##/#.", []int64{5, 1, 0}},
		{"##/.#", []int64{5, 1, 0}},
		{"#./##", []int64{5, 1, 0}},
		{".#/##", []int64{5, 1, 0}},
		{"#./.#", []int64{6, 0, 1}},
		{".#/#.", []int64{6, 0, 1}},
		{"###/#.#/###", []int64{4, 4, 0}},
		{".#./#.#/.#.", []int64{8, 0, 4}},
		{linkedHoles, []int64{4, 6, 1}},
	}
	for _, test := range tests {
		expect(t, "QuadCounts "+test.text, results(impl.QuadCounts(drawn(test.text))), test.quads, true)
	}
	expect(t, "QuadCounts black", results(impl.QuadCounts(black(16, 16))), []int64{4, 0, 0}, true)
	expect(t, "QuadCounts of single pixels", results(impl.QuadCounts(singlePixels())), []int64{62, 0, 225}, true)
}

// quadsAsDefined returns how many quads have one, three, and two black pixels across a corner.
func quadsAsDefined(p impl.Picture) []int64 {
	counts := make([]int64, 3)
	for y := int64(-1); y < heightOf(p); y++ {
		for x := int64(-1); x < widthOf(p); x++ {
			text := ""
			for i := range int64(4) {
				if isBlack(p, x+i%2, y+i/2) {
					text += "#"
				} else {
					text += "."
				}
			}
			blacks := strings.Count(text, "#")
			switch {
			case blacks == 1:
				counts[0]++
			case blacks == 3:
				counts[1]++
			case text == "#..#" || text == ".##.":
				counts[2]++
			}
		}
	}
	return counts
}

func TestComponentsLessHolesAreWhatQuadsCount(t *testing.T) {
	for _, p := range topologyPictures() {
		what := fmt.Sprintf(" %q", p.Rows)
		quads, ok := impl.QuadCounts(p)
		expect(t, "QuadCounts"+what, results(quads, ok), quadsAsDefined(p), true)
		for _, eight := range bothKinds {
			_, count, _ := impl.ComponentsOf(p, eight)
			holes, _ := impl.CountHoles(p, eight)
			four := quads[0] - quads[1] + 2*quads[2]
			if eight {
				four -= 4 * quads[2]
			}
			if four != 4*(count-holes) {
				t.Errorf("the quads of%s %v: got %v for %d components and %d holes", what, eight, quads, count, holes)
			}
		}
	}
}

func TestAreasByHand(t *testing.T) {
	tests := []struct {
		text        string
		four, eight []int64
	}{
		{".", nil, nil},
		{"#", []int64{1}, []int64{1}},
		{"#.##.###", []int64{1, 2, 3}, []int64{1, 2, 3}},
		{"###.#", []int64{3, 1}, []int64{3, 1}},
		{"#./.#", []int64{1, 1}, []int64{2}},
		{"..##/##..", []int64{2, 2}, []int64{4}},
		{pixelInHole, []int64{16, 1}, []int64{16, 1}},
	}
	for _, test := range tests {
		expect(t, "AreasOf "+test.text, results(impl.AreasOf(drawn(test.text), false)), test.four, true)
		expect(t, "AreasOf eight "+test.text, results(impl.AreasOf(drawn(test.text), true)), test.eight, true)
	}
	expect(t, "AreasOf black", results(impl.AreasOf(black(16, 16), false)), []int64{256}, true)
	expect(t, "AreasOf single pixels", results(impl.AreasOf(singlePixels(), false)), slices.Repeat([]int64{1}, 128), true)
	expect(t, "AreasOf single pixels eight", results(impl.AreasOf(singlePixels(), true)), []int64{128}, true)
}

func TestLargestComponentByHand(t *testing.T) {
	tests := []struct {
		text, four, eight string
	}{
		{"#", "#", "#"},
		{"#.##", "..##", "..##"},
		{"##.#", "##..", "##.."},
		{"#.###.##", "..###...", "..###..."},
		// Several of most pixels.
		{"##.##", "##...", "##..."},
		{"#.##.##", "..##...", "..##..."},
		{"#/./#/./#", "#/./././.", "#/./././."},
		{"#.#/.#./..#", "#../.../...", "#.#/.#./..#"},
		// The largest one depends on eight.
		{"#..../.#.##/..#..", "...../...##/.....", "#..../.#.##/..#.."},
		{"#...##/.#..../..#...", "....##/....../......", "#...../.#..../..#..."},
		{pixelInHole, "#####/#...#/#...#/#...#/#####", "#####/#...#/#...#/#...#/#####"},
	}
	for _, test := range tests {
		expect(t, "LargestComponent "+test.text, results(impl.LargestComponent(drawn(test.text), false)), drawn(test.four), true)
		expect(t, "LargestComponent eight "+test.text, results(impl.LargestComponent(drawn(test.text), true)), drawn(test.eight), true)
	}
	expect(t, "LargestComponent black", results(impl.LargestComponent(black(16, 16), true)), black(16, 16), true)
}

// keptAsDefined returns the picture of the components whose numbers a rule allows.
func keptAsDefined(p impl.Picture, eight bool, keeps func(number int64) bool) impl.Picture {
	rows, _ := numbersAsDefined(p, eight)
	return painted(widthOf(p), heightOf(p), func(x, y int64) bool { return rows[y][x] > 0 && keeps(rows[y][x]) })
}

func TestComponentsAreKeptAsDefined(t *testing.T) {
	for _, p := range topologyPictures() {
		for _, eight := range bothKinds {
			what := fmt.Sprintf(" %q %v", p.Rows, eight)
			areas := areasAsDefined(p, eight)
			largest := int64(1)
			leasts := []int64{0, 1, 2, 255, 256}
			for i, area := range areas {
				if area > areas[largest-1] {
					largest = int64(i) + 1
				}
				if i < 3 {
					leasts = append(leasts, area-1, area, min(area+1, 256))
				}
			}
			for _, least := range leasts {
				want := keptAsDefined(p, eight, func(number int64) bool { return areas[number-1] >= least })
				expect(t, fmt.Sprint("KeepComponents", what, least), results(impl.KeepComponents(p, eight, least)), want, true)
			}
			if len(areas) == 0 {
				expectFailure(t, "LargestComponent"+what, results(impl.LargestComponent(p, eight)))
				continue
			}
			want := keptAsDefined(p, eight, func(number int64) bool { return number == largest })
			expect(t, "LargestComponent"+what, results(impl.LargestComponent(p, eight)), want, true)
		}
	}
}

func TestKeepComponentsByHand(t *testing.T) {
	texts := []string{"#.##.###", "#.##.###", "..##.###", ".....###", "........"}
	for _, eight := range bothKinds {
		for least, want := range texts {
			expect(t, fmt.Sprint("KeepComponents ", least), results(impl.KeepComponents(drawn(texts[0]), eight, int64(least))), drawn(want), true)
		}
		blank := painted(16, 16, func(x, y int64) bool { return false })
		one := painted(16, 16, func(x, y int64) bool { return x+y > 0 })
		expect(t, "KeepComponents 256 of 256", results(impl.KeepComponents(black(16, 16), eight, 256)), black(16, 16), true)
		expect(t, "KeepComponents 255 of 256", results(impl.KeepComponents(black(16, 16), eight, 255)), black(16, 16), true)
		expect(t, "KeepComponents 256 of 255", results(impl.KeepComponents(one, eight, 256)), blank, true)
		expect(t, "KeepComponents 255 of 255", results(impl.KeepComponents(one, eight, 255)), one, true)
		expect(t, "KeepComponents 0 of none", results(impl.KeepComponents(blank, eight, 0)), blank, true)
	}
	expect(t, "KeepComponents four", results(impl.KeepComponents(drawn("#./.#"), false, 2)), drawn("../.."), true)
	expect(t, "KeepComponents eight", results(impl.KeepComponents(drawn("#./.#"), true, 2)), drawn("#./.#"), true)
}

func TestIsSimpleByHand(t *testing.T) {
	tests := []struct {
		text        string
		x, y        int64
		four, eight bool
	}{
		{"#", 0, 0, false, false},
		{"##", 0, 0, true, true},
		{"##", 1, 0, true, true},
		{"#/#", 0, 1, true, true},
		{"###", 1, 0, false, false},
		{"#/#/#", 0, 1, false, false},
		// In the corners and on the sides of a black picture, and in its middle.
		{"###/###/###", 0, 0, true, true}, {"###/###/###", 2, 0, true, true}, {"###/###/###", 0, 2, true, true}, {"###/###/###", 2, 2, true, true},
		{"###/###/###", 1, 0, true, true}, {"###/###/###", 0, 1, true, true}, {"###/###/###", 2, 1, true, true}, {"###/###/###", 1, 2, true, true},
		{"###/###/###", 1, 1, false, false},
		// Pixels that meet in a corner only are neighbours with eight alone.
		{"#./.#", 0, 0, false, true}, {".#/#.", 1, 0, false, true},
		{"#../.#./..#", 1, 1, false, false}, {"#.#/.#./...", 1, 1, false, false},
		// One black pixel missing in the ring, at a side and in a corner.
		{"#.#/###/###", 1, 1, true, true}, {"###/##./###", 1, 1, true, true}, {".##/###/###", 1, 1, true, false}, {"###/###/##.", 1, 1, true, false},
		// The corner and the sides of a ring.
		{"###/#.#/###", 0, 0, false, true}, {"###/#.#/###", 2, 2, false, true}, {"###/#.#/###", 1, 0, false, false}, {"###/#.#/###", 0, 1, false, false},
		// Two sides with and without the corner between them.
		{"##/#.", 0, 0, false, true}, {"##/##", 0, 0, true, true},
		{".#./###/...", 1, 1, false, true}, {"##./##./...", 1, 1, true, true}, {".#./##./...", 1, 1, false, true},
		// A black corner that has no other black pixel next to it.
		{"#../.##/...", 1, 1, true, false}, {"..#/##./...", 1, 1, true, false},
		// What is joined elsewhere only counts as two parts.
		{"####/#.##/####", 1, 0, false, false}, {"#.#/###/#.#", 1, 1, false, false},
		// White and outside.
		{".", 0, 0, false, false}, {"#.#", 1, 0, false, false}, {"##", 2, 0, false, false}, {"##", -1, 0, false, false}, {"##", 0, 1, false, false}, {"##", 0, -1, false, false},
	}
	for _, test := range tests {
		at := impl.Spot{X: test.x, Y: test.y}
		what := fmt.Sprint("IsSimple ", test.text, " ", at)
		expect(t, what, results(impl.IsSimple(drawn(test.text), at, false)), test.four)
		expect(t, what+" eight", results(impl.IsSimple(drawn(test.text), at, true)), test.eight)
	}
}

// checkSimple compares IsSimple with its definition for one spot, and with what it says about components and holes.
func checkSimple(t *testing.T, p impl.Picture, at impl.Spot, eight bool) {
	t.Helper()
	what := fmt.Sprintf("IsSimple %q %v %v", p.Rows, at, eight)
	got := impl.IsSimple(p, at, eight)
	if got != simpleAsDefined(p, at, eight) {
		t.Errorf("%s: got %v", what, got)
	}
	if !got {
		return
	}
	less, _ := impl.SetPixel(p, at.X, at.Y, false)
	_, before, _ := impl.ComponentsOf(p, eight)
	_, after, _ := impl.ComponentsOf(less, eight)
	holesBefore, _ := impl.CountHoles(p, eight)
	holesAfter, _ := impl.CountHoles(less, eight)
	if before != after || holesBefore != holesAfter || eight && !impl.SameTopology(p, less) {
		t.Errorf("%s: making it white makes %d and %d components and holes of %d and %d", what, after, holesAfter, before, holesBefore)
	}
}

func TestIsSimpleAsDefined(t *testing.T) {
	for _, eight := range bothKinds {
		for _, p := range allPictures(3, 3) {
			for y := int64(-1); y <= 3; y++ {
				for x := int64(-1); x <= 3; x++ {
					checkSimple(t, p, impl.Spot{X: x, Y: y}, eight)
				}
			}
		}
		for i, p := range topologyPictures() {
			for y := range heightOf(p) {
				for x := range widthOf(p) {
					// Of the many pictures, a part of the spots is enough.
					if (x+3*y+int64(i))%7 == 0 {
						checkSimple(t, p, impl.Spot{X: x, Y: y}, eight)
					}
				}
			}
		}
	}
}

func TestErasingByHand(t *testing.T) {
	tests := []struct {
		text, shrunkFour, shrunkEight, thinFour, thinEight string
	}{
		{"#", "#", "#", "#", "#"},
		{".", ".", ".", ".", "."},
		{"##", ".#", ".#", "##", "##"},
		{"###", "..#", "..#", "###", "###"},
		{"#/#/#", "././#", "././#", "#/#/#", "#/#/#"},
		{"##/##", "../.#", "../.#", "../##", "../##"},
		{"####/####", "..../...#", "..../...#", "..../####", "..../####"},
		{"#./.#", "#./.#", "../.#", "#./.#", "#./.#"},
		{".#/#.", ".#/#.", "../#.", ".#/#.", ".#/#."},
		// The corners of a ring.
		{"###/#.#/###", "###/#.#/###", ".#./#.#/.#.", "###/#.#/###", ".#./#.#/.#."},
		{".#./#.#/.#.", ".#./#.#/.#.", ".#./#.#/.#.", ".#./#.#/.#.", ".#./#.#/.#."},
		// The line ends on the right, where each round takes one pixel.
		{ringWithTail, "###..../#.#..../###....", ".#...../#.#..../.#.....", ringWithTail, ".#...../#.#####/.#....."},
		// Pixels that meet in a corner are among the eight, also where they are not joined.
		{"#..#/.##.", "#..#/..#.", "..../..#.", "#..#/..#.", "#..#/.##."},
		// An end of a line has one black pixel around it, and not two.
		{"#.../####", "..../...#", "..../...#", "..../####", "..../####"},
	}
	for _, test := range tests {
		p := drawn(test.text)
		expect(t, "ShrinkPicture "+test.text, results(impl.ShrinkPicture(p, false)), drawn(test.shrunkFour), true)
		expect(t, "ShrinkPicture eight "+test.text, results(impl.ShrinkPicture(p, true)), drawn(test.shrunkEight), true)
		expect(t, "ThinPicture "+test.text, results(impl.ThinPicture(p, false)), drawn(test.thinFour), true)
		expect(t, "ThinPicture eight "+test.text, results(impl.ThinPicture(p, true)), drawn(test.thinEight), true)
	}
}

func TestErasedAsDefined(t *testing.T) {
	most := 0
	for _, p := range topologyPictures() {
		for _, eight := range bothKinds {
			what := fmt.Sprintf(" %q %v", p.Rows, eight)
			shrunk, rounds := erasedAsDefined(p, eight, 0)
			expect(t, "ShrinkPicture"+what, results(impl.ShrinkPicture(p, eight)), shrunk, true)
			expect(t, "ShrinkPicture again"+what, results(impl.ShrinkPicture(shrunk, eight)), shrunk, true)
			most = max(most, rounds)
			thin, rounds := erasedAsDefined(p, eight, 2)
			expect(t, "ThinPicture"+what, results(impl.ThinPicture(p, eight)), thin, true)
			expect(t, "ThinPicture again"+what, results(impl.ThinPicture(thin, eight)), thin, true)
			most = max(most, rounds)
		}
	}
	if most < 5 {
		t.Errorf("no picture is erased in more than %d rounds", most)
	}
}

func TestErasingKeepsComponentsHolesAndTree(t *testing.T) {
	for _, p := range topologyPictures() {
		for _, eight := range bothKinds {
			what := fmt.Sprintf("%q %v", p.Rows, eight)
			_, count, _ := impl.ComponentsOf(p, eight)
			holes, _ := impl.CountHoles(p, eight)
			thin, _ := impl.ThinPicture(p, eight)
			shrunk, _ := impl.ShrinkPicture(p, eight)
			for _, left := range []impl.Picture{thin, shrunk} {
				_, countLeft, _ := impl.ComponentsOf(left, eight)
				expect(t, "the components left of "+what, results(countLeft), count)
				expect(t, "the holes left of "+what, results(impl.CountHoles(left, eight)), holes, true)
				if !impl.IsInside(left, p) || eight && !impl.SameTopology(left, p) {
					t.Errorf("%s becomes %q", what, left.Rows)
				}
			}
			if blacks, _ := impl.CountBlack(shrunk); holes == 0 && blacks != count {
				t.Errorf("%s has no holes, and shrinks to %q", what, shrunk.Rows)
			}
		}
	}
}

func TestTreeCodesByHand(t *testing.T) {
	tests := []struct {
		text, code string
		depth      int
	}{
		{".", "()", 0},
		{"..../....", "()", 0},
		{"#", "(())", 1},
		{"###/###", "(())", 1},
		{"#.#", "(()())", 1},
		{"#/./#/./#", "(()()())", 1},
		// Black pixels are joined over corners, and white ones are not.
		{"#./.#", "(())", 1},
		{".#/#.", "(())", 1},
		{".#./#.#/.#.", "((()))", 2},
		{"##./#.#/###", "((()))", 2},
		{linkedHoles, "((()()))", 2},
		// Holes, holes that reach the edge, and a component within a hole.
		{"###/#.#/###", "((()))", 2},
		{"###/..#/###", "(())", 1},
		{"#####/#.#.#/#####", "((()()))", 2},
		{pixelInHole, "(((())))", 3},
		{"####/#..#/#.##/####", "((()))", 2},
		// What has more below it comes first, wherever it lies.
		{"###.#/#.#../###..", "((())())", 2},
		{"#.###/..#.#/..###", "((())())", 2},
		{"#.###.#/..#.#../..###..", "((())()())", 2},
		{"#######/#.#...#/#.#.#.#/#.#...#/#######", "(((())()))", 3},
		{pixelBesideRing, "((((())())))", 4},
		{"#########/#.......#/#...###.#/#.#.#.#.#/#...###.#/#.......#/#########", "((((())())))", 4},
		// Components with as many nodes below them, in both orders.
		{"#####.#####/#.#.#.#...#/#####.#.#.#/......#...#/......#####", "(((()))(()()))", 3},
		{"#####....../#...#.#####/#.#.#.#.#.#/#...#.#####/#####......", "(((()))(()()))", 3},
	}
	for _, test := range tests {
		expect(t, "TreeCode "+test.text, results(impl.TreeCode(drawn(test.text))), test.code, true)
		expect(t, "DepthOf "+test.text, results(impl.DepthOf(drawn(test.text))), test.depth, true)
	}
}

func TestDeepestNesting(t *testing.T) {
	for side := int64(1); side <= 16; side++ {
		depth := int(side+1) / 2
		code := strings.Repeat("(", depth+1) + strings.Repeat(")", depth+1)
		expect(t, fmt.Sprint("TreeCode of rings ", side), results(impl.TreeCode(nestedRings(side))), code, true)
		expect(t, fmt.Sprint("DepthOf rings ", side), results(impl.DepthOf(nestedRings(side))), depth, true)
	}
	white := "((" + strings.Repeat("()", 98) + "))"
	expect(t, "TreeCode of single pixels", results(impl.TreeCode(singlePixels())), white, true)
	expect(t, "TreeCode of loose pixels", results(impl.TreeCode(loosePixels())), "("+strings.Repeat("()", 64)+")", true)
}

func TestTreeCodesAsDefined(t *testing.T) {
	for _, p := range topologyPictures() {
		code, depth := codeAsDefined(p)
		expect(t, fmt.Sprintf("TreeCode %q", p.Rows), results(impl.TreeCode(p)), code, true)
		expect(t, fmt.Sprintf("DepthOf %q", p.Rows), results(impl.DepthOf(p)), depth, true)
	}
}

func TestTurnedPicturesHaveTheSameTree(t *testing.T) {
	for _, p := range append(shapePictures(), nestedRings(15), drawn(pixelBesideRing), drawn(ringWithTail), drawn(longestBorder)) {
		for kind := range int64(4) {
			turned, _ := impl.TurnPicture(p, kind)
			expect(t, fmt.Sprintf("SameTopology %q %d", p.Rows, kind), results(impl.SameTopology(p, turned)), true)
		}
	}
}

func TestSameTopology(t *testing.T) {
	texts := []string{
		".", "..../....", "#", "##/##", "#./.#", "#.#", "#/./#", "###/#.#/###", ".#./#.#/.#.", "##./#.#/###", "###/..#/###",
		linkedHoles, "#####/#.#.#/#####", pixelInHole, ringWithTail, pixelBesideRing, longestBorder, "###.#/#.#../###..", "#.###/..#.#/..###",
	}
	for _, p := range texts {
		for _, q := range texts {
			codeP, _ := codeAsDefined(drawn(p))
			codeQ, _ := codeAsDefined(drawn(q))
			expect(t, "SameTopology "+p+" "+q, results(impl.SameTopology(drawn(p), drawn(q))), codeP == codeQ)
		}
	}
	expect(t, "SameTopology of different sizes", results(impl.SameTopology(drawn("###/#.#/###"), painted(16, 16, func(x, y int64) bool { return min(x, y) == 0 || max(x, y) == 15 }))), true)
	expect(t, "SameTopology of a ring and a line", results(impl.SameTopology(drawn("###/#.#/###"), drawn("###"))), false)
	// The number of nodes and the depth are the same.
	expect(t, "SameTopology of different holes", results(impl.SameTopology(drawn("###.#/#.#../###.."), drawn("#####/#.#.#/#####"))), false)
}

func TestEndsByHand(t *testing.T) {
	tests := []struct {
		text string
		ends []impl.Spot
	}{
		// No pixel, a pixel alone, and pairs.
		{".", nil},
		{"#", nil},
		{"#.#", nil},
		{"##", spots(0, 0, 1, 0)},
		{"#/#", spots(0, 0, 0, 1)},
		{"#./.#", spots(0, 0, 1, 1)},
		{".#/#.", spots(1, 0, 0, 1)},
		// Ends of lines, on the sides, in the corners and inside.
		{"####", spots(0, 0, 3, 0)},
		{"...../.###./.....", spots(1, 1, 3, 1)},
		{"#.#/.#.", spots(0, 0, 2, 0)},
		{".#./###/.#.", nil},
		{"###/.#./.#.", spots(1, 2)},
		{"..#../..#../#####", spots(2, 0, 0, 2, 4, 2)},
		{"#../.#./..#", spots(0, 0, 2, 2)},
		{"..#/.#./#..", spots(2, 0, 0, 2)},
		{"###/#.#/###", nil},
		{"##/##", nil},
		{ringWithTail, spots(6, 1)},
		{"#.../####", spots(3, 1)},
	}
	for _, test := range tests {
		expect(t, "EndsOf "+test.text, results(impl.EndsOf(drawn(test.text))), test.ends, true)
	}
}

func TestEndsAsDefined(t *testing.T) {
	for _, p := range topologyPictures() {
		var want []impl.Spot
		for y := range heightOf(p) {
			for x := range widthOf(p) {
				if isBlack(p, x, y) && blacksAround(p, impl.Spot{X: x, Y: y}) == 1 {
					want = append(want, impl.Spot{X: x, Y: y})
				}
			}
		}
		expect(t, fmt.Sprintf("EndsOf %q", p.Rows), results(impl.EndsOf(p)), want, true)
	}
}

func TestReconstructionIsOfWholeComponents(t *testing.T) {
	source := noise(32)
	for _, mask := range topologyPictures() {
		marker := source.grainy(widthOf(mask), heightOf(mask), 9, false)
		for _, eight := range bothKinds {
			what := fmt.Sprintf(" %q %q %v", marker.Rows, mask.Rows, eight)
			rows, _, _ := impl.ComponentsOf(mask, eight)
			marked := map[int64]bool{}
			for y := range heightOf(mask) {
				for x := range widthOf(mask) {
					if isBlack(marker, x, y) {
						marked[rows[y][x]] = true
					}
				}
			}
			want := painted(widthOf(mask), heightOf(mask), func(x, y int64) bool { return rows[y][x] > 0 && marked[rows[y][x]] })
			expect(t, "ReconstructPicture"+what, results(impl.ReconstructPicture(marker, mask, eight)), want, true)
		}
	}
}

func TestFilledPicturesHaveNoHoles(t *testing.T) {
	for _, p := range topologyPictures() {
		for _, eight := range bothKinds {
			what := fmt.Sprintf(" of %q %v", p.Rows, eight)
			full, _ := impl.FillHoles(p, eight)
			holes, _ := impl.CountHoles(p, eight)
			expect(t, "CountHoles of FillHoles"+what, results(impl.CountHoles(full, eight)), 0, true)
			if same(full, p) != (holes == 0) {
				t.Errorf("FillHoles%s with %d holes: got %q", what, holes, full.Rows)
			}
		}
	}
}
