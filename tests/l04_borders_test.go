package tests

import (
	"fmt"
	"slices"
	"strings"
	"testing"

	"loop.example/g01165/impl"
)

// The tests in this file are those of promise 5: what the functions of chapter 4 return for valid arguments.

func border(x, y int64, steps string) impl.Border {
	return impl.Border{Start: impl.Spot{X: x, Y: y}, Steps: steps}
}

// spots returns spots that are given by their X and Y.
func spots(numbers ...int64) []impl.Spot { return element(numbers...).Offsets }

// black returns a black picture.
func black(width, height int64) impl.Picture {
	return painted(width, height, func(x, y int64) bool { return true })
}

// longestBorder is the text of a picture with a border of 362 steps. No border of a picture of 16 by 16 has
// more: if there are w white pixels, at least one of them at the edge, all sides are at most 62 + 4 w, and
// the sides of a component of 256 - w pixels are at most 2 for each of them, and 2.
const longestBorder = "################/.#.#.#.#.#.#.#.#/#.#.#.###.###.##/######.#.##.##.#/#.#.#.#.##.##.##/##.#.####.##.#.#/#.####.#.##.####/##.#.##.##.#.#.#/" +
	"#.###.##.####.##/##.#.##.#.#.##.#/#.#.##.#####.##./####.##.#.#.#.##/#.#.##.#.#####.#/##.##.###.#.#.##/#.#..#.#.#.#.#.#/################"

// pixelInHole is the text of a picture with a hole in which there is a black pixel.
const pixelInHole = "#####/#...#/#.#.#/#...#/#####"

// linkedHoles is the text of a picture with two white pixels that meet in a corner.
const linkedHoles = "####/#.##/##.#/####"

// singlePixels returns the picture with the most borders: 128 black pixels that meet in corners.
func singlePixels() impl.Picture {
	return painted(16, 16, func(x, y int64) bool { return (x+y)%2 == 0 })
}

// borderPictures returns pictures with corners, holes and black pixels within holes among others.
func borderPictures() []impl.Picture {
	list := append(append(samplePictures(), allPictures(4, 3)...), longWays()...)
	for _, text := range []string{
		longestBorder,
		pixelInHole,
		"#######/#.....#/#.###.#/#.#.#.#/#.###.#/#.....#/#######",
		linkedHoles, "####/##.#/#.##/####",
		"##./#.#/###", ".##/#.#/###", "###/#.#/.##", "###/#.#/##.",
		"#####/#.#.#/#####", "###/#.#/###/#.#/###",
	} {
		list = append(list, drawn(text))
	}
	source := noise(21)
	for range 150 {
		list = append(list, source.grainy(6, 6, 4, true), source.grainy(5, 7, 3, false), source.grainy(16, 16, 2+source.below(8), source.below(2) == 0))
	}
	opposite, _ := impl.InvertPicture(singlePixels())
	return append(list, singlePixels(), opposite)
}

// runsAsDefined returns the runs by looking for the pixels at which they begin.
func runsAsDefined(p impl.Picture) [][]int64 {
	var list [][]int64
	for y := range heightOf(p) {
		for x := range widthOf(p) {
			if !isBlack(p, x, y) || isBlack(p, x-1, y) {
				continue
			}
			length := int64(1)
			for isBlack(p, x+length, y) {
				length++
			}
			list = append(list, []int64{y, x, length})
		}
	}
	return list
}

// side is a side of a black pixel, along which a step leads.
type side struct {
	from   impl.Spot
	letter byte
}

func (s side) end() impl.Spot {
	switch s.letter {
	case 'r':
		return impl.Spot{X: s.from.X + 1, Y: s.from.Y}
	case 'l':
		return impl.Spot{X: s.from.X - 1, Y: s.from.Y}
	case 'd':
		return impl.Spot{X: s.from.X, Y: s.from.Y + 1}
	}
	return impl.Spot{X: s.from.X, Y: s.from.Y - 1}
}

// sidesAsDefined returns the sides of black pixels that are not sides of two of them.
func sidesAsDefined(p impl.Picture) map[side]bool {
	found := map[side]bool{}
	for y := range heightOf(p) {
		for x := range widthOf(p) {
			if !isBlack(p, x, y) {
				continue
			}
			if !isBlack(p, x, y-1) {
				found[side{impl.Spot{X: x, Y: y}, 'r'}] = true
			}
			if !isBlack(p, x+1, y) {
				found[side{impl.Spot{X: x + 1, Y: y}, 'd'}] = true
			}
			if !isBlack(p, x, y+1) {
				found[side{impl.Spot{X: x + 1, Y: y + 1}, 'l'}] = true
			}
			if !isBlack(p, x-1, y) {
				found[side{impl.Spot{X: x, Y: y + 1}, 'u'}] = true
			}
		}
	}
	return found
}

// waysOn has, for the letter of a step, the letters of the steps that turn to the right, go straight on, and turn to the left.
var waysOn = map[byte]string{'r': "dru", 'd': "ldr", 'l': "uld", 'u': "rul"}

// tracedFrom returns the steps of the border that begins with a side.
func tracedFrom(start side, sides map[side]bool) []side {
	steps := []side{start}
	for {
		last := steps[len(steps)-1]
		ways := waysOn[last.letter]
		i := 0
		for !sides[side{last.end(), ways[i]}] {
			i++
		}
		next := side{last.end(), ways[i]}
		if next == start {
			return steps
		}
		steps = append(steps, next)
	}
}

// bordersAsDefined returns the borders of a picture, and for each pixel with the step above it in a border, which one this is.
func bordersAsDefined(p impl.Picture) ([]impl.Border, map[impl.Spot]int) {
	sides := sidesAsDefined(p)
	var list []impl.Border
	above := map[impl.Spot]int{}
	for y := range heightOf(p) {
		for x := range widthOf(p) {
			start := side{impl.Spot{X: x, Y: y}, 'r'}
			if _, ok := above[start.from]; ok || !sides[start] {
				continue
			}
			var letters []byte
			for _, s := range tracedFrom(start, sides) {
				letters = append(letters, s.letter)
				if s.letter == 'r' {
					above[s.from] = len(list)
				}
			}
			list = append(list, border(x, y, string(letters)))
		}
	}
	return list, above
}

// walked returns the sides along which a text of the letters of steps leads.
func walked(b impl.Border) []side {
	var steps []side
	at := b.Start
	for _, letter := range []byte(b.Steps) {
		s := side{at, letter}
		steps = append(steps, s)
		at = s.end()
	}
	return steps
}

// borderAsDefined reports whether a border has the form that the document requires.
func borderAsDefined(b impl.Border) bool {
	count := len(b.Steps)
	if count < 4 || count > 600 || strings.Trim(b.Steps, "rdlu") != "" || min(b.Start.X, b.Start.Y) < 0 || max(b.Start.X, b.Start.Y) > 16 {
		return false
	}
	made := map[side]bool{}
	steps := walked(b)
	for i, s := range steps {
		next, end := steps[(i+1)%count], s.end()
		if made[s] || end != next.from || next.end() == s.from || min(end.X, end.Y) < 0 || max(end.X, end.Y) > 16 {
			return false
		}
		made[s] = true
	}
	return true
}

// cornersAsDefined returns the corners at which a border turns, and how often more to the right than to the left.
func cornersAsDefined(b impl.Border) ([]impl.Spot, int64) {
	var corners []impl.Spot
	turning := int64(0)
	steps := walked(b)
	for i, s := range steps {
		before := steps[(i+len(steps)-1)%len(steps)]
		if s.letter == before.letter {
			continue
		}
		corners = append(corners, s.from)
		turning--
		if waysOn[before.letter][0] == s.letter {
			turning += 2
		}
	}
	return corners, turning
}

// insideOf returns the number of pixels from which the outside is not reached without crossing a border.
func insideOf(b impl.Border) int64 {
	walls := map[[2]impl.Spot]bool{}
	for _, s := range walked(b) {
		walls[[2]impl.Spot{s.from, s.end()}] = true
		walls[[2]impl.Spot{s.end(), s.from}] = true
	}
	at := func(x, y int64) impl.Spot { return impl.Spot{X: x, Y: y} }
	outside := map[impl.Spot]bool{}
	work := []impl.Spot{at(-1, -1)}
	for len(work) > 0 {
		s := work[len(work)-1]
		work = work[:len(work)-1]
		if outside[s] || min(s.X, s.Y) < -1 || max(s.X, s.Y) > 16 {
			continue
		}
		outside[s] = true
		for _, way := range []struct{ to, one, other impl.Spot }{
			{at(s.X, s.Y-1), at(s.X, s.Y), at(s.X+1, s.Y)}, {at(s.X, s.Y+1), at(s.X, s.Y+1), at(s.X+1, s.Y+1)},
			{at(s.X-1, s.Y), at(s.X, s.Y), at(s.X, s.Y+1)}, {at(s.X+1, s.Y), at(s.X+1, s.Y), at(s.X+1, s.Y+1)},
		} {
			if !walls[[2]impl.Spot{way.one, way.other}] {
				work = append(work, way.to)
			}
		}
	}
	return 18*18 - int64(len(outside))
}

// aroundPixels returns the sum, over all pixels, of how often a border goes around them clockwise.
func aroundPixels(b impl.Border) int64 {
	sum := int64(0)
	for y := range int64(16) {
		for x := range int64(16) {
			for _, s := range walked(b) {
				// A step that crosses the way from the pixel to the right.
				if s.from.X > x && s.from.Y == y && s.letter == 'd' {
					sum++
				}
				if s.from.X > x && s.from.Y == y+1 && s.letter == 'u' {
					sum--
				}
			}
		}
	}
	return sum
}

// hullAsDefined returns the hull of the corners of a border, made of its right side downward and its left side upward.
func hullAsDefined(b impl.Border) []impl.Spot {
	var corners []impl.Spot
	for _, s := range walked(b) {
		corners = append(corners, s.from)
	}
	slices.SortFunc(corners, func(a, b impl.Spot) int { return int((a.Y-b.Y)*100 + a.X - b.X) })
	half := func(corners []impl.Spot) []impl.Spot {
		var chain []impl.Spot
		for _, c := range corners {
			for len(chain) >= 2 && turned(chain[len(chain)-2], chain[len(chain)-1], c) <= 0 {
				chain = chain[:len(chain)-1]
			}
			chain = append(chain, c)
		}
		return chain[:len(chain)-1]
	}
	corners = slices.Compact(corners)
	downward := half(corners)
	slices.Reverse(corners)
	return append(downward, half(corners)...)
}

// turned is greater than 0 if the way from a over b to c turns to the right.
func turned(a, b, c impl.Spot) int64 { return (b.X-a.X)*(c.Y-b.Y) - (b.Y-a.Y)*(c.X-b.X) }

// border returns an arbitrary border with corners from 0 to most. Often it meets and crosses itself.
func (n *noise) border(most int64) impl.Border {
	for {
		b := impl.Border{Start: impl.Spot{X: n.below(most + 1), Y: n.below(most + 1)}}
		made := map[side]bool{}
		s := side{b.Start, "rdlu"[n.below(4)]}
		for inside := true; inside && !made[s]; inside = min(s.from.X, s.from.Y) >= 0 && max(s.from.X, s.from.Y) <= most {
			made[s] = true
			b.Steps += string(s.letter)
			if s.end() == b.Start && n.below(2) == 0 {
				break
			}
			s = side{s.end(), waysOn[s.letter][n.below(3)]}
		}
		if borderAsDefined(b) {
			return b
		}
	}
}

// wideBorder returns a border that goes along all rows, and back along all columns: 576 steps, and 2 more for each
// of some detours on the way back.
func wideBorder(detours int) impl.Border {
	long := func(letter string) string { return strings.Repeat(letter, 16) }
	steps := strings.Repeat(long("r")+"d"+long("l")+"d", 8) + long("r")
	for x := 16; x >= 0; x-- {
		if x%2 == 0 {
			steps += long("u")
		}
		for y := 0; x%2 == 1 && y < 16; y++ {
			if y%2 == 1 && detours > 0 {
				steps += "rdl"
				detours--
			} else {
				steps += "d"
			}
		}
		if x > 0 {
			steps += "l"
		}
	}
	return border(0, 0, steps)
}

// turningBorder returns a border that turns at each of 512 corners: around all of the single pixels, from one to
// the next over the corners of a tree, at which it turns to the left.
func turningBorder() impl.Border {
	start := side{impl.Spot{}, 'r'}
	b := impl.Border{}
	for s := start; b.Steps == "" || s != start; {
		b.Steps += string(s.letter)
		end := s.end()
		way := 0
		inside := min(end.X, end.Y) >= 1 && max(end.X, end.Y) <= 15
		if inside && ((end.X+end.Y)%2 == 0 || min(end.X, end.Y) == 1) {
			way = 2
		}
		s = side{end, waysOn[s.letter][way]}
	}
	return b
}

// sampleBorders returns borders of pictures and others.
func sampleBorders() []impl.Border {
	list := []impl.Border{
		border(0, 0, "rdlu"), border(0, 0, "drul"), border(15, 15, "rdlu"), border(16, 16, "lurd"), border(16, 0, "ldru"), border(0, 16, "urdl"),
		border(1, 1, "rdluuldr"), border(1, 1, "rdlulurd"), border(0, 1, "rrdluurrdddllluu"), border(1, 0, "rddlluru"), border(1, 1, "drdluulurd"),
		wideBorder(0), wideBorder(7), wideBorder(12),
	}
	for _, p := range append(fewPictures(), drawn(longestBorder), drawn(linkedHoles), drawn(pixelInHole), black(16, 16)) {
		borders, _ := bordersAsDefined(p)
		list = append(list, borders...)
	}
	source := noise(22)
	for i := range int64(400) {
		list = append(list, source.border(2+i%15))
	}
	return list
}

func TestChapter4Examples(t *testing.T) {
	expect(t, "BordersOf a pixel", results(impl.BordersOf(drawn("#"))), []impl.Border{border(0, 0, "rdlu")}, true)
	expect(t, "SignedArea", results(impl.SignedArea(border(0, 0, "rdlu"))), 1, true)
	expect(t, "TurningOf", results(impl.TurningOf(border(0, 0, "rdlu"))), 4, true)
	for _, text := range []string{"#./.#", ".#/#."} {
		borders, ok := impl.BordersOf(drawn(text))
		expect(t, "the number of borders of "+text, results(len(borders) == 2, ok), true, true)
	}
}

func TestLimitsOfChapter4(t *testing.T) {
	expect(t, "limits", results(int64(impl.MaxSteps), int64(impl.MaxBorders)), 600, 150)
}

func TestRunsByHand(t *testing.T) {
	tests := []struct {
		text string
		runs [][]int64
	}{
		{"#", [][]int64{{0, 0, 1}}},
		{".", nil},
		{"..../....", nil},
		// At both sides, with one white pixel between.
		{"##.#", [][]int64{{0, 0, 2}, {0, 3, 1}}},
		{"#.#.#", [][]int64{{0, 0, 1}, {0, 2, 1}, {0, 4, 1}}},
		{".##.", [][]int64{{0, 1, 2}}},
		// Rows without runs, and runs that touch over rows.
		{".../##./.../.##/##.", [][]int64{{1, 0, 2}, {3, 1, 2}, {4, 0, 2}}},
		{"##/##", [][]int64{{0, 0, 2}, {1, 0, 2}}},
		{"################/...............#/#.............##", [][]int64{{0, 0, 16}, {1, 15, 1}, {2, 0, 1}, {2, 14, 2}}},
	}
	for _, test := range tests {
		p := drawn(test.text)
		expect(t, "RunsOf "+test.text, results(impl.RunsOf(p)), test.runs, true)
		expect(t, "PictureOfRuns "+test.text, results(impl.PictureOfRuns(widthOf(p), heightOf(p), test.runs)), p, true)
	}
	var rows [][]int64
	for y := range int64(16) {
		rows = append(rows, []int64{y, 0, 16})
	}
	expect(t, "RunsOf black", results(impl.RunsOf(black(16, 16))), rows, true)
}

func TestRunsAsDefined(t *testing.T) {
	for _, p := range borderPictures() {
		want := runsAsDefined(p)
		expect(t, fmt.Sprintf("RunsOf %q", p.Rows), results(impl.RunsOf(p)), want, true)
		expect(t, fmt.Sprintf("PictureOfRuns %q", p.Rows), results(impl.PictureOfRuns(widthOf(p), heightOf(p), want)), p, true)
	}
}

func TestPictureOfAnyRuns(t *testing.T) {
	known := map[string]impl.Picture{}
	for _, p := range allPictures(3, 2) {
		known[fmt.Sprint(runsAsDefined(p))] = p
	}
	check := func(runs [][]int64) {
		want, ok := known[fmt.Sprint(runs)]
		expect(t, fmt.Sprint("PictureOfRuns ", runs), results(impl.PictureOfRuns(3, 2, runs)), want, ok)
	}
	check(nil)
	var all [][]int64
	for row := int64(-1); row <= 2; row++ {
		for first := int64(-1); first <= 3; first++ {
			for length := int64(-3); length <= 4; length++ {
				all = append(all, []int64{row, first, length})
			}
		}
	}
	for i, one := range all {
		check([][]int64{one})
		for j, other := range all {
			check([][]int64{one, other})
			check([][]int64{one, other, all[(i+7*j)%len(all)]})
		}
	}
}

func TestEdgeLengthByHand(t *testing.T) {
	for text, want := range map[string]int{
		"#": 4, ".": 0, "##": 6, "#.": 4, "#.#": 8, "#./.#": 8, ".#/#.": 8, "##/##": 8, "###/#.#/###": 16,
		pixelInHole: 36, linkedHoles: 24, longestBorder: 362,
	} {
		expect(t, "EdgeLength "+text, results(impl.EdgeLength(drawn(text))), want, true)
	}
	expect(t, "EdgeLength black", results(impl.EdgeLength(black(16, 16))), 64, true)
	expect(t, "EdgeLength of single pixels", results(impl.EdgeLength(singlePixels())), 512, true)
}

func TestBordersByHand(t *testing.T) {
	tests := []struct {
		text    string
		borders []impl.Border
	}{
		{".", nil},
		{"..../....", nil},
		{"#", []impl.Border{border(0, 0, "rdlu")}},
		{".#", []impl.Border{border(1, 0, "rdlu")}},
		{"##", []impl.Border{border(0, 0, "rrdllu")}},
		// Two pixels that meet in a corner only.
		{"#./.#", []impl.Border{border(0, 0, "rdlu"), border(1, 1, "rdlu")}},
		{".#/#.", []impl.Border{border(1, 0, "rdlu"), border(0, 1, "rdlu")}},
		// A border that comes to one corner twice.
		{"##./#.#/###", []impl.Border{border(0, 0, "rrdldrurddllluuu")}},
		{".##/#.#/###", []impl.Border{border(1, 0, "rrdddllluurdrulu")}},
		// A hole of one pixel, and holes that meet in a corner.
		{"###/#.#/###", []impl.Border{border(0, 0, "rrrdddllluuu"), border(1, 2, "ruld")}},
		{linkedHoles, []impl.Border{border(0, 0, "rrrrddddlllluuuu"), border(1, 2, "rdrululd")}},
		{"####/##.#/#.##/####", []impl.Border{border(0, 0, "rrrrddddlllluuuu"), border(2, 2, "ruldldru")}},
		// A black pixel within a hole.
		{pixelInHole, []impl.Border{border(0, 0, "rrrrrdddddllllluuuuu"), border(2, 2, "rdlu"), border(1, 4, "rrruuulllddd")}},
		// Starts with the same Y.
		{"#.#", []impl.Border{border(0, 0, "rdlu"), border(2, 0, "rdlu")}},
		{"###../#.#../###.#", []impl.Border{border(0, 0, "rrrdddllluuu"), border(1, 2, "ruld"), border(4, 2, "rdlu")}},
		{"..###/..#.#/#.###", []impl.Border{border(2, 0, "rrrdddllluuu"), border(0, 2, "rdlu"), border(3, 2, "ruld")}},
		// A border does not begin at its first corner, which has a step r that is not the first one.
		{".#/##", []impl.Border{border(1, 0, "rddlluru")}},
		{"#.#/###", []impl.Border{border(0, 0, "rdrurddllluu")}},
	}
	for _, test := range tests {
		p := drawn(test.text)
		expect(t, "BordersOf "+test.text, results(impl.BordersOf(p)), test.borders, true)
		expect(t, "PictureOfBorders "+test.text, results(impl.PictureOfBorders(widthOf(p), heightOf(p), test.borders)), p, true)
	}
	long := func(letter string) string { return strings.Repeat(letter, 16) }
	whole := border(0, 0, long("r")+long("d")+long("l")+long("u"))
	expect(t, "BordersOf black", results(impl.BordersOf(black(16, 16))), []impl.Border{whole}, true)
}

func TestBordersAsDefined(t *testing.T) {
	for _, p := range borderPictures() {
		what := fmt.Sprintf(" %q", p.Rows)
		want, above := bordersAsDefined(p)
		expect(t, "EdgeLength"+what, results(impl.EdgeLength(p)), int64(len(sidesAsDefined(p))), true)
		expect(t, "BordersOf"+what, results(impl.BordersOf(p)), want, true)
		for y := int64(-2); y <= heightOf(p)+1; y++ {
			for x := int64(-2); x <= widthOf(p)+1; x++ {
				// Of large pictures, a part of the spots is enough.
				if heightOf(p) > 7 && (x+2*y)%5 != 0 {
					continue
				}
				got, ok := impl.BorderAt(p, impl.Spot{X: x, Y: y})
				var wanted impl.Border
				i, found := above[impl.Spot{X: x, Y: y}]
				if found {
					wanted = want[i]
				}
				if got != wanted || ok != found {
					t.Errorf("BorderAt%s %d, %d: got %v %v", what, x, y, got, ok)
				}
			}
		}
	}
}

func TestPicturesComeBackFromTheirBorders(t *testing.T) {
	for _, p := range borderPictures() {
		what := fmt.Sprintf(" %q", p.Rows)
		borders, _ := impl.BordersOf(p)
		expect(t, "PictureOfBorders"+what, results(impl.PictureOfBorders(widthOf(p), heightOf(p), borders)), p, true)
		areas, lengths := int64(0), int64(0)
		for _, b := range borders {
			area, _ := impl.SignedArea(b)
			turning, _ := impl.TurningOf(b)
			if !impl.IsBorder(b) || area == 0 || turning != 4*area/max(area, -area) {
				t.Errorf("a border of%s: %v has the area %d and the turning %d", what, b, area, turning)
			}
			areas += area
			lengths += int64(len(b.Steps))
		}
		expect(t, "CountBlack"+what, results(impl.CountBlack(p)), areas, true)
		expect(t, "EdgeLength"+what, results(impl.EdgeLength(p)), lengths, true)
	}
}

func TestBorderAtByHand(t *testing.T) {
	ring := drawn(pixelInHole)
	outer, pixel, hole := border(0, 0, "rrrrrdddddllllluuuuu"), border(2, 2, "rdlu"), border(1, 4, "rrruuulllddd")
	tests := []struct {
		x, y int64
		want impl.Border
	}{
		{0, 0, outer}, {4, 0, outer}, {2, 2, pixel}, {1, 4, hole}, {2, 4, hole}, {3, 4, hole},
		// A black pixel is above these.
		{0, 1, impl.Border{}}, {4, 4, impl.Border{}}, {0, 4, impl.Border{}},
		// These are white.
		{1, 1, impl.Border{}}, {2, 1, impl.Border{}}, {2, 3, impl.Border{}},
		// These are outside.
		{-1, 0, impl.Border{}}, {0, -1, impl.Border{}}, {5, 0, impl.Border{}}, {0, 5, impl.Border{}}, {5, 5, impl.Border{}},
	}
	for _, test := range tests {
		got, ok := impl.BorderAt(ring, impl.Spot{X: test.x, Y: test.y})
		expect(t, fmt.Sprint("BorderAt ", test.x, ", ", test.y), results(got, ok), test.want, test.want != impl.Border{})
	}
	// The border above the left pixel begins above another one.
	expect(t, "BorderAt elsewhere", results(impl.BorderAt(drawn(".#/##"), impl.Spot{X: 0, Y: 1})), border(1, 0, "rddlluru"), true)
}

func TestLongestBorder(t *testing.T) {
	borders, ok := impl.BordersOf(drawn(longestBorder))
	if !ok || len(borders) != 1 || len(borders[0].Steps) != 362 || !impl.IsBorder(borders[0]) {
		t.Fatalf("the longest border: got %v", borders)
	}
	expect(t, "PictureOfBorders", results(impl.PictureOfBorders(16, 16, borders)), drawn(longestBorder), true)
	expect(t, "SignedArea", results(impl.SignedArea(borders[0])), 180, true)
	expect(t, "TurningOf", results(impl.TurningOf(borders[0])), 4, true)
}

func TestBordersOfMaxSteps(t *testing.T) {
	for detours := range 13 {
		b := wideBorder(detours)
		if len(b.Steps) != 576+2*detours {
			t.Fatalf("the wide border has %d steps", len(b.Steps))
		}
		checkBorder(t, b)
	}
	if len(wideBorder(12).Steps) != impl.MaxSteps {
		t.Error("the longest wide border has not MaxSteps steps")
	}
}

func TestBorderThatTurnsAtEachStep(t *testing.T) {
	b := turningBorder()
	corners, _ := cornersAsDefined(b)
	if len(b.Steps) != 512 || len(corners) != 512 {
		t.Fatalf("the turning border has %d steps and %d corners", len(b.Steps), len(corners))
	}
	checkBorder(t, b)
}

func TestIsBorderByHand(t *testing.T) {
	for _, b := range []impl.Border{
		// Clockwise and not, from each corner, at the sides 0 and MaxSide.
		border(0, 0, "rdlu"), border(1, 0, "dlur"), border(1, 1, "lurd"), border(0, 1, "urdl"),
		border(0, 0, "drul"), border(0, 1, "ruld"), border(1, 1, "uldr"), border(1, 0, "ldru"),
		border(15, 15, "rdlu"), border(16, 16, "uldr"), border(0, 16, "urdl"), border(16, 0, "dlur"),
		// A Start at which nothing turns.
		border(1, 0, "rdllur"), border(2, 1, "dlluurrd"),
		// A corner twice, and a side in both directions.
		border(1, 1, "rdluuldr"), border(0, 1, "rrdluurrdddllluu"), border(1, 1, "drdluulurd"),
	} {
		if !borderAsDefined(b) || !impl.IsBorder(b) {
			t.Errorf("%v must be a border", b)
		}
	}
	for _, b := range badBorders() {
		if borderAsDefined(b) || impl.IsBorder(b) {
			t.Errorf("%v must not be a border", b)
		}
	}
}

// allSteps returns all texts of so many letters of steps.
func allSteps(count int) []string {
	list := []string{""}
	for range count {
		var longer []string
		for _, text := range list {
			longer = append(longer, text+"r", text+"d", text+"l", text+"u")
		}
		list = longer
	}
	return list
}

func TestIsBorderForAllShortTexts(t *testing.T) {
	starts := spots(0, 0, 1, 1, 0, 16, 16, 0, 16, 16, 15, 15, 8, 8, -1, 0, 0, 17)
	for count := range 9 {
		for _, steps := range allSteps(count) {
			for _, start := range starts {
				b := impl.Border{Start: start, Steps: steps}
				if got := impl.IsBorder(b); got != borderAsDefined(b) {
					t.Fatalf("IsBorder %v: got %v", b, got)
				}
			}
		}
	}
}

// checkBorder compares what the functions with one border return with the definitions.
func checkBorder(t *testing.T, b impl.Border) {
	t.Helper()
	what := fmt.Sprint(" ", b)
	if !impl.IsBorder(b) {
		t.Errorf("IsBorder%s: got false", what)
	}
	corners, turning := cornersAsDefined(b)
	expect(t, "SignedArea"+what, results(impl.SignedArea(b)), aroundPixels(b), true)
	expect(t, "TurningOf"+what, results(impl.TurningOf(b)), turning, true)
	expect(t, "CornersOfBorder"+what, results(impl.CornersOfBorder(b)), corners, true)
	expect(t, "HullOfBorder"+what, results(impl.HullOfBorder(b)), hullAsDefined(b), true)
	back, ok := impl.BorderFrom(corners)
	if b.Start == corners[0] {
		expect(t, "BorderFrom the corners of"+what, results(back, ok), b, true)
	} else {
		expect(t, "CornersOfBorder of BorderFrom the corners of"+what, results(impl.CornersOfBorder(back)), corners, ok)
	}
}

func TestBordersOneByOne(t *testing.T) {
	for _, b := range sampleBorders() {
		checkBorder(t, b)
	}
	for _, steps := range allSteps(8) {
		if b := border(4, 4, steps); borderAsDefined(b) {
			checkBorder(t, b)
		}
	}
}

func TestSignedAreaAndTurningByHand(t *testing.T) {
	tests := []struct {
		b             impl.Border
		area, turning int
	}{
		{border(0, 0, "rdlu"), 1, 4}, {border(15, 15, "rdlu"), 1, 4}, {border(16, 16, "lurd"), 1, 4},
		{border(0, 0, "drul"), -1, -4}, {border(15, 15, "drul"), -1, -4}, {border(16, 0, "ldru"), -1, -4},
		{border(1, 2, "ruld"), -1, -4}, {border(1, 2, "rdrululd"), -2, -4},
		{border(1, 0, "rddlluru"), 3, 4}, {border(0, 0, "rrrdddllluuu"), 9, 4},
		// Once around a pixel in each direction, twice around in one, and twice around one of 8 pixels.
		{border(1, 1, "rdluuldr"), 0, 0}, {border(1, 1, "rdlulurd"), 2, 4}, {border(0, 1, "rrdluurrdddllluu"), 9, 8},
		// A side in both directions.
		{border(1, 1, "drdluulurd"), 2, 4},
	}
	for _, test := range tests {
		expect(t, fmt.Sprint("SignedArea ", test.b), results(impl.SignedArea(test.b)), test.area, true)
		expect(t, fmt.Sprint("TurningOf ", test.b), results(impl.TurningOf(test.b)), test.turning, true)
	}
}

func TestAreaOfBordersWithNoCornerTwice(t *testing.T) {
	simple := 0
	for _, b := range sampleBorders() {
		visited := map[impl.Spot]bool{}
		for _, s := range walked(b) {
			visited[s.from] = true
		}
		if len(visited) != len(b.Steps) {
			continue
		}
		simple++
		turning, _ := impl.TurningOf(b)
		expect(t, fmt.Sprint("SignedArea ", b), results(impl.SignedArea(b)), insideOf(b)*turning/4, true)
	}
	if simple < 50 {
		t.Errorf("only %d borders have no corner twice", simple)
	}
}

func TestCornersByHand(t *testing.T) {
	tests := []struct {
		b       impl.Border
		corners []impl.Spot
	}{
		{border(0, 0, "rdlu"), spots(0, 0, 1, 0, 1, 1, 0, 1)},
		{border(0, 0, "drul"), spots(0, 0, 0, 1, 1, 1, 1, 0)},
		{border(1, 0, "rddlluru"), spots(1, 0, 2, 0, 2, 2, 0, 2, 0, 1, 1, 1)},
		// Nothing turns at the Start.
		{border(1, 0, "rdllur"), spots(2, 0, 2, 1, 0, 1, 0, 0)},
		{border(2, 1, "dlluurrd"), spots(2, 2, 0, 2, 0, 0, 2, 0)},
		// A corner at which a border turns twice, and one at which it goes straight on and turns.
		{border(0, 0, "rrdldrurddllluuu"), spots(0, 0, 2, 0, 2, 1, 1, 1, 1, 2, 2, 2, 2, 1, 3, 1, 3, 3, 0, 3)},
		{border(1, 1, "rdlulurd"), spots(1, 1, 2, 1, 2, 2, 1, 2, 1, 1, 0, 1, 0, 0, 1, 0)},
		{border(0, 1, "rrdluurrdddllluu"), spots(0, 1, 2, 1, 2, 2, 1, 2, 1, 0, 3, 0, 3, 3, 0, 3)},
	}
	for _, test := range tests {
		expect(t, fmt.Sprint("CornersOfBorder ", test.b), results(impl.CornersOfBorder(test.b)), test.corners, true)
		if test.b.Start == test.corners[0] {
			expect(t, fmt.Sprint("BorderFrom ", test.corners), results(impl.BorderFrom(test.corners)), test.b, true)
		}
	}
	expect(t, "BorderFrom another corner", results(impl.BorderFrom(spots(2, 0, 2, 1, 0, 1, 0, 0))), border(2, 0, "dllurr"), true)
	expect(t, "BorderFrom the outermost corners", results(impl.BorderFrom(spots(0, 0, 16, 0, 16, 16, 0, 16))),
		border(0, 0, "rrrrrrrrrrrrrrrrddddddddddddddddlllllllllllllllluuuuuuuuuuuuuuuu"), true)
}

// borderThrough returns the border that turns at some corners and nowhere else.
func borderThrough(corners []impl.Spot) (impl.Border, bool) {
	b := impl.Border{}
	for i, from := range corners {
		to := corners[(i+1)%len(corners)]
		outside := min(from.X, from.Y, to.X, to.Y) < 0 || max(from.X, from.Y, to.X, to.Y) > 16
		if outside || from == to || from.X != to.X && from.Y != to.Y {
			return impl.Border{}, false
		}
		letter, far := "r", to.X-from.X
		switch {
		case to.X < from.X:
			letter, far = "l", from.X-to.X
		case to.Y > from.Y:
			letter, far = "d", to.Y-from.Y
		case to.Y < from.Y:
			letter, far = "u", from.Y-to.Y
		}
		if i > 0 && strings.HasSuffix(b.Steps, letter) {
			return impl.Border{}, false
		}
		b.Steps += strings.Repeat(letter, int(far))
	}
	if len(corners) > 0 {
		b.Start = corners[0]
	}
	if !borderAsDefined(b) || b.Steps[0] == b.Steps[len(b.Steps)-1] {
		return impl.Border{}, false
	}
	return b, true
}

func TestBorderFromAnyCorners(t *testing.T) {
	check := func(corners []impl.Spot) {
		want, ok := borderThrough(corners)
		got, gotOK := impl.BorderFrom(corners)
		if got != want || gotOK != ok {
			t.Errorf("BorderFrom %v: got %v %v, want %v %v", corners, got, gotOK, want, ok)
		}
	}
	lists := [][]impl.Spot{nil}
	for range 5 {
		var longer [][]impl.Spot
		for _, list := range lists {
			check(list)
			for i := range int64(9) {
				longer = append(longer, append(slices.Clone(list), impl.Spot{X: i % 3, Y: i / 3}))
			}
		}
		lists = longer
	}
	for _, list := range lists {
		check(list)
	}
	for _, b := range sampleBorders() {
		corners, _ := cornersAsDefined(b)
		for i := range corners {
			check(append(slices.Clone(corners[i:]), corners[:i]...))
			check(slices.Delete(slices.Clone(corners), i, i+1))
			check(slices.Insert(slices.Clone(corners), i, corners[i]))
			check(corners[:i])
		}
		slices.Reverse(corners)
		check(corners)
	}
}

func TestHullsByHand(t *testing.T) {
	long := func(letter string) string { return strings.Repeat(letter, 16) }
	tests := []struct {
		b    impl.Border
		hull []impl.Spot
	}{
		// Borders that are their own hull.
		{border(0, 0, "rdlu"), spots(0, 0, 1, 0, 1, 1, 0, 1)},
		{border(0, 0, long("r")+long("d")+long("l")+long("u")), spots(0, 0, 16, 0, 16, 16, 0, 16)},
		// Not clockwise, from another Start, and from one at which nothing turns.
		{border(1, 2, "ruld"), spots(1, 1, 2, 1, 2, 2, 1, 2)},
		{border(16, 16, "uldr"), spots(15, 15, 16, 15, 16, 16, 15, 16)},
		{border(2, 1, "dlluurrd"), spots(0, 0, 2, 0, 2, 2, 0, 2)},
		{border(1, 0, "rddlluru"), spots(1, 0, 2, 0, 2, 2, 0, 2, 0, 1)},
		{border(1, 0, "rdrdldluluru"), spots(1, 0, 2, 0, 3, 1, 3, 2, 2, 3, 1, 3, 0, 2, 0, 1)},
		// Steps whose corners are on one line.
		{border(0, 0, "rdrdrdllluuu"), spots(0, 0, 1, 0, 3, 2, 3, 3, 0, 3)},
		{border(0, 0, "rddrddrdllluuuuu"), spots(0, 0, 1, 0, 3, 4, 3, 5, 0, 5)},
		// A long straight part with a notch.
		{border(0, 0, "rrdrurrdddllllluuu"), spots(0, 0, 5, 0, 5, 3, 0, 3)},
	}
	for _, test := range tests {
		expect(t, fmt.Sprint("HullOfBorder ", test.b), results(impl.HullOfBorder(test.b)), test.hull, true)
	}
	whole := spots(0, 0, 16, 0, 16, 16, 0, 16)
	expect(t, "HullOfBorder of the wide border", results(impl.HullOfBorder(wideBorder(12))), whole, true)
}

func TestPictureOfAnyBorders(t *testing.T) {
	known := map[string]impl.Picture{}
	parts := map[impl.Border]bool{border(0, 0, "drul"): true, border(1, 1, "lurd"): true, border(0, 0, "rdlu"): true}
	for _, p := range allPictures(3, 3) {
		borders, _ := bordersAsDefined(p)
		known[fmt.Sprint(borders)] = p
		for _, b := range borders {
			parts[b] = true
		}
	}
	check := func(borders ...impl.Border) {
		want, ok := known[fmt.Sprint(borders)]
		expect(t, fmt.Sprint("PictureOfBorders ", borders), results(impl.PictureOfBorders(3, 3, borders)), want, ok)
	}
	check()
	for a := range parts {
		check(a)
		for b := range parts {
			check(a, b)
		}
	}
	for _, p := range allPictures(3, 3) {
		borders, _ := bordersAsDefined(p)
		for i := range borders {
			check(slices.Delete(slices.Clone(borders), i, i+1)...)
			check(append(slices.Clone(borders), borders[i])...)
			check(append(slices.Clone(borders[i:]), borders[:i]...)...)
		}
	}
}
