package tests

import (
	"fmt"
	"slices"
	"strings"
	"testing"

	"loop.example/g01165/impl"
)

// The tests in this file are those of promise 10: what the functions of chapter 9 return for valid arguments.

// valley returns what is told of a valley.
func valley(born, place, death int64) []int64 { return []int64{born, place, death} }

func placeOf(g impl.Grey, at impl.Spot) int64 { return at.Y*greyWidth(g) + at.X }

func spotOf(g impl.Grey, place int64) impl.Spot {
	return impl.Spot{X: place % greyWidth(g), Y: place / greyWidth(g)}
}

func leastNumber(g impl.Grey) int64 { return slices.Min(slices.Concat(g.Rows...)) }

func greatestNumber(g impl.Grey) int64 { return slices.Max(slices.Concat(g.Rows...)) }

// lowPart returns the pixels that are reached from one over numbers of at most a level.
func lowPart(g impl.Grey, from impl.Spot, level int64) pixelSet {
	return partAround(g, from, func(at impl.Spot) bool { return numberAt(g, at) <= level })
}

// lowParts returns the sets of joined pixels with numbers of at most a level.
func lowParts(g impl.Grey, level int64) []pixelSet {
	var parts []pixelSet
	var seen pixelSet
	for _, from := range pixelsOfGrey(g) {
		if numberAt(g, from) <= level && !seen.has(from) {
			part := lowPart(g, from, level)
			seen = seen.with(part)
			parts = append(parts, part)
		}
	}
	return parts
}

// firstOf returns the pixel of a set that is added first.
func firstOf(g impl.Grey, part pixelSet) impl.Spot {
	pixels := part.pixels()
	first := pixels[0]
	for _, at := range pixels {
		if numberAt(g, at) < numberAt(g, first) {
			first = at
		}
	}
	return first
}

// aValley is a valley that lives at some level. Its death is -1 if it never dies.
type aValley struct {
	from        impl.Spot
	born, death int64
}

func (v *aValley) livesAt(level int64) bool {
	return v.born <= level && (v.death < 0 || level < v.death)
}

// valleysAsDefined returns the valleys that live at some level: those of the sets up to it, each of which
// lives as long as its pixel is the first one of its set.
func valleysAsDefined(g impl.Grey) []*aValley {
	var valleys []*aValley
	for level := leastNumber(g); level <= greatestNumber(g); level++ {
		firsts := map[impl.Spot]bool{}
		for _, part := range lowParts(g, level) {
			firsts[firstOf(g, part)] = true
		}
		for _, v := range valleys {
			if v.death < 0 && !firsts[v.from] {
				v.death = level
			}
			delete(firsts, v.from)
		}
		for _, at := range pixelsOfGrey(g) {
			if firsts[at] {
				valleys = append(valleys, &aValley{at, level, -1})
			}
		}
	}
	return valleys
}

// toldValleys returns what is told of valleys.
func toldValleys(g impl.Grey, valleys []*aValley) [][]int64 {
	var list [][]int64
	for _, v := range valleys {
		list = append(list, valley(v.born, placeOf(g, v.from), v.death))
	}
	return list
}

// aMerger is a valley with the pixels that have joined it before it dies.
type aMerger struct {
	born, place, death int64
	pixels             pixelSet
}

// mergersAsDefined adds pixels one after another, as the document says it.
func mergersAsDefined(g impl.Grey) []*aMerger {
	var valleys []*aMerger
	order := pixelsOfGrey(g)
	slices.SortStableFunc(order, func(a, b impl.Spot) int { return int(numberAt(g, a) - numberAt(g, b)) })
	for _, at := range order {
		var joined []*aMerger
		for _, v := range valleys {
			if v.death < 0 && slices.ContainsFunc(joinedTo(g, at), v.pixels.has) {
				joined = append(joined, v)
			}
		}
		if len(joined) == 0 {
			joined = []*aMerger{{born: numberAt(g, at), place: placeOf(g, at), death: -1}}
			valleys = append(valleys, joined[0])
		}
		for _, v := range joined[1:] {
			v.death = numberAt(g, at)
			joined[0].pixels = joined[0].pixels.with(v.pixels)
		}
		joined[0].pixels.add(at)
	}
	return valleys
}

// valleyGreys returns grey pictures with many valleys: of the same number, nested ones, ones that die
// together, long ones, and lakes in lakes.
func valleyGreys() []impl.Grey {
	list := []impl.Grey{
		grey("2,0,3,1,4"), grey("5,5,5/5,1,5/5,4,5"), grey("0,8,2,4,1,3,9"), digits("919/250/939"), digits("55555/51715/57775/52735/55555"),
		digits("33333/39993/39393/39993/33333"), digits("0909/9090/0909/9090"), digits("1111111/1222221/1233321/1230321/1233321/1222221/1111111"),
		greyFrom(16, 16, func(at impl.Spot) int64 { return 99 * (at.X % 2) }),
		greyFrom(16, 16, func(at impl.Spot) int64 { return 99 * max(at.X%2, at.Y%2) }),
		greyFrom(15, 15, func(at impl.Spot) int64 { return 5*max(at.X%2, at.Y%2) + at.X*at.Y%7 }),
		greyFrom(16, 16, func(at impl.Spot) int64 { return at.X%2*(50+at.X*7%16) + at.Y%2*(1-at.X%2)*(20+at.Y*5%16) }),
		greyFrom(16, 16, func(at impl.Spot) int64 { return (at.X*at.X + 3*at.Y*at.Y + at.X*at.Y) % 50 }),
		// A wall at each second place, each one lower or higher than the one before, between the same numbers.
		greyFrom(16, 1, func(at impl.Spot) int64 { return at.X % 2 * (99 - at.X) }),
		greyFrom(1, 16, func(at impl.Spot) int64 { return at.Y % 2 * (at.Y + 1) }),
		// Walls that divide halves again and again, so that valleys of the same age merge.
		greyFrom(16, 1, func(at impl.Spot) int64 { return 6 * ((at.X + 1) & -(at.X + 1)) }),
		greyFrom(16, 16, func(at impl.Spot) int64 { return max((at.X+1)&-(at.X+1), (at.Y+1)&-(at.Y+1)) }),
		hill(16, 16, func(ring int64) int64 { return 9 - ring }),
		hill(16, 13, func(ring int64) int64 { return 40 - 20*(ring%2) + ring }),
		hill(13, 13, func(ring int64) int64 { return 40 + 20*(ring%2) - ring }),
	}
	for _, way := range longWays() {
		list = append(list, impl.Grey{Rows: eachPixel(way, func(at impl.Spot) int64 {
			if isBlack(way, at.X, at.Y) {
				return 30 - (at.X*at.Y+at.X)%8
			}
			return 60 + at.Y
		})})
	}
	return list
}

// allValleyGreys returns grey pictures of all sizes and of many forms.
func allValleyGreys() []impl.Grey { return append(valleyGreys(), sampleGreys()...) }

// fewValleyGreys returns grey pictures for tests that try many other arguments with each of them.
func fewValleyGreys() []impl.Grey { return append(valleyGreys(), fewGreys()...) }

// endOfWay collects the results of EndOfWay.
func endOfWay(g impl.Grey, from impl.Spot, steps string) []any {
	end, height, ok := impl.EndOfWay(g, from, steps)
	return results(end, height, ok)
}

func TestChapter9Examples(t *testing.T) {
	g := grey("2,0,3,1,4")
	expect(t, "ValleysOf", results(impl.ValleysOf(g)), [][]int64{{0, 1, -1}, {1, 3, 3}}, true)
	expect(t, "PassBetween the first and the last", results(impl.PassBetween(g, impl.Spot{}, impl.Spot{X: 4})), 4, true)
	expect(t, "PassBetween 1 and 3", results(impl.PassBetween(g, impl.Spot{X: 1}, impl.Spot{X: 3})), 3, true)
	expect(t, "FillValleys", results(impl.FillValleys(g, 3)), grey("2,0,3,3,4"), true)
	lake := grey("5,5,5/5,1,5/5,4,5")
	expect(t, "SpillAt", results(impl.SpillAt(lake, impl.Spot{X: 1, Y: 1})), 4, true)
	expect(t, "WaterOf", results(impl.WaterOf(lake)), 3, true)
}

func TestValleysByHand(t *testing.T) {
	tests := []struct {
		text string
		want [][]int64
	}{
		{"0", [][]int64{valley(0, 0, -1)}}, {"99", [][]int64{valley(99, 0, -1)}}, {"42", [][]int64{valley(42, 0, -1)}},
		{"5,5,5", [][]int64{valley(5, 0, -1)}}, {"0/0", [][]int64{valley(0, 0, -1)}}, {"99,99/99,99", [][]int64{valley(99, 0, -1)}},
		{"0,1,2", [][]int64{valley(0, 0, -1)}}, {"2,1,0", [][]int64{valley(0, 2, -1)}}, {"3/1/2", [][]int64{valley(1, 1, -1)}},
		{"98,99", [][]int64{valley(98, 0, -1)}}, {"99,98,99", [][]int64{valley(98, 1, -1)}},
		// Valleys with equal numbers: the one with the first place stays.
		{"0,5,0", [][]int64{valley(0, 0, -1), valley(0, 2, 5)}},
		{"0/99/0", [][]int64{valley(0, 0, -1), valley(0, 2, 99)}},
		{"98,99,98", [][]int64{valley(98, 0, -1), valley(98, 2, 99)}},
		{"0,5,0,5,0", [][]int64{valley(0, 0, -1), valley(0, 2, 5), valley(0, 4, 5)}},
		{"0,5,0,3,0", [][]int64{valley(0, 0, -1), valley(0, 2, 5), valley(0, 4, 3)}},
		{"0,3,0,5,0", [][]int64{valley(0, 0, -1), valley(0, 2, 3), valley(0, 4, 5)}},
		{"9,0,9,0/0,9,0,9", [][]int64{valley(0, 1, -1), valley(0, 3, 9), valley(0, 4, 9), valley(0, 6, 9)}},
		// The one with the lesser number stays, wherever it is, and however many pixels the other one has.
		{"1,4,0", [][]int64{valley(0, 2, -1), valley(1, 0, 4)}},
		{"0,4,1", [][]int64{valley(0, 0, -1), valley(1, 2, 4)}},
		{"1,1,1,1,4,0", [][]int64{valley(0, 5, -1), valley(1, 0, 4)}},
		{"0/4/1/1/1/1", [][]int64{valley(0, 0, -1), valley(1, 2, 4)}},
		{"1,2,3,4,0", [][]int64{valley(0, 4, -1), valley(1, 0, 4)}},
		// A valley that dies with its own number is not told.
		{"5,5,0", [][]int64{valley(0, 2, -1)}}, {"3,3,1,3,3", [][]int64{valley(1, 2, -1)}}, {"5,9,5/5,5,5", [][]int64{valley(5, 0, -1)}},
		{"7,0,7/7,7,7", [][]int64{valley(0, 1, -1)}}, {"7,7,7/7,0,7", [][]int64{valley(0, 4, -1)}},
		// Two, three and four valleys merge at one pixel.
		{"2,0,3,1,4", [][]int64{valley(0, 1, -1), valley(1, 3, 3)}},
		{"4,1,3,0,2", [][]int64{valley(0, 3, -1), valley(1, 1, 3)}},
		{"9,1,9/2,5,0", [][]int64{valley(0, 5, -1), valley(1, 1, 5), valley(2, 3, 5)}},
		{"9,1,9/2,5,0/9,3,9", [][]int64{valley(0, 5, -1), valley(1, 1, 5), valley(2, 3, 5), valley(3, 7, 5)}},
		{"9,4,9/4,5,4/9,4,9", [][]int64{valley(4, 1, -1), valley(4, 3, 5), valley(4, 5, 5), valley(4, 7, 5)}},
		// A valley that dies has merged with another one before.
		{"0,8,2,4,1,3,9", [][]int64{valley(0, 0, -1), valley(1, 4, 8), valley(2, 2, 4)}},
		{"0,8,1,4,2,3,9", [][]int64{valley(0, 0, -1), valley(1, 2, 8), valley(2, 4, 4)}},
		{"3,4,1,6,2,5,0", [][]int64{valley(0, 6, -1), valley(1, 2, 6), valley(2, 4, 5), valley(3, 0, 4)}},
		// Pixels in a corner only are not neighbours.
		{"0,5/5,0", [][]int64{valley(0, 0, -1), valley(0, 3, 5)}}, {"0,5/7,0", [][]int64{valley(0, 0, -1), valley(0, 3, 5)}}, {"5,0/0,7", [][]int64{valley(0, 1, -1), valley(0, 2, 5)}},
		// The same place is neither the same spot nor the same pixel in a higher picture.
		{"5,1/9,9/0,9", [][]int64{valley(0, 4, -1), valley(1, 1, 9)}},
		// Lakes and islands.
		{"5,5,5/5,1,5/5,4,5", [][]int64{valley(1, 4, -1)}}, {"1,1,1/1,9,1/1,1,1", [][]int64{valley(1, 0, -1)}},
		{"3,3,3,3,3/3,9,9,9,3/3,9,3,9,3/3,9,9,9,3/3,3,3,3,3", [][]int64{valley(3, 0, -1), valley(3, 12, 9)}},
		{"3,3,3,3,3/3,9,9,9,3/3,9,2,9,3/3,9,9,9,3/3,3,3,3,3", [][]int64{valley(2, 12, -1), valley(3, 0, 9)}},
	}
	for _, test := range tests {
		expect(t, "ValleysOf "+test.text, results(impl.ValleysOf(grey(test.text))), test.want, true)
	}
}

func checkValleys(t *testing.T, g impl.Grey) {
	t.Helper()
	want := toldValleys(g, valleysAsDefined(g))
	if got, ok := impl.ValleysOf(g); !ok || !same(got, want) {
		t.Errorf("ValleysOf %s: got %v, want %v", textOf(g), got, want)
	}
	var merged [][]int64
	for _, v := range mergersAsDefined(g) {
		if v.death < 0 || v.death > v.born {
			merged = append(merged, valley(v.born, v.place, v.death))
		}
	}
	if !same(merged, want) {
		t.Errorf("valleys of %s are %v by merging and %v by levels", textOf(g), merged, want)
	}
}

func TestValleysAsDefined(t *testing.T) {
	for _, g := range append(smallGreys(), allValleyGreys()...) {
		checkValleys(t, g)
	}
	for _, size := range [][3]int64{{5, 1, 4}, {1, 5, 4}, {6, 1, 2}, {1, 7, 2}, {4, 2, 2}, {3, 3, 2}} {
		for _, g := range allGreys(size[0], size[1], size[2]) {
			checkValleys(t, g)
		}
	}
}

func TestPermutedNumbersHaveTheirValleys(t *testing.T) {
	// No two numbers are the same, so that places decide nothing.
	numbers := []int64{0, 3, 20, 21, 70, 99}
	for code := range int64(720) {
		rest := slices.Clone(numbers)
		next := func(at impl.Spot) int64 {
			i := code % int64(len(rest))
			code /= int64(len(rest))
			n := rest[i]
			rest = slices.Delete(rest, int(i), int(i)+1)
			return n
		}
		line := greyFrom(6, 1, next)
		checkValleys(t, line)
		checkValleys(t, impl.Grey{Rows: [][]int64{line.Rows[0][:3], line.Rows[0][3:]}})
	}
}

func TestCountBelowByHand(t *testing.T) {
	tests := []struct {
		text        string
		level, want int64
	}{
		{"0", 0, 1}, {"0", 99, 1}, {"99", 98, 0}, {"99", 99, 1}, {"99", 0, 0}, {"1", 0, 0}, {"1", 1, 1},
		{"2,0,3,1,4", 0, 1}, {"2,0,3,1,4", 1, 2}, {"2,0,3,1,4", 2, 2}, {"2,0,3,1,4", 3, 1}, {"2,0,3,1,4", 4, 1}, {"2,0,3,1,4", 5, 1}, {"2,0,3,1,4", 99, 1},
		{"5,7", 4, 0}, {"5,7", 5, 1}, {"5,7", 6, 1}, {"5,7", 7, 1}, {"5/5", 4, 0}, {"5/5", 5, 1},
		{"0,5,0,5,0", 0, 3}, {"0,5,0,5,0", 4, 3}, {"0,5,0,5,0", 5, 1}, {"0,5,0,3,0", 2, 3}, {"0,5,0,3,0", 3, 2}, {"0,5,0,3,0", 4, 2}, {"0,5,0,3,0", 5, 1},
		// Pixels in a corner only are not joined.
		{"0,5/5,0", 4, 2}, {"0,5/5,0", 5, 1}, {"0,9,0/9,0,9/0,9,0", 8, 5}, {"0,9,0/9,0,9/0,9,0", 9, 1},
		// A valley that dies with its own number is no set of its own at any level.
		{"5,5,0", 4, 1}, {"5,5,0", 5, 1}, {"5,9,5/5,5,5", 5, 1}, {"5,9,5/5,5,5", 4, 0},
		{"1,1,1/1,9,1/1,1,1", 1, 1}, {"9,1,9/2,5,0/9,3,9", 0, 1}, {"9,1,9/2,5,0/9,3,9", 1, 2}, {"9,1,9/2,5,0/9,3,9", 2, 3}, {"9,1,9/2,5,0/9,3,9", 4, 4}, {"9,1,9/2,5,0/9,3,9", 5, 1},
		{"0,99,0", 98, 2}, {"0,99,0", 99, 1},
	}
	for _, test := range tests {
		expect(t, fmt.Sprint("CountBelow ", test.text, " ", test.level), results(impl.CountBelow(grey(test.text), test.level)), test.want, true)
	}
}

func TestLevelCountsByHand(t *testing.T) {
	// What is said for some levels holds for those behind them too, up to the next one.
	tests := []struct {
		text string
		from map[int64]int64
	}{
		{"0", map[int64]int64{0: 1}}, {"99", map[int64]int64{99: 1}}, {"50,50", map[int64]int64{50: 1}},
		{"2,0,3,1,4", map[int64]int64{0: 1, 1: 2, 3: 1}}, {"5,9,6", map[int64]int64{5: 1, 6: 2, 9: 1}}, {"0,99,0", map[int64]int64{0: 2, 99: 1}},
		{"0,5,0,3,0", map[int64]int64{0: 3, 3: 2, 5: 1}}, {"9,1,9/2,5,0/9,3,9", map[int64]int64{0: 1, 1: 2, 2: 3, 3: 4, 5: 1}},
		{"98,99/99,98", map[int64]int64{98: 2, 99: 1}}, {"20,20,30/30,20,20", map[int64]int64{20: 1}},
	}
	for _, test := range tests {
		var want []int64
		count := int64(0)
		for level := range int64(100) {
			if n, ok := test.from[level]; ok {
				count = n
			}
			want = append(want, count)
		}
		expect(t, "LevelCounts "+test.text, results(impl.LevelCounts(grey(test.text))), want, true)
	}
}

func TestValleysThatLiveAtALevelAreTheSetsUpToIt(t *testing.T) {
	for _, g := range append(smallGreys(), allValleyGreys()...) {
		list, _ := impl.ValleysOf(g)
		counts, ok := impl.LevelCounts(g)
		if !ok || len(counts) != impl.MaxGrey+1 {
			t.Fatalf("LevelCounts %s: got %v, %v", textOf(g), counts, ok)
		}
		for level := range int64(impl.MaxGrey + 1) {
			parts := lowParts(g, level)
			count, ok := impl.CountBelow(g, level)
			if !ok || count != int64(len(parts)) || counts[level] != count {
				t.Fatalf("%s up to %d: %d sets, but CountBelow %d, %v, and LevelCounts %d", textOf(g), level, len(parts), count, ok, counts[level])
			}
			// Each set has one of the valleys that live there, which was born first of all in it.
			var firsts []impl.Spot
			for _, part := range parts {
				firsts = append(firsts, firstOf(g, part))
			}
			for _, told := range list {
				v := aValley{spotOf(g, told[1]), told[0], told[2]}
				if v.livesAt(level) != slices.Contains(firsts, v.from) {
					t.Fatalf("%s up to %d: the valley %v, but the first ones are %v", textOf(g), level, told, firsts)
				}
			}
		}
	}
}

func TestCountsOfLevelsAreThoseOfComponents(t *testing.T) {
	for _, g := range fewValleyGreys() {
		for level := range int64(impl.MaxGrey + 1) {
			high, _ := impl.ThresholdGrey(g, level+1)
			low, _ := impl.InvertPicture(high)
			_, want, _ := impl.ComponentsOf(low, false)
			expect(t, fmt.Sprint("CountBelow ", textOf(g), " ", level), results(impl.CountBelow(g, level)), want, true)
		}
	}
}

// someSpots returns pixels of a grey picture: all of a small one, the corners and some others of a large one.
func (n *noise) someSpots(g impl.Grey, arbitrary int) []impl.Spot {
	pixels := pixelsOfGrey(g)
	if len(pixels) <= 12 {
		return pixels
	}
	x, y := greyWidth(g)-1, greyHeight(g)-1
	list := spots(0, 0, x, 0, 0, y, x, y, x/2, y/2)
	for range arbitrary {
		list = append(list, pixels[n.below(int64(len(pixels)))])
	}
	return list
}

func TestPassByHand(t *testing.T) {
	tests := []struct {
		text           string
		ax, ay, bx, by int64
		want           int64
	}{
		// A way of no steps is as high as its pixel.
		{"0", 0, 0, 0, 0, 0}, {"99", 0, 0, 0, 0, 99}, {"2,0,3,1,4", 2, 0, 2, 0, 3}, {"0,7/0,0", 1, 0, 1, 0, 7},
		{"2,0,3,1,4", 0, 0, 4, 0, 4}, {"2,0,3,1,4", 4, 0, 0, 0, 4}, {"2,0,3,1,4", 1, 0, 3, 0, 3}, {"2,0,3,1,4", 0, 0, 1, 0, 2}, {"2,0,3,1,4", 1, 0, 0, 0, 2},
		{"0,99,0", 0, 0, 2, 0, 99}, {"0/99/0", 0, 2, 0, 0, 99}, {"7,7,7", 0, 0, 2, 0, 7},
		// The first and the last pixel count.
		{"9,0,0", 0, 0, 2, 0, 9}, {"0,0,9", 0, 0, 2, 0, 9}, {"9,0,8", 0, 0, 2, 0, 9},
		// Around a wall, and through it if the way around is higher.
		{"0,9,0/0,9,0/0,0,0", 0, 0, 2, 0, 0}, {"0,9,0/0,9,0/0,3,0", 0, 0, 2, 0, 3}, {"0,4,0/0,9,0/0,5,0", 0, 2, 2, 2, 4}, {"1,4,0/0,9,0/0,5,0", 2, 2, 0, 2, 4},
		// No way leads over a corner.
		{"0,9/9,0", 0, 0, 1, 1, 9}, {"0,8/9,0", 0, 0, 1, 1, 8}, {"0,9/8,0", 1, 1, 0, 0, 8},
		{"0,9,9/9,0,9/9,9,0", 0, 0, 2, 2, 9}, {"0,9,9/3,0,9/9,4,0", 0, 0, 2, 2, 4},
	}
	for _, test := range tests {
		a, b := impl.Spot{X: test.ax, Y: test.ay}, impl.Spot{X: test.bx, Y: test.by}
		expect(t, fmt.Sprint("PassBetween ", test.text, a, b), results(impl.PassBetween(grey(test.text), a, b)), test.want, true)
	}
}

// lowestFrom returns the least height of a way from some pixels to each pixel: the first level up to which it is reached.
func lowestFrom(g impl.Grey, starts []impl.Spot) map[impl.Spot]int64 {
	heights := map[impl.Spot]int64{}
	numbers := slices.Concat(g.Rows...)
	slices.Sort(numbers)
	for _, level := range slices.Compact(numbers) {
		var low pixelSet
		for _, from := range starts {
			if numberAt(g, from) <= level && !low.has(from) {
				low = low.with(lowPart(g, from, level))
			}
		}
		for _, at := range low.pixels() {
			if _, known := heights[at]; !known {
				heights[at] = level
			}
		}
	}
	return heights
}

// passesFrom returns the least height of a way from a pixel to each other one.
func passesFrom(g impl.Grey, from impl.Spot) map[impl.Spot]int64 {
	return lowestFrom(g, []impl.Spot{from})
}

func TestPassAsDefined(t *testing.T) {
	source := noise(101)
	for _, g := range append(smallGreys(), allValleyGreys()...) {
		for _, from := range source.someSpots(g, 1) {
			passes := passesFrom(g, from)
			for _, to := range source.someSpots(g, 30) {
				if got, ok := impl.PassBetween(g, from, to); !ok || got != passes[to] {
					t.Fatalf("PassBetween %s %v %v: got %d, %v, want %d", textOf(g), from, to, got, ok, passes[to])
				}
			}
		}
	}
}

func TestPassesAreThoseOfFloods(t *testing.T) {
	source := noise(102)
	for _, g := range fewValleyGreys() {
		pixels := source.someSpots(g, 3)
		for _, a := range pixels {
			for _, b := range pixels {
				pass, _ := impl.PassBetween(g, a, b)
				expect(t, fmt.Sprint("PassBetween exchanged ", textOf(g), a, b), results(impl.PassBetween(g, b, a)), pass, true)
				// Over pixels up to the pass, one is reached from the other, and up to less, it is not.
				for _, level := range []int64{pass - 1, pass} {
					low, _ := impl.ThresholdGrey(g, level+1)
					low, _ = impl.InvertPicture(low)
					marker := onePixel(greyWidth(g), greyHeight(g), a)
					reachedPixels, _ := impl.ReconstructPicture(marker, low, false)
					if isReached := isBlack(reachedPixels, b.X, b.Y); numberAt(g, a) <= level && isReached != (level == pass) {
						t.Fatalf("PassBetween %s %v %v: %d, but up to %d, it is %v that one is reached", textOf(g), a, b, pass, level, isReached)
					}
				}
			}
		}
	}
}

// letterMoves has where the letters of a way lead, in ascending order.
var letterMoves = []struct {
	letter string
	move   impl.Spot
}{{"d", impl.Spot{Y: 1}}, {"l", impl.Spot{X: -1}}, {"r", impl.Spot{X: 1}}, {"u", impl.Spot{Y: -1}}}

// walkedWay returns where a way leads, and the numbers of all its pixels, or false if it leaves the picture.
func walkedWay(g impl.Grey, from impl.Spot, steps string) (impl.Spot, []int64, bool) {
	numbers := []int64{numberAt(g, from)}
	for _, letter := range strings.Split(steps, "") {
		for _, m := range letterMoves {
			if m.letter == letter {
				from = impl.Spot{X: from.X + m.move.X, Y: from.Y + m.move.Y}
			}
		}
		if from.X < 0 || from.Y < 0 || from.X >= greyWidth(g) || from.Y >= greyHeight(g) {
			return impl.Spot{}, nil, false
		}
		numbers = append(numbers, numberAt(g, from))
	}
	return from, numbers, true
}

func TestWayByHand(t *testing.T) {
	tests := []struct {
		text           string
		ax, ay, bx, by int64
		want           string
	}{
		{"0", 0, 0, 0, 0, ""}, {"99", 0, 0, 0, 0, ""}, {"2,0,3,1,4", 2, 0, 2, 0, ""}, {"7,7/7,7", 1, 1, 1, 1, ""},
		{"2,0,3,1,4", 0, 0, 4, 0, "rrrr"}, {"2,0,3,1,4", 4, 0, 0, 0, "llll"}, {"2,0,3,1,4", 1, 0, 3, 0, "rr"}, {"3/1/2", 0, 0, 0, 2, "dd"}, {"3/1/2", 0, 2, 0, 1, "u"},
		// Of several ways, down comes first, then left, right and up.
		{"7,7/7,7", 0, 0, 1, 1, "dr"}, {"7,7/7,7", 1, 1, 0, 0, "lu"}, {"7,7/7,7", 1, 0, 0, 1, "dl"}, {"7,7/7,7", 0, 1, 1, 0, "ru"},
		{"5,5,5/5,5,5/5,5,5", 0, 0, 2, 2, "ddrr"}, {"5,5,5/5,5,5/5,5,5", 2, 2, 0, 0, "lluu"}, {"5,5,5/5,5,5/5,5,5", 2, 0, 0, 2, "ddll"}, {"5,5,5/5,5,5/5,5,5", 0, 2, 2, 0, "rruu"},
		// The first letters decide, whatever comes behind them.
		{"0,0,0/0,9,0/0,0,0", 0, 0, 2, 2, "ddrr"}, {"0,0,0/9,9,0/0,0,0", 0, 0, 2, 2, "rrdd"}, {"0,0,0/0,0,0/9,0,0", 0, 0, 2, 2, "drdr"}, {"0,0,9/0,0,0/0,0,0", 2, 2, 0, 0, "lluu"}, {"0,0,0/0,0,0/9,0,0", 2, 2, 0, 0, "lulu"},
		{"0,0,0/0,9,0/0,0,0", 1, 0, 1, 2, "lddr"}, {"0,0,0/0,9,0/0,0,0", 0, 1, 2, 1, "drru"}, {"0,0,0/0,9,0/0,0,0", 1, 2, 1, 0, "luur"}, {"0,0,0/0,9,0/0,0,0", 2, 1, 0, 1, "dllu"},
		// The lowest way goes around a wall, if the first or the last pixel is not as high as the wall.
		{"0,9,0/0,0,0", 0, 0, 2, 0, "drru"}, {"8,9,0/0,0,0", 0, 0, 2, 0, "drru"}, {"9,9,0/0,0,0", 0, 0, 2, 0, "rr"}, {"0,9,9/0,0,0", 0, 0, 2, 0, "rr"}, {"0,8,9/0,0,0", 0, 0, 2, 0, "rr"}, {"0,9,8/0,0,0", 0, 0, 2, 0, "drru"},
		// A way need not be as low as it could be before its highest pixel.
		{"0,3,0,5,0/0,0,0,9,0", 0, 0, 4, 0, "rrrr"}, {"0,3,0,2,0/0,0,0,9,0", 0, 0, 4, 0, "drrurr"},
		{"0,0,0,0/0,9,9,0/0,0,3,4", 0, 0, 3, 2, "ddrrr"}, {"0,0,0,0/0,9,9,0/0,0,5,4", 0, 0, 3, 2, "rrrdd"},
	}
	for _, test := range tests {
		a, b := impl.Spot{X: test.ax, Y: test.ay}, impl.Spot{X: test.bx, Y: test.by}
		expect(t, fmt.Sprint("WayBetween ", test.text, a, b), results(impl.WayBetween(grey(test.text), a, b)), test.want, true)
	}
}

// waysAsDefined returns the least one of the shortest ways from a pixel to all others on which no number is
// greater than a level: those of one length are made of those that are one step shorter.
func waysAsDefined(g impl.Grey, from impl.Spot, level int64) map[impl.Spot]string {
	ways := map[impl.Spot]string{from: ""}
	last := map[impl.Spot]string{from: ""}
	for len(last) > 0 {
		longer := map[impl.Spot]string{}
		for at, way := range last {
			for _, m := range letterMoves {
				to := impl.Spot{X: at.X + m.move.X, Y: at.Y + m.move.Y}
				if _, known := ways[to]; known || !slices.Contains(joinedTo(g, at), to) || numberAt(g, to) > level {
					continue
				}
				if other, ok := longer[to]; !ok || way+m.letter < other {
					longer[to] = way + m.letter
				}
			}
		}
		for at, way := range longer {
			ways[at] = way
		}
		last = longer
	}
	return ways
}

func TestWayAsDefined(t *testing.T) {
	source := noise(103)
	for _, g := range append(smallGreys(), allValleyGreys()...) {
		for _, from := range source.someSpots(g, 0) {
			passes := passesFrom(g, from)
			ways := map[int64]map[impl.Spot]string{}
			for _, to := range source.someSpots(g, 12) {
				pass := passes[to]
				if ways[pass] == nil {
					ways[pass] = waysAsDefined(g, from, pass)
				}
				if got, ok := impl.WayBetween(g, from, to); !ok || got != ways[pass][to] {
					t.Fatalf("WayBetween %s %v %v: got %q, %v, want %q", textOf(g), from, to, got, ok, ways[pass][to])
				}
			}
		}
	}
}

// allWays returns all texts of steps up to a number, shorter ones first, then in their order.
func allWays(most int) []string {
	list := []string{""}
	last := list
	for range most {
		var longer []string
		for _, way := range last {
			for _, m := range letterMoves {
				longer = append(longer, way+m.letter)
			}
		}
		last = longer
		list = append(list, longer...)
	}
	return list
}

func TestNoWayIsLowerThanThePass(t *testing.T) {
	// In such small pictures, each way has one that is not higher and visits no pixel twice.
	for _, size := range [][4]int64{{1, 1, 3, 2}, {4, 1, 2, 4}, {1, 4, 2, 4}, {2, 2, 2, 4}, {3, 2, 1, 6}} {
		ways := allWays(int(size[3]))
		for _, g := range allGreys(size[0], size[1], size[2]) {
			for _, from := range pixelsOfGrey(g) {
				lowest, first := map[impl.Spot]int64{}, map[impl.Spot]string{}
				for _, way := range ways {
					to, numbers, ok := walkedWay(g, from, way)
					if !ok {
						continue
					}
					if height, known := lowest[to]; !known || slices.Max(numbers) < height {
						lowest[to], first[to] = slices.Max(numbers), way
					}
				}
				for _, to := range pixelsOfGrey(g) {
					pass, ok := impl.PassBetween(g, from, to)
					way, also := impl.WayBetween(g, from, to)
					if !ok || !also || pass != lowest[to] || way != first[to] {
						t.Fatalf("%s from %v to %v: %d and %q, want %d and %q", textOf(g), from, to, pass, way, lowest[to], first[to])
					}
				}
			}
		}
	}
}

func TestWaysLeadOverThePass(t *testing.T) {
	source := noise(104)
	for _, g := range append(largeGreys(), fewValleyGreys()...) {
		list := source.someSpots(g, 4)
		for _, a := range list {
			for _, b := range list {
				way, ok := impl.WayBetween(g, a, b)
				if !ok || (way == "") != (a == b) {
					t.Fatalf("WayBetween %s %v %v: got %q, %v", textOf(g), a, b, way, ok)
				}
				pass, _ := impl.PassBetween(g, a, b)
				expect(t, fmt.Sprint("EndOfWay ", textOf(g), a, way), endOfWay(g, a, way), b, pass, true)
			}
		}
	}
}

func TestLongWayByHand(t *testing.T) {
	snake := longWays()[1]
	g := impl.Grey{Rows: eachPixel(snake, func(at impl.Spot) int64 {
		if isBlack(snake, at.X, at.Y) {
			return 1
		}
		return 2
	})}
	right, left := strings.Repeat("r", 14), strings.Repeat("l", 14)
	first, last := impl.Spot{}, impl.Spot{Y: 15}
	there := strings.Repeat(right+"dd"+left+"dd", 3) + right + "dd" + left + "d"
	back := "u" + right + "uu" + left + strings.Repeat("uu"+right+"uu"+left, 3)
	expect(t, "WayBetween", results(impl.WayBetween(g, first, last)), there, true)
	expect(t, "WayBetween back", results(impl.WayBetween(g, last, first)), back, true)
	expect(t, "EndOfWay", endOfWay(g, first, there), last, 1, true)
	expect(t, "EndOfWay back", endOfWay(g, last, back), first, 1, true)
}

func TestEndOfWayByHand(t *testing.T) {
	tests := []struct {
		text   string
		x, y   int64
		steps  string
		atX    int64
		atY    int64
		height int64
	}{
		// Ways of no steps.
		{"0", 0, 0, "", 0, 0, 0}, {"99", 0, 0, "", 0, 0, 99}, {"1,2/3,4", 1, 1, "", 1, 1, 4}, {"1,2/3,4", 0, 1, "", 0, 1, 3},
		{"1,2/3,4", 0, 0, "d", 0, 1, 3}, {"1,2/3,4", 0, 0, "r", 1, 0, 2}, {"1,2/3,4", 1, 1, "u", 1, 0, 4}, {"1,2/3,4", 1, 1, "l", 0, 1, 4},
		{"1,2/3,4", 0, 0, "dr", 1, 1, 4}, {"1,2/3,4", 0, 0, "rd", 1, 1, 4}, {"1,2/3,4", 0, 0, "du", 0, 0, 3}, {"1,2/3,4", 0, 0, "rl", 0, 0, 2}, {"1,2/3,4", 0, 0, "drul", 0, 0, 4},
		{"2,0,3,1,4", 1, 0, "rr", 3, 0, 3}, {"2,0,3,1,4", 1, 0, "l", 0, 0, 2}, {"2,0,3,1,4", 3, 0, "lrlr", 3, 0, 3}, {"2,0,3,1,4", 0, 0, "rrrr", 4, 0, 4}, {"2,0,3,1,4", 4, 0, "llll", 0, 0, 4},
		{"0/99/0", 0, 0, "dd", 0, 2, 99}, {"0/99/0", 0, 2, "uu", 0, 0, 99}, {"0/99/0", 0, 1, "u", 0, 0, 99}, {"0/99/0", 0, 0, "d", 0, 1, 99},
		// The highest pixel can be the first one, one between, or the last one.
		{"9,1,2", 0, 0, "rr", 2, 0, 9}, {"1,9,2", 0, 0, "rr", 2, 0, 9}, {"1,2,9", 0, 0, "rr", 2, 0, 9}, {"1,2,9", 0, 0, "rrl", 1, 0, 9}, {"1,2,9", 0, 0, "r", 1, 0, 2},
	}
	for _, test := range tests {
		what := fmt.Sprint("EndOfWay ", test.text, " ", test.x, " ", test.y, " ", test.steps)
		got := endOfWay(grey(test.text), impl.Spot{X: test.x, Y: test.y}, test.steps)
		expect(t, what, got, impl.Spot{X: test.atX, Y: test.atY}, test.height, true)
	}
}

func checkEndOfWay(t *testing.T, g impl.Grey, from impl.Spot, steps string) bool {
	t.Helper()
	what := fmt.Sprint("EndOfWay ", textOf(g), from, steps)
	got := endOfWay(g, from, steps)
	end, numbers, ok := walkedWay(g, from, steps)
	if ok {
		expect(t, what, got, end, slices.Max(numbers), true)
	} else {
		expectFailure(t, what, got)
	}
	return ok
}

func TestEndOfWayAsDefined(t *testing.T) {
	ways := allWays(4)
	for _, g := range []impl.Grey{digits("5"), digits("3142"), digits("3/1/4/2"), digits("12/34"), digits("123/654"), digits("31/42/65"), digits("928/374/156")} {
		for _, from := range pixelsOfGrey(g) {
			for _, way := range ways {
				checkEndOfWay(t, g, from, way)
			}
		}
	}
}

// walk returns an arbitrary way with a number of steps that stays in a picture.
func (n *noise) walk(g impl.Grey, from impl.Spot, steps int) string {
	var way strings.Builder
	for range steps {
		to := joinedTo(g, from)
		next := to[n.below(int64(len(to)))]
		for _, m := range letterMoves {
			if from.X+m.move.X == next.X && from.Y+m.move.Y == next.Y {
				way.WriteString(m.letter)
			}
		}
		from = next
	}
	return way.String()
}

func TestEndsOfArbitraryWays(t *testing.T) {
	source := noise(105)
	for _, g := range fewValleyGreys() {
		if greyWidth(g)*greyHeight(g) == 1 {
			continue
		}
		for _, from := range source.someSpots(g, 1) {
			for _, steps := range []int{1, 10, 40, 100} {
				way := source.walk(g, from, steps)
				if !checkEndOfWay(t, g, from, way) {
					t.Fatalf("%q must stay in %s from %v", way, textOf(g), from)
				}
				end, _, _ := walkedWay(g, from, way)
				height := endOfWay(g, from, way)[1].(int64)
				if pass, _ := impl.PassBetween(g, from, end); height < pass {
					t.Errorf("%q in %s from %v is lower than the pass %d", way, textOf(g), from, pass)
				}
				// One step more can lead out.
				for _, m := range letterMoves {
					checkEndOfWay(t, g, from, way+m.letter)
					checkEndOfWay(t, g, from, m.letter+way)
				}
			}
		}
	}
}

func TestDepthByHand(t *testing.T) {
	tests := []struct {
		text       string
		x, y, want int64
	}{
		{"2,0,3,1,4", 3, 0, 2}, {"2,0,3,1,4", 0, 0, 0}, {"2,0,3,1,4", 2, 0, 0}, {"2,0,3,1,4", 4, 0, 0},
		{"1,0", 0, 0, 0}, {"0/1", 0, 1, 0}, {"99,0", 0, 0, 0}, {"0,99,98", 1, 0, 0}, {"0,99,98", 2, 0, 1}, {"0,99,1", 2, 0, 98},
		// Over a plateau, there is nothing to rise.
		{"3,3,3,1", 0, 0, 0}, {"3,3,3,1", 1, 0, 0}, {"3,3/3,3/3,1", 0, 0, 0},
		// The nearest lesser number is not the one that is told, and the least one neither.
		{"0,9,5,6,4", 2, 0, 1}, {"4,6,5,9,0", 2, 0, 1}, {"4,7,5,6,6,6,4", 2, 0, 1}, {"1,9,5,6,4", 2, 0, 1},
		// One with the same number does not count.
		{"5,7,5,9,0", 0, 0, 4}, {"5,7,5,9,0", 2, 0, 4}, {"5,7,5,9,0", 1, 0, 0},
		{"9,9,9/9,1,9/0,9,9", 1, 1, 8}, {"9,9,9/9,1,9/9,9,0", 1, 1, 8}, {"9,9,9/4,1,9/0,9,9", 1, 1, 3}, {"9,9,9/4,1,9/7,9,0", 1, 1, 8},
		{"0,8,2,4,1,3,9", 2, 0, 2}, {"0,8,2,4,1,3,9", 4, 0, 7}, {"0,8,2,4,1,3,9", 5, 0, 0},
		// On a height, each way leads down at once.
		{"1,1,1/1,9,1/1,1,1", 1, 1, 0},
	}
	for _, test := range tests {
		at := impl.Spot{X: test.x, Y: test.y}
		expect(t, fmt.Sprint("DepthAt ", test.text, at), results(impl.DepthAt(grey(test.text), at)), test.want, true)
	}
}

func TestDepthFailsWithoutALesserNumber(t *testing.T) {
	tests := []struct {
		text string
		x, y int64
	}{
		{"0", 0, 0}, {"99", 0, 0}, {"2,0,3,1,4", 1, 0}, {"7,7/7,7", 0, 0}, {"7,7/7,7", 1, 1}, {"5,9,5", 0, 0}, {"5,9,5", 2, 0}, {"1/2", 0, 0},
		{"9,9,9/9,1,9/9,9,9", 1, 1}, {"1,1,1/1,9,1/1,1,1", 0, 0}, {"98,99", 0, 0},
	}
	for _, test := range tests {
		at := impl.Spot{X: test.x, Y: test.y}
		expectFailure(t, fmt.Sprint("DepthAt ", test.text, at), results(impl.DepthAt(grey(test.text), at)))
	}
}

// depthAsDefined returns the depth at a pixel: the first level up to which a lesser number is reached.
func depthAsDefined(g impl.Grey, at impl.Spot) (int64, bool) {
	number := numberAt(g, at)
	for level := number; level <= impl.MaxGrey; level++ {
		isLesser := func(s impl.Spot) bool { return numberAt(g, s) < number }
		if slices.ContainsFunc(lowPart(g, at, level).pixels(), isLesser) {
			return level - number, true
		}
	}
	return 0, false
}

func TestDepthAsDefined(t *testing.T) {
	source := noise(106)
	for _, g := range append(smallGreys(), allValleyGreys()...) {
		for _, at := range source.someSpots(g, 4) {
			want, exists := depthAsDefined(g, at)
			if got, ok := impl.DepthAt(g, at); got != want || ok != exists {
				t.Fatalf("DepthAt %s %v: got %d, %v, want %d, %v", textOf(g), at, got, ok, want, exists)
			}
		}
	}
}

func TestDepthsAreThoseOfValleys(t *testing.T) {
	compared := 0
	for _, g := range append(smallGreys(), allValleyGreys()...) {
		list, _ := impl.ValleysOf(g)
		for _, told := range list {
			at := spotOf(g, told[1])
			if told[2] < 0 {
				expectFailure(t, fmt.Sprint("DepthAt ", textOf(g), at), results(impl.DepthAt(g, at)))
				continue
			}
			// The first one of all that it joins was born with a lesser number, or with the same one.
			first := firstOf(g, lowPart(g, at, told[2]))
			depth, ok := impl.DepthAt(g, at)
			if numberAt(g, first) < told[0] {
				compared++
				if !ok || depth != told[2]-told[0] {
					t.Errorf("DepthAt %s %v: got %d, %v, but the valley is %v", textOf(g), at, depth, ok, told)
				}
			} else if ok && depth <= told[2]-told[0] {
				t.Errorf("DepthAt %s %v: got %d, but the valley %v joins one with the same number", textOf(g), at, depth, told)
			}
		}
	}
	if compared < 1000 {
		t.Errorf("only %d depths are those of valleys", compared)
	}
}

func TestFillValleysByHand(t *testing.T) {
	tests := []struct {
		text  string
		depth int64
		want  string
	}{
		{"0", 0, "0"}, {"0", 100, "0"}, {"99", 0, "99"}, {"99", 100, "99"}, {"7,7/7,7", 100, "7,7/7,7"}, {"3,2,1,2,3", 100, "3,2,1,2,3"},
		{"2,0,3,1,4", 0, "2,0,3,1,4"}, {"2,0,3,1,4", 1, "2,0,3,1,4"}, {"2,0,3,1,4", 2, "2,0,3,1,4"}, {"2,0,3,1,4", 3, "2,0,3,3,4"}, {"2,0,3,1,4", 100, "2,0,3,3,4"},
		// Valleys with equal numbers: all but the first one are filled.
		{"0,5,0", 5, "0,5,0"}, {"0,5,0", 6, "0,5,5"}, {"0/5/0/5/0", 5, "0/5/0/5/0"}, {"0/5/0/5/0", 6, "0/5/5/5/5"}, {"0,5,0,3,0", 4, "0,5,0,3,3"}, {"0,5,0,3,0", 6, "0,5,5,5,5"}, {"0,3,0,5,0", 4, "0,3,3,5,0"},
		// The greatest and the least depth of a valley.
		{"0,99,0", 99, "0,99,0"}, {"0,99,0", 100, "0,99,99"}, {"98,99,98", 1, "98,99,98"}, {"98,99,98", 2, "98,99,99"},
		// The one that is filled can be the larger one, and come before.
		{"1,2,1,4,0", 2, "1,2,2,4,0"}, {"1,2,1,4,0", 4, "4,4,4,4,0"}, {"2,1,3,9,0", 8, "2,1,3,9,0"}, {"2,1,3,9,0", 9, "9,9,9,9,0"},
		// What has joined a valley is filled with it, also what joined it by merging.
		{"0,8,2,4,1,3,9", 2, "0,8,2,4,1,3,9"}, {"0,8,2,4,1,3,9", 3, "0,8,4,4,1,3,9"}, {"0,8,2,4,1,3,9", 7, "0,8,4,4,1,3,9"}, {"0,8,2,4,1,3,9", 8, "0,8,8,8,8,8,9"},
		{"9,1,9/2,5,0/9,3,9", 2, "9,1,9/2,5,0/9,3,9"}, {"9,1,9/2,5,0/9,3,9", 3, "9,1,9/2,5,0/9,5,9"}, {"9,1,9/2,5,0/9,3,9", 4, "9,1,9/5,5,0/9,5,9"}, {"9,1,9/2,5,0/9,3,9", 5, "9,5,9/5,5,0/9,5,9"},
		// A lake has the lowest place of all, so it is the valley of the land around it that is filled.
		{"2,2,2/2,1,2/2,2,2", 100, "2,2,2/2,1,2/2,2,2"}, {"3,3,3,3,3/3,9,9,9,3/3,9,2,9,3/3,9,9,9,3/3,3,3,3,3", 7, "9,9,9,9,9/9,9,9,9,9/9,9,2,9,9/9,9,9,9,9/9,9,9,9,9"},
		{"3,3,3,3,3/3,9,9,9,3/3,9,3,9,3/3,9,9,9,3/3,3,3,3,3", 7, "3,3,3,3,3/3,9,9,9,3/3,9,9,9,3/3,9,9,9,3/3,3,3,3,3"},
		{"0,5/7,0", 6, "0,5/7,5"}, {"5,0/0,7", 6, "5,0/5,7"}, {"5,0/0,7", 5, "5,0/0,7"},
	}
	for _, test := range tests {
		expect(t, fmt.Sprint("FillValleys ", test.text, " ", test.depth), results(impl.FillValleys(grey(test.text), test.depth)), grey(test.want), true)
	}
}

// filledAsDefined raises for each shallow valley what is reached from its place over numbers that are less
// than the one with which it dies.
func filledAsDefined(g impl.Grey, valleys []*aValley, depth int64) impl.Grey {
	raised := map[impl.Spot]int64{}
	for _, v := range valleys {
		if v.death < 0 || v.death-v.born >= depth {
			continue
		}
		for _, at := range lowPart(g, v.from, v.death-1).pixels() {
			raised[at] = max(raised[at], v.death)
		}
	}
	return eachNumber(g, func(at impl.Spot) int64 { return max(numberAt(g, at), raised[at]) })
}

// filledByMerging raises for each shallow valley the pixels that have joined it before it dies.
func filledByMerging(g impl.Grey, valleys []*aMerger, depth int64) impl.Grey {
	return eachNumber(g, func(at impl.Spot) int64 {
		number := numberAt(g, at)
		for _, v := range valleys {
			if v.death >= 0 && v.death-v.born < depth && v.pixels.has(at) {
				number = max(number, v.death)
			}
		}
		return number
	})
}

// usefulDepths returns depths at which something changes for some valleys, and those next to them.
func usefulDepths(valleys []*aValley) []int64 {
	list := []int64{0, 1, 2, 50, 99, 100}
	for _, v := range valleys {
		if v.death >= 0 && len(list) < 24 {
			list = append(list, v.death-v.born, v.death-v.born+1)
		}
	}
	slices.Sort(list)
	return slices.Compact(list)
}

func checkFilled(t *testing.T, g impl.Grey) {
	t.Helper()
	valleys, mergers := valleysAsDefined(g), mergersAsDefined(g)
	for _, depth := range usefulDepths(valleys) {
		got, ok := impl.FillValleys(g, depth)
		want := filledAsDefined(g, valleys, depth)
		if !ok || !same(got, want) || !same(filledByMerging(g, mergers, depth), want) {
			t.Fatalf("FillValleys %s %d: got %s, %v, want %s", textOf(g), depth, textOf(got), ok, textOf(want))
		}
		// The other valleys of g are then the valleys of the result.
		deep := slices.DeleteFunc(toldValleys(g, valleys), func(told []int64) bool { return told[2] >= 0 && told[2]-told[0] < depth })
		if told, ok := impl.ValleysOf(got); !ok || !same(told, deep) {
			t.Fatalf("ValleysOf %s, which is filled with the depth %d: got %v, %v, want %v", textOf(got), depth, told, ok, deep)
		}
		if again, ok := impl.FillValleys(got, depth); !ok || !same(again, got) {
			t.Fatalf("FillValleys %s %d again: got %s, %v", textOf(got), depth, textOf(again), ok)
		}
	}
}

func TestFillValleysAsDefined(t *testing.T) {
	for _, g := range append(smallGreys(), allValleyGreys()...) {
		checkFilled(t, g)
	}
	for _, g := range append(allGreys(5, 1, 3), allGreys(1, 6, 2)...) {
		checkFilled(t, g)
	}
}

func TestAllValleysButOneAreFilled(t *testing.T) {
	for _, g := range fewValleyGreys() {
		pixels := pixelsOfGrey(g)
		passes := passesFrom(g, firstOf(g, lowPart(g, pixels[0], impl.MaxGrey)))
		want := eachNumber(g, func(at impl.Spot) int64 { return passes[at] })
		expect(t, "FillValleys 100 "+textOf(g), results(impl.FillValleys(g, 100)), want, true)
		expect(t, "FillValleys 0 "+textOf(g), results(impl.FillValleys(g, 0)), g, true)
		// No valley that is told dies with the number with which it was born.
		expect(t, "FillValleys 1 "+textOf(g), results(impl.FillValleys(g, 1)), g, true)
	}
}

func TestSpillByHand(t *testing.T) {
	tests := []struct {
		text       string
		x, y, want int64
	}{
		{"0", 0, 0, 0}, {"99", 0, 0, 99}, {"1,9,3", 1, 0, 9}, {"1,9,3", 0, 0, 1}, {"1/9/3", 0, 2, 3}, {"1,2/3,4", 1, 1, 4},
		{"5,5,5/5,1,5/5,4,5", 1, 1, 4}, {"5,5,5/5,1,5/5,4,5", 0, 0, 5}, {"5,5,5/5,1,5/5,4,5", 1, 2, 4}, {"5,5,5/5,1,5/5,4,5", 2, 1, 5},
		{"5,4,5/5,1,5/5,5,5", 1, 1, 4}, {"5,5,5/4,1,5/5,5,5", 1, 1, 4}, {"5,5,5/5,1,4/5,5,5", 1, 1, 4},
		// Water does not run over corners.
		{"0,5,0/5,1,5/0,5,0", 1, 1, 5}, {"0,9,0/9,1,8/0,9,0", 1, 1, 8},
		// A height is its own spill.
		{"1,1,1/1,9,1/1,1,1", 1, 1, 9}, {"1,1,1/1,1,1/1,1,1", 1, 1, 1}, {"0,0,0/0,99,0/0,0,0", 1, 1, 99}, {"99,99,99/99,0,99/99,99,99", 1, 1, 99},
		// One lake runs into another one, over a pass that is lower or higher than the rim.
		{"9,9,9,9,9/9,1,5,2,9/9,9,9,7,9", 1, 1, 7}, {"9,9,9,9,9/9,1,5,2,9/9,9,9,7,9", 3, 1, 7}, {"9,9,9,9,9/9,1,5,2,9/9,9,9,4,9", 1, 1, 5}, {"9,9,9,9,9/9,1,5,2,9/9,9,9,4,9", 3, 1, 4},
		{"9,9,9,9,9/9,1,5,2,9/9,9,9,4,9", 2, 1, 5}, {"9,9,9,9,9/9,1,5,2,9/9,6,9,4,9", 1, 1, 5}, {"9,9,9,9,9/9,1,8,2,9/9,6,9,4,9", 1, 1, 6},
	}
	for _, test := range tests {
		at := impl.Spot{X: test.x, Y: test.y}
		expect(t, fmt.Sprint("SpillAt ", test.text, at), results(impl.SpillAt(grey(test.text), at)), test.want, true)
	}
}

func TestWaterByHand(t *testing.T) {
	tests := []struct {
		text, levels string
		water        int64
	}{
		{"0", "0", 0}, {"99", "99", 0}, {"1,9,3", "1,9,3", 0}, {"9/0/9", "9/0/9", 0}, {"9,9/0,9", "9,9/0,9", 0},
		{"7,7,7/7,7,7/7,7,7", "7,7,7/7,7,7/7,7,7", 0},
		{"5,5,5/5,1,5/5,4,5", "5,5,5/5,4,5/5,4,5", 3}, {"5,5,5/5,1,5/5,5,5", "5,5,5/5,5,5/5,5,5", 4}, {"99,99,99/99,0,99/99,99,99", "99,99,99/99,99,99/99,99,99", 99},
		{"0,5,0/5,1,5/0,5,0", "0,5,0/5,5,5/0,5,0", 4}, {"1,1,1/1,9,1/1,1,1", "1,1,1/1,9,1/1,1,1", 0},
		{"9,9,9,9,9/9,1,5,2,9/9,9,9,7,9", "9,9,9,9,9/9,7,7,7,9/9,9,9,7,9", 13}, {"9,9,9,9,9/9,1,5,2,9/9,9,9,4,9", "9,9,9,9,9/9,5,5,4,9/9,9,9,4,9", 6},
		// A lake on an island in a lake.
		{"9,9,9,9,9,9,9/9,1,1,1,1,1,9/9,1,6,6,6,1,9/9,1,6,2,6,1,9/9,1,6,6,6,1,9/9,1,1,1,1,1,9/9,9,9,4,9,9,9",
			"9,9,9,9,9,9,9/9,4,4,4,4,4,9/9,4,6,6,6,4,9/9,4,6,6,6,4,9/9,4,6,6,6,4,9/9,4,4,4,4,4,9/9,9,9,4,9,9,9", 52},
	}
	for _, test := range tests {
		expect(t, "WaterLevels "+test.text, results(impl.WaterLevels(grey(test.text))), grey(test.levels), true)
		expect(t, "WaterOf "+test.text, results(impl.WaterOf(grey(test.text))), test.water, true)
	}
}

func isOnEdge(g impl.Grey, at impl.Spot) bool { return len(joinedTo(g, at)) < 4 }

func checkWater(t *testing.T, g impl.Grey) {
	t.Helper()
	edge := slices.DeleteFunc(pixelsOfGrey(g), func(at impl.Spot) bool { return !isOnEdge(g, at) })
	passes := lowestFrom(g, edge)
	want, water := eachNumber(g, func(at impl.Spot) int64 { return passes[at] }), int64(0)
	for _, at := range pixelsOfGrey(g) {
		water += passes[at] - numberAt(g, at)
		if got, ok := impl.SpillAt(g, at); !ok || got != passes[at] {
			t.Fatalf("SpillAt %s %v: got %d, %v, want %d", textOf(g), at, got, ok, passes[at])
		}
	}
	if got, ok := impl.WaterLevels(g); !ok || !same(got, want) {
		t.Fatalf("WaterLevels %s: got %s, %v, want %s", textOf(g), textOf(got), ok, textOf(want))
	}
	if got, ok := impl.WaterOf(g); !ok || got != water {
		t.Fatalf("WaterOf %s: got %d, %v, want %d", textOf(g), got, ok, water)
	}
}

func TestWaterAsDefined(t *testing.T) {
	for _, g := range append(smallGreys(), allValleyGreys()...) {
		checkWater(t, g)
	}
	// All pictures with two inner pixels that can hold water.
	for _, inner := range allGreys(2, 1, 3) {
		for _, rim := range allGreys(6, 1, 2) {
			rows := [][]int64{{9, rim.Rows[0][0], rim.Rows[0][1], 9}, {rim.Rows[0][2], inner.Rows[0][0], inner.Rows[0][1], rim.Rows[0][3]}, {9, rim.Rows[0][4], rim.Rows[0][5], 9}}
			checkWater(t, impl.Grey{Rows: rows})
		}
	}
}

func TestWaterIsAReconstruction(t *testing.T) {
	for _, g := range allValleyGreys() {
		upsideDown, _ := impl.InvertGrey(g)
		edge := eachNumber(g, func(at impl.Spot) int64 {
			if isOnEdge(g, at) {
				return numberAt(upsideDown, at)
			}
			return 0
		})
		grown, _ := impl.ReconstructGrey(edge, upsideDown)
		want, _ := impl.InvertGrey(grown)
		levels, _ := impl.WaterLevels(g)
		expect(t, "WaterLevels "+textOf(g), results(levels), want)
		// Behind it, no water is held any more.
		expect(t, "WaterLevels again "+textOf(g), results(impl.WaterLevels(levels)), levels, true)
		expect(t, "WaterOf again "+textOf(g), results(impl.WaterOf(levels)), 0, true)
	}
}

func TestWaterLeavesOverTheLowestPass(t *testing.T) {
	source := noise(107)
	for _, g := range fewValleyGreys() {
		for _, at := range source.someSpots(g, 3) {
			least := int64(impl.MaxGrey + 1)
			for _, to := range pixelsOfGrey(g) {
				if isOnEdge(g, to) {
					pass, _ := impl.PassBetween(g, at, to)
					least = min(least, pass)
				}
			}
			expect(t, fmt.Sprint("SpillAt ", textOf(g), at), results(impl.SpillAt(g, at)), least, true)
		}
	}
}

func TestSameValleysByHand(t *testing.T) {
	tests := []struct {
		first, second string
		want          bool
	}{
		{"0", "0", true}, {"0", "1", false}, {"99", "98", false}, {"7,7/7,7", "7", true}, {"5,5,5", "5/5", true},
		{"2,0,3,1,4", "2,0,3,1,4", true}, {"2,0,3,1,4", "2,0,3,3,4", false}, {"2,0,3,1,4", "9,0,3,1,3", true}, {"2,0,3,1,4", "2/0/3/1/4", true},
		// The place, the number at birth, or that at death differs.
		{"0,5,0", "0,5,1", false}, {"0,5,0", "0,4,0", false}, {"0,5,0", "0,5,5,0", false}, {"0,5,0", "0,5,0,0", true}, {"0,5,0", "1,5,1", false}, {"0,5,0", "0,5,0,5,0", false}, {"0,5,0", "5,0,5,0", false},
		{"1,5,0", "0,5,1", false}, {"0,5,0", "0,5,5", false}, {"0,1", "1,0", false}, {"0,1", "0,99", true},
		// The same valleys in pictures of other sizes.
		{"0,5/5,0", "0,5,5,0", true}, {"0,5/5,0", "0,9,5,0", false}, {"0,5/5,0", "0/5/5/0", true}, {"0,5/5,0", "0,5,9/0,9,9", false}, {"0,5,9/9,9,9", "0", true},
		// Valleys that die with the number with which they were born do not count.
		{"5,9,5/5,5,5", "5,9,9", true}, {"5,5,0", "5,6,0", false}, {"5,5,0", "7,5,0", true},
		{"0,5,0,3,0", "0,5,0,3,0", true}, {"0,5,0,3,0", "0,3,0,5,0", false}, {"0,5,0,3,0", "0,5,0,5,0", false},
	}
	for _, test := range tests {
		what := "SameValleys " + test.first + " " + test.second
		expect(t, what, results(impl.SameValleys(grey(test.first), grey(test.second))), test.want)
		expect(t, what+" exchanged", results(impl.SameValleys(grey(test.second), grey(test.first))), test.want)
	}
}

func TestSameValleysAsDefined(t *testing.T) {
	list := append(allGreys(4, 1, 2), allGreys(2, 2, 1)...)
	list = append(append(list, allGreys(3, 2, 1)...), fewValleyGreys()...)
	for _, g := range fewValleyGreys() {
		filled, _ := impl.FillValleys(g, 3)
		list = append(list, filled)
	}
	var told []string
	for _, g := range list {
		told = append(told, fmt.Sprint(toldValleys(g, valleysAsDefined(g))))
	}
	equal := 0
	for i, g := range list {
		for j, h := range list {
			want := told[i] == told[j]
			if impl.SameValleys(g, h) != want {
				t.Fatalf("SameValleys %s %s: the valleys are %s and %s", textOf(g), textOf(h), told[i], told[j])
			}
			if want && i != j {
				equal++
			}
		}
	}
	if equal < 100 || equal > len(list)*len(list)/2 {
		t.Errorf("of %d pairs, %d have the same valleys", len(list)*len(list), equal)
	}
}
