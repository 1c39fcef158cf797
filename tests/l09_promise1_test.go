package tests

import (
	"fmt"
	"reflect"
	"slices"
	"strings"
	"testing"

	"loop.example/g01165/impl"
)

// The tests in this file are those of promise 1 for chapter 9: every function returns for all
// arguments, modifies none of them, and returns equal results, in new memory, for equal arguments.

// valleyCalls returns calls whose other arguments are valid for all grey pictures.
func valleyCalls() []greyCall {
	calls := []greyCall{
		{"ValleysOf", func(g impl.Grey) []any { return results(impl.ValleysOf(g)) }},
		{"LevelCounts", func(g impl.Grey) []any { return results(impl.LevelCounts(g)) }},
		{"PassBetween", func(g impl.Grey) []any { return results(impl.PassBetween(g, impl.Spot{}, impl.Spot{})) }},
		{"WayBetween", func(g impl.Grey) []any { return results(impl.WayBetween(g, impl.Spot{}, impl.Spot{})) }},
		{"EndOfWay", func(g impl.Grey) []any { return endOfWay(g, impl.Spot{}, "") }},
		{"SpillAt", func(g impl.Grey) []any { return results(impl.SpillAt(g, impl.Spot{})) }},
		{"WaterLevels", func(g impl.Grey) []any { return results(impl.WaterLevels(g)) }},
		{"WaterOf", func(g impl.Grey) []any { return results(impl.WaterOf(g)) }},
		{"SameValleys", func(g impl.Grey) []any { return results(impl.SameValleys(g, g)) }},
	}
	for _, n := range []int64{0, 1, 50, 99} {
		calls = append(calls, greyCall{fmt.Sprint("CountBelow ", n), func(g impl.Grey) []any { return results(impl.CountBelow(g, n)) }})
	}
	for _, n := range []int64{0, 1, 50, 99, 100} {
		calls = append(calls, greyCall{fmt.Sprint("FillValleys ", n), func(g impl.Grey) []any { return results(impl.FillValleys(g, n)) }})
	}
	return calls
}

// wayCalls returns calls with spots in all grey pictures that have them, which can fail.
func wayCalls(a, b impl.Spot) []greyCall {
	return []greyCall{
		{"PassBetween", func(g impl.Grey) []any { return results(impl.PassBetween(g, a, b)) }},
		{"WayBetween", func(g impl.Grey) []any { return results(impl.WayBetween(g, a, b)) }},
		{"EndOfWay r", func(g impl.Grey) []any { return endOfWay(g, a, "r") }},
		{"EndOfWay du", func(g impl.Grey) []any { return endOfWay(g, b, "du") }},
		{"DepthAt", func(g impl.Grey) []any { return results(impl.DepthAt(g, a)) }},
		{"DepthAt the other one", func(g impl.Grey) []any { return results(impl.DepthAt(g, b)) }},
		{"SpillAt", func(g impl.Grey) []any { return results(impl.SpillAt(g, b)) }},
	}
}

func TestNoGreyPictureFailsInChapter9(t *testing.T) {
	pairs := [][2]impl.Spot{{{}, {}}, {{}, {X: 1}}, {{X: 1, Y: 1}, {}}, {{X: 15, Y: 15}, {X: 2, Y: 2}}, {{Y: 1}, {X: 1}}}
	for _, bad := range badGreys() {
		what := fmt.Sprint(" ", bad.Rows)
		for _, call := range valleyCalls() {
			expectFailure(t, call.name+what, call.of(bad))
		}
		for _, pair := range pairs {
			for _, call := range wayCalls(pair[0], pair[1]) {
				expectFailure(t, call.name+what, call.of(bad))
			}
		}
		for _, good := range []impl.Grey{digits("0"), digits("7"), digits("00"), digits("120/021/212"), flat(16, 16, 3)} {
			expect(t, "SameValleys"+what, results(impl.SameValleys(bad, good)), false)
			expect(t, "SameValleys exchanged"+what, results(impl.SameValleys(good, bad)), false)
		}
		for _, other := range []impl.Grey{{}, {Rows: [][]int64{{100}}}, {Rows: [][]int64{{-1}}}} {
			expect(t, "SameValleys of none"+what, results(impl.SameValleys(bad, other)), false)
		}
	}
}

// spotsOutside are spots that a grey picture does not have.
func spotsOutside(g impl.Grey) []impl.Spot {
	var list []impl.Spot
	width, height := greyWidth(g), greyHeight(g)
	for _, n := range append([]int64{-1, -2, -16, 16, 17, 255, 256, 1 << 16, 1 << 62}, farNumbers...) {
		list = append(list, spots(n, 0, 0, n, n, n, n, height-1, width-1, n, n, -1, -1, n)...)
	}
	list = append(list, spots(width, 0, 0, height, width, height, width, height-1, width-1, height, -1, 0, 0, -1, -1, height-1, width-1, -1, -width, 0, 0, -height)...)
	return append(list, spots(width+1, 0, 0, height+1, width, -1, -1, height, width*height, 0, 0, width*height)...)
}

func TestSpotsOutsideFailInChapter9(t *testing.T) {
	for _, g := range append(fewGreys(), digits("31/42/65"), digits("314/265"), flat(16, 2, 5), flat(2, 16, 5)) {
		for _, bad := range spotsOutside(g) {
			if bad.X >= 0 && bad.Y >= 0 && bad.X < greyWidth(g) && bad.Y < greyHeight(g) {
				continue
			}
			what := fmt.Sprint(" ", textOf(g), bad)
			for _, good := range []impl.Spot{{}, {X: greyWidth(g) - 1, Y: greyHeight(g) - 1}} {
				expectFailure(t, "PassBetween to"+what, results(impl.PassBetween(g, good, bad)))
				expectFailure(t, "PassBetween from"+what, results(impl.PassBetween(g, bad, good)))
				expectFailure(t, "WayBetween to"+what, results(impl.WayBetween(g, good, bad)))
				expectFailure(t, "WayBetween from"+what, results(impl.WayBetween(g, bad, good)))
			}
			expectFailure(t, "PassBetween"+what, results(impl.PassBetween(g, bad, bad)))
			expectFailure(t, "WayBetween"+what, results(impl.WayBetween(g, bad, bad)))
			for _, steps := range []string{"", "d", "l", "r", "u", "dd", "ll", "rr", "uu", "rdlu"} {
				expectFailure(t, "EndOfWay "+steps+what, endOfWay(g, bad, steps))
			}
			expectFailure(t, "DepthAt"+what, results(impl.DepthAt(g, bad)))
			expectFailure(t, "SpillAt"+what, results(impl.SpillAt(g, bad)))
		}
	}
}

func TestLevelsOutsideFailInChapter9(t *testing.T) {
	for _, g := range fewValleyGreys() {
		for _, n := range append([]int64{impl.MaxGrey + 2, 102, 128, 255, 256}, farNumbersOfGreys...) {
			expectFailure(t, fmt.Sprint("CountBelow ", textOf(g), n), results(impl.CountBelow(g, n)))
			expectFailure(t, fmt.Sprint("FillValleys ", textOf(g), n), results(impl.FillValleys(g, n)))
		}
		expectFailure(t, "CountBelow 100 "+textOf(g), results(impl.CountBelow(g, impl.MaxGrey+1)))
	}
}

func TestLimitsOfChapter9CanBeReached(t *testing.T) {
	for width := int64(1); width <= impl.MaxSide; width++ {
		for height := int64(1); height <= impl.MaxSide; height++ {
			what := fmt.Sprint(" ", width, " ", height)
			last := impl.Spot{X: width - 1, Y: height - 1}
			for _, n := range []int64{0, impl.MaxGrey} {
				g := flat(width, height, n)
				counts := append(make([]int64, n), slices.Repeat([]int64{1}, int(impl.MaxGrey+1-n))...)
				expect(t, "ValleysOf"+what, results(impl.ValleysOf(g)), [][]int64{{n, 0, -1}}, true)
				expect(t, "CountBelow 0"+what, results(impl.CountBelow(g, 0)), counts[0], true)
				expect(t, "CountBelow 98"+what, results(impl.CountBelow(g, 98)), counts[98], true)
				expect(t, "CountBelow 99"+what, results(impl.CountBelow(g, 99)), 1, true)
				expect(t, "LevelCounts"+what, results(impl.LevelCounts(g)), counts, true)
				expect(t, "PassBetween"+what, results(impl.PassBetween(g, impl.Spot{}, last)), n, true)
				way := strings.Repeat("d", int(height-1)) + strings.Repeat("r", int(width-1))
				expect(t, "WayBetween"+what, results(impl.WayBetween(g, impl.Spot{}, last)), way, true)
				expect(t, "EndOfWay"+what, endOfWay(g, impl.Spot{}, way), last, n, true)
				expect(t, "EndOfWay without steps"+what, endOfWay(g, last, ""), last, n, true)
				expectFailure(t, "DepthAt"+what, results(impl.DepthAt(g, last)))
				expect(t, "FillValleys 0"+what, results(impl.FillValleys(g, 0)), g, true)
				expect(t, "FillValleys 100"+what, results(impl.FillValleys(g, 100)), g, true)
				expect(t, "SpillAt"+what, results(impl.SpillAt(g, last)), n, true)
				expect(t, "WaterLevels"+what, results(impl.WaterLevels(g)), g, true)
				expect(t, "WaterOf"+what, results(impl.WaterOf(g)), 0, true)
				expect(t, "SameValleys"+what, results(impl.SameValleys(g, flat(1, 1, n))), true)
				expect(t, "SameValleys of others"+what, results(impl.SameValleys(g, flat(width, height, 99-n))), false)
			}
		}
	}
}

func TestExtremesOfLargePictures(t *testing.T) {
	// The most valleys, each of one pixel, and the most water.
	board := greyFrom(16, 16, func(at impl.Spot) int64 { return impl.MaxGrey * ((at.X + at.Y) % 2) })
	list, _ := impl.ValleysOf(board)
	expect(t, "the number of valleys", results(int64(len(list))), 128)
	expect(t, "CountBelow", results(impl.CountBelow(board, 98)), 128, true)
	expect(t, "DepthAt", results(impl.DepthAt(board, impl.Spot{X: 15, Y: 14})), 0, true)
	filled, _ := impl.FillValleys(board, 100)
	expect(t, "FillValleys", results(impl.ValleysOf(filled)), [][]int64{{0, 0, -1}}, true)
	bowl := hill(16, 16, func(ring int64) int64 { return impl.MaxGrey * (1 - min(ring, 1)) })
	expect(t, "WaterOf", results(impl.WaterOf(bowl)), 14*14*99, true)
	expect(t, "WaterLevels", results(impl.WaterLevels(bowl)), flat(16, 16, 99), true)
	deep := impl.Grey{Rows: withNumber(bowl.Rows, impl.Spot{}, 0)}
	expect(t, "PassBetween", results(impl.PassBetween(deep, impl.Spot{}, impl.Spot{X: 14, Y: 14})), 99, true)
	expect(t, "ValleysOf", results(impl.ValleysOf(deep)), [][]int64{{0, 0, -1}, {0, 17, 99}}, true)
}

func TestStepsThatAreNotValidFail(t *testing.T) {
	for _, g := range []impl.Grey{flat(16, 16, 5), digits("314/265/358"), digits("99/99/99")} {
		middle := impl.Spot{X: 1, Y: 1}
		for _, steps := range []string{"", "d", "l", "u", "ul", "lur", "udud"} {
			checkEndOfWay(t, g, middle, steps)
			for n := range 256 {
				letter := string([]byte{byte(n)})
				if strings.Contains("dlru", letter) {
					continue
				}
				expectFailure(t, fmt.Sprintf("EndOfWay %q", steps+letter), endOfWay(g, middle, steps+letter))
				expectFailure(t, fmt.Sprintf("EndOfWay %q", letter+steps), endOfWay(g, middle, letter+steps))
			}
			for _, text := range []string{"ő", "ｄ", "down", "d,u", "d u", "du\n", "D", "U", "LR", "RDLU", "\x00", "\xff\xfe", "n", "e", "s", "w", "#", "."} {
				expectFailure(t, fmt.Sprintf("EndOfWay %q", steps+text), endOfWay(g, middle, steps+text))
			}
		}
	}
}

func TestWaysThatLeaveThePictureFail(t *testing.T) {
	one := digits("7")
	for _, way := range allWays(3)[1:] {
		expectFailure(t, "EndOfWay in one pixel "+way, endOfWay(one, impl.Spot{}, way))
	}
	for _, g := range []impl.Grey{flat(16, 16, 5), flat(16, 1, 5), flat(1, 16, 5), digits("314/265"), digits("12")} {
		width, height := greyWidth(g), greyHeight(g)
		for _, at := range pixelsOfGrey(g) {
			tests := []struct {
				step, back string
				most       int64
			}{{"d", "u", height - 1 - at.Y}, {"l", "r", at.X}, {"r", "l", width - 1 - at.X}, {"u", "d", at.Y}}
			for _, test := range tests {
				way := strings.Repeat(test.step, int(test.most))
				if !checkEndOfWay(t, g, at, way) {
					t.Errorf("%q from %v must stay in %s", way, at, textOf(g))
				}
				expectFailure(t, "EndOfWay "+way+test.step, endOfWay(g, at, way+test.step))
				// A way that comes back has left all the same.
				expectFailure(t, "EndOfWay out and back", endOfWay(g, at, way+test.step+test.back))
				expectFailure(t, "EndOfWay around", endOfWay(g, at, way+test.step+"udlr"+test.back))
				expectFailure(t, "EndOfWay far", endOfWay(g, at, strings.Repeat(test.step, 500)+strings.Repeat(test.back, 500)))
			}
		}
	}
}

func TestTheMostSteps(t *testing.T) {
	for _, g := range []impl.Grey{digits("12"), digits("99/99"), flat(16, 16, 5), flat(16, 1, 99), digits("314/265")} {
		for _, pair := range []string{"rl", "lr"} {
			from := impl.Spot{X: int64(strings.Index(pair, "l"))}
			from.X = 1 - from.X
			even, odd := impl.Spot{X: from.X}, impl.Spot{X: 1 - from.X}
			height := max(numberAt(g, even), numberAt(g, odd))
			for _, steps := range []int{2, 600, 602, 998, 1000} {
				expect(t, fmt.Sprint("EndOfWay with steps ", steps), endOfWay(g, from, strings.Repeat(pair, steps/2)), even, height, true)
				expect(t, fmt.Sprint("EndOfWay with one less ", steps), endOfWay(g, from, strings.Repeat(pair, steps/2)[:steps-1]), odd, height, true)
			}
			for _, steps := range []int{1001, 1002, 1024, 2000, 1 << 16, 1<<16 + 2, 1000000} {
				expectFailure(t, fmt.Sprint("EndOfWay with steps ", steps), endOfWay(g, from, strings.Repeat(pair, steps)[:steps]))
			}
		}
	}
	column := digits("1/2")
	expect(t, "EndOfWay down and up", endOfWay(column, impl.Spot{}, strings.Repeat("du", 500)), impl.Spot{}, 2, true)
	expectFailure(t, "EndOfWay down and up and down", endOfWay(column, impl.Spot{}, strings.Repeat("du", 500)+"d"))
}

func TestHugeArgumentsFailInChapter9(t *testing.T) {
	// All rows are the same memory, so that only a copy of them would be huge.
	long := make([]int64, 1<<20)
	for _, rows := range [][][]int64{slices.Repeat([][]int64{long}, 1<<20), {long}, slices.Repeat([][]int64{{0}}, 1<<20)} {
		for _, call := range append(valleyCalls(), wayCalls(impl.Spot{}, impl.Spot{})...) {
			expectFailure(t, call.name+" huge", call.of(impl.Grey{Rows: rows}))
		}
	}
	for _, letter := range []string{"d", "l", "r", "u", "x"} {
		expectFailure(t, "EndOfWay huge", endOfWay(digits("12/34"), impl.Spot{}, strings.Repeat(letter, 1<<24)))
	}
}

func TestChapter9ModifiesNoArgument(t *testing.T) {
	for _, g := range append(fewValleyGreys(), badGreys()...) {
		calls := append(valleyCalls(), wayCalls(impl.Spot{X: 1}, impl.Spot{Y: 1})...)
		if impl.ValidGrey(g) {
			last := impl.Spot{X: greyWidth(g) - 1, Y: greyHeight(g) - 1}
			calls = append(calls, wayCalls(impl.Spot{}, last)...)
			calls = append(calls, wayCalls(last, impl.Spot{X: last.X / 2, Y: last.Y / 2})...)
		}
		for _, call := range calls {
			checkRowsUnmodified(t, call.name, g.Rows, func(rows [][]int64) { call.of(impl.Grey{Rows: rows}) })
		}
		for _, other := range []impl.Grey{digits("0"), grey("2,0,3,1,4")} {
			checkRowsUnmodified(t, "SameValleys", g.Rows, func(rows [][]int64) { impl.SameValleys(impl.Grey{Rows: rows}, other) })
			checkRowsUnmodified(t, "SameValleys exchanged", g.Rows, func(rows [][]int64) { impl.SameValleys(other, impl.Grey{Rows: rows}) })
		}
	}
}

func TestChapter9ReturnsNewMemory(t *testing.T) {
	for _, g := range append(fewValleyGreys(), largeGreys()...) {
		before := fmt.Sprint(g)
		last := impl.Spot{X: greyWidth(g) - 1, Y: greyHeight(g) - 1}
		for _, call := range append(valleyCalls(), wayCalls(impl.Spot{}, last)...) {
			checkNewMemory(t, call.name+" "+textOf(g), func() []any { return call.of(g) })
		}
		if fmt.Sprint(g) != before {
			t.Fatalf("a result of chapter 9 shares memory with the argument %s", before)
		}
		list, _ := impl.ValleysOf(g)
		checkRowsShareNothing(t, "ValleysOf "+textOf(g), list)
		for _, depth := range []int64{0, 1, 5, 100} {
			filled, _ := impl.FillValleys(g, depth)
			checkRowsShareNothing(t, "FillValleys "+textOf(g), filled.Rows)
		}
		levels, _ := impl.WaterLevels(g)
		checkRowsShareNothing(t, "WaterLevels "+textOf(g), levels.Rows)
		if fmt.Sprint(g) != before {
			t.Fatalf("a row of a result of chapter 9 shares memory with the argument %s", before)
		}
	}
}

func TestAnyGreyIsUsedTheSameWayTwiceInChapter9(t *testing.T) {
	source := noise(108)
	greys := append(fewGreys(), flat(3, 3, 5), flat(2, 1, 99))
	valids := 0
	for range 1000 {
		g := impl.Grey{Rows: source.damagedRows(greys[source.below(int64(len(greys)))].Rows)}
		valid := isGreyAsDefined(g)
		if valid {
			valids++
		}
		for _, call := range valleyCalls() {
			first, second := call.of(g), call.of(g)
			if !reflect.DeepEqual(first, second) {
				t.Fatalf("%s %v: got %v and %v", call.name, g, first, second)
			}
			if ok := first[len(first)-1].(bool); ok != valid {
				t.Fatalf("%s %v: got %v", call.name, g, first)
			}
			if !valid {
				expectFailure(t, fmt.Sprint(call.name, g), first)
			}
		}
	}
	if valids < 200 || valids > 800 {
		t.Errorf("%d of 1000 are valid", valids)
	}
}

func TestAnyArgumentsAreUsedTheSameWayTwiceInChapter9(t *testing.T) {
	source := noise(109)
	greys := fewValleyGreys()
	succeeded, failed := 0, 0
	for range 2000 {
		g, a, b, n := greys[source.below(int64(len(greys)))], source.spot(), source.spot(), source.number()
		h := greys[source.below(int64(len(greys)))]
		steps := []byte("rdlurdlu")[:source.below(9)]
		for i := range steps {
			steps[i] = "dlrudlrudlrux"[source.below(13)]
		}
		calls := []func() []any{
			func() []any { return results(impl.CountBelow(g, n)) },
			func() []any { return results(impl.PassBetween(g, a, b)) },
			func() []any { return results(impl.WayBetween(g, a, b)) },
			func() []any { return endOfWay(g, a, string(steps)) },
			func() []any { return results(impl.DepthAt(g, a)) },
			func() []any { return results(impl.FillValleys(g, n)) },
			func() []any { return results(impl.SpillAt(g, a)) },
			func() []any { return results(impl.SameValleys(g, h)) },
		}
		for i, call := range calls {
			what := fmt.Sprint("the call ", i, " with ", textOf(g), a, b, n, string(steps))
			first, second := call(), call()
			if !reflect.DeepEqual(first, second) {
				t.Fatalf("%s: got %v and %v", what, first, second)
			}
			if first[len(first)-1].(bool) {
				succeeded++
				continue
			}
			failed++
			expectFailure(t, what, first)
		}
	}
	if succeeded < 2000 || failed < 2000 {
		t.Errorf("%d calls succeeded, %d failed", succeeded, failed)
	}
}
