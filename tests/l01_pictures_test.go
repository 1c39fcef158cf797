package tests

import (
	"fmt"
	"slices"
	"strings"
	"testing"

	"loop.example/g01165/impl"
)

// The tests in this file are those of promise 2: what the functions of chapter 1 return for pictures.

func widthOf(p impl.Picture) int64 { return int64(len(p.Rows[0])) }

func heightOf(p impl.Picture) int64 { return int64(len(p.Rows)) }

// isBlack reports whether there is a pixel at x and y that is black.
func isBlack(p impl.Picture, x, y int64) bool {
	return x >= 0 && x < widthOf(p) && y >= 0 && y < heightOf(p) && p.Rows[y][x] == '#'
}

// painted returns the picture that is black where a rule says so.
func painted(width, height int64, black func(x, y int64) bool) impl.Picture {
	rows := make([]string, height)
	for y := range height {
		row := make([]byte, width)
		for x := range width {
			row[x] = '.'
			if black(x, y) {
				row[x] = '#'
			}
		}
		rows[y] = string(row)
	}
	return impl.Picture{Rows: rows}
}

func TestChapter1Examples(t *testing.T) {
	p, ok := impl.ReadPicture("#../##.")
	expect(t, "ReadPicture", results(p, ok), drawn("#../##."), true)
	expect(t, "SpotsOf", results(impl.SpotsOf(p)), []impl.Spot{{X: 0, Y: 0}, {X: 0, Y: 1}, {X: 1, Y: 1}}, true)
	expect(t, "turned by a quarter", results(impl.TurnPicture(p, 3)), drawn("##/#./.."), true)
	expect(t, "mirrored", results(impl.TurnPicture(p, 0)), drawn("..#/.##"), true)
}

func TestLimitsOfChapter1(t *testing.T) {
	expect(t, "limits", results(int64(impl.MaxSide), int64(impl.MaxValue), int64(impl.MaxItems), int64(impl.CheckSize)), 16, 1000000000, 300, 65129)
}

func TestValidPicture(t *testing.T) {
	for _, p := range samplePictures() {
		if !impl.ValidPicture(p) {
			t.Errorf("%q must be valid", p.Rows)
		}
	}
	for _, p := range badPictures() {
		if impl.ValidPicture(p) {
			t.Errorf("%q must not be valid", p.Rows)
		}
	}
}

func TestBlankPictureOfEachSize(t *testing.T) {
	for width := int64(-1); width <= impl.MaxSide+2; width++ {
		for height := int64(-1); height <= impl.MaxSide+2; height++ {
			what := fmt.Sprint("BlankPicture ", width, " ", height)
			got := results(impl.BlankPicture(width, height))
			if width < 1 || width > impl.MaxSide || height < 1 || height > impl.MaxSide {
				expectFailure(t, what, got)
				continue
			}
			expect(t, what, got, painted(width, height, func(x, y int64) bool { return false }), true)
		}
	}
}

func TestPixelsOfPictures(t *testing.T) {
	for _, p := range samplePictures() {
		for y := int64(-1); y <= heightOf(p); y++ {
			for x := int64(-1); x <= widthOf(p); x++ {
				what := fmt.Sprintf("PixelAt %q %d %d", p.Rows, x, y)
				got := results(impl.PixelAt(p, x, y))
				if x < 0 || x == widthOf(p) || y < 0 || y == heightOf(p) {
					expectFailure(t, what, got)
				} else {
					expect(t, what, got, isBlack(p, x, y), true)
				}
			}
		}
	}
}

func TestSetPixelChangesOnePixel(t *testing.T) {
	for _, p := range fewPictures() {
		for y := range heightOf(p) {
			for x := range widthOf(p) {
				for _, black := range []bool{false, true} {
					want := painted(widthOf(p), heightOf(p), func(atX, atY int64) bool {
						if atX == x && atY == y {
							return black
						}
						return isBlack(p, atX, atY)
					})
					expect(t, fmt.Sprintf("SetPixel %q %d %d %v", p.Rows, x, y, black), results(impl.SetPixel(p, x, y, black)), want, true)
				}
			}
		}
	}
}

func TestBlackPixelsInReadingOrder(t *testing.T) {
	for _, p := range samplePictures() {
		var want []impl.Spot
		for y := range heightOf(p) {
			for x := range widthOf(p) {
				if isBlack(p, x, y) {
					want = append(want, impl.Spot{X: x, Y: y})
				}
			}
		}
		expect(t, fmt.Sprintf("SpotsOf %q", p.Rows), results(impl.SpotsOf(p)), want, true)
		expect(t, fmt.Sprintf("CountBlack %q", p.Rows), results(impl.CountBlack(p)), len(want), true)
	}
}

func TestPictureFromSpots(t *testing.T) {
	for _, p := range samplePictures() {
		spots, _ := impl.SpotsOf(p)
		expect(t, fmt.Sprintf("PictureFrom %q", p.Rows), results(impl.PictureFrom(widthOf(p), heightOf(p), spots)), p, true)
		slices.Reverse(spots)
		many := append(slices.Clone(spots), spots...)
		expect(t, fmt.Sprintf("PictureFrom %q, twice", p.Rows), results(impl.PictureFrom(widthOf(p), heightOf(p), many)), p, true)
	}
	many := slices.Repeat([]impl.Spot{{X: 15, Y: 0}}, 5000)
	expect(t, "5000 times the same spot", results(impl.PictureFrom(16, 1, many)), drawn("...............#"), true)
	expect(t, "no spots", results(impl.PictureFrom(2, 1, nil)), drawn(".."), true)
}

func TestInvertPicture(t *testing.T) {
	for _, p := range samplePictures() {
		want := painted(widthOf(p), heightOf(p), func(x, y int64) bool { return !isBlack(p, x, y) })
		expect(t, fmt.Sprintf("InvertPicture %q", p.Rows), results(impl.InvertPicture(p)), want, true)
	}
}

// joined is what the document says of two pixels, op by op.
func joined(op int64, inP, inQ bool) bool {
	return []bool{inP && inQ, inP || inQ, inP != inQ, inP && !inQ}[op]
}

func TestJoinPictures(t *testing.T) {
	source := noise(3)
	for _, p := range samplePictures() {
		width, height := widthOf(p), heightOf(p)
		blank := painted(width, height, func(x, y int64) bool { return false })
		for _, q := range []impl.Picture{source.picture(width, height), blank, p} {
			for op := range int64(4) {
				want := painted(width, height, func(x, y int64) bool { return joined(op, isBlack(p, x, y), isBlack(q, x, y)) })
				expect(t, fmt.Sprintf("JoinPictures %d %q %q", op, p.Rows, q.Rows), results(impl.JoinPictures(op, p, q)), want, true)
			}
		}
	}
}

func TestIsInside(t *testing.T) {
	for _, p := range allPictures(2, 2) {
		for _, q := range allPictures(2, 2) {
			want := true
			for y := range int64(2) {
				for x := range int64(2) {
					want = want && (!isBlack(p, x, y) || isBlack(q, x, y))
				}
			}
			if impl.IsInside(p, q) != want {
				t.Errorf("IsInside %q %q: got %v", p.Rows, q.Rows, !want)
			}
		}
	}
	for _, p := range samplePictures() {
		full := painted(widthOf(p), heightOf(p), func(x, y int64) bool { return true })
		n, _ := impl.CountBlack(p)
		if !impl.IsInside(p, p) || !impl.IsInside(p, full) {
			t.Errorf("%q must be inside of itself and of all black", p.Rows)
		}
		if impl.IsInside(full, p) != (n == widthOf(p)*heightOf(p)) {
			t.Errorf("all black inside of %q is wrong", p.Rows)
		}
	}
}

func TestShiftPictureByEachStep(t *testing.T) {
	for _, p := range fewPictures() {
		for dy := int64(-impl.MaxSide); dy <= impl.MaxSide; dy++ {
			for dx := int64(-impl.MaxSide); dx <= impl.MaxSide; dx++ {
				want := painted(widthOf(p), heightOf(p), func(x, y int64) bool { return isBlack(p, x-dx, y-dy) })
				expect(t, fmt.Sprintf("ShiftPicture %q %d %d", p.Rows, dx, dy), results(impl.ShiftPicture(p, dx, dy)), want, true)
			}
		}
	}
}

func TestShiftsThatLeaveNothing(t *testing.T) {
	full := painted(impl.MaxSide, impl.MaxSide, func(x, y int64) bool { return true })
	blank := painted(impl.MaxSide, impl.MaxSide, func(x, y int64) bool { return false })
	for _, d := range [][2]int64{{16, 0}, {-16, 0}, {0, 16}, {0, -16}, {16, 16}, {-16, -16}, {16, -16}} {
		expect(t, fmt.Sprint("shift of all black by ", d), results(impl.ShiftPicture(full, d[0], d[1])), blank, true)
	}
	expect(t, "one row, right", results(impl.ShiftPicture(drawn("###"), 3, 0)), drawn("..."), true)
	expect(t, "one row, left", results(impl.ShiftPicture(drawn("###"), -2, 0)), drawn("#.."), true)
	expect(t, "one row, down", results(impl.ShiftPicture(drawn("###"), 0, 1)), drawn("..."), true)
	expect(t, "one column, up", results(impl.ShiftPicture(drawn("./#/#"), 0, -1)), drawn("#/#/."), true)
}

func TestTurnPicture(t *testing.T) {
	for _, p := range samplePictures() {
		width, height := widthOf(p), heightOf(p)
		wants := []impl.Picture{
			painted(width, height, func(x, y int64) bool { return isBlack(p, width-1-x, y) }),
			painted(width, height, func(x, y int64) bool { return isBlack(p, x, height-1-y) }),
			painted(height, width, func(x, y int64) bool { return isBlack(p, y, x) }),
			painted(height, width, func(x, y int64) bool { return isBlack(p, y, height-1-x) }),
		}
		for kind, want := range wants {
			expect(t, fmt.Sprintf("TurnPicture %q %d", p.Rows, kind), results(impl.TurnPicture(p, int64(kind))), want, true)
		}
	}
}

func TestBoxOf(t *testing.T) {
	for _, p := range samplePictures() {
		var xs, ys []int64
		spots, _ := impl.SpotsOf(p)
		for _, s := range spots {
			xs, ys = append(xs, s.X), append(ys, s.Y)
		}
		what := fmt.Sprintf("BoxOf %q", p.Rows)
		low, high, ok := impl.BoxOf(p)
		if len(spots) == 0 {
			expectFailure(t, what, results(low, high, ok))
			continue
		}
		expect(t, what, results(low, high, ok), impl.Spot{X: slices.Min(xs), Y: slices.Min(ys)}, impl.Spot{X: slices.Max(xs), Y: slices.Max(ys)}, true)
	}
	low, high, ok := impl.BoxOf(drawn("..../.#../..#./...."))
	expect(t, "a box inside", results(low, high, ok), impl.Spot{X: 1, Y: 1}, impl.Spot{X: 2, Y: 2}, true)
}

func TestCropPicture(t *testing.T) {
	source := noise(4)
	pictures := []impl.Picture{drawn("#"), drawn("#../##."), source.picture(5, 4), source.picture(16, 1), source.picture(1, 16)}
	for _, p := range pictures {
		for fromX := int64(-1); fromX <= widthOf(p); fromX++ {
			for fromY := int64(-1); fromY <= heightOf(p); fromY++ {
				for width := int64(-1); width <= widthOf(p)+1; width++ {
					for height := int64(-1); height <= heightOf(p)+1; height++ {
						checkCrop(t, p, impl.Spot{X: fromX, Y: fromY}, width, height)
					}
				}
			}
		}
	}
	whole := source.picture(impl.MaxSide, impl.MaxSide)
	checkCrop(t, whole, impl.Spot{}, impl.MaxSide, impl.MaxSide)
	checkCrop(t, whole, impl.Spot{X: 15, Y: 15}, 1, 1)
}

func checkCrop(t *testing.T, p impl.Picture, from impl.Spot, width, height int64) {
	t.Helper()
	what := fmt.Sprintf("CropPicture %q %v %d %d", p.Rows, from, width, height)
	got := results(impl.CropPicture(p, from, width, height))
	lies := from.X >= 0 && from.Y >= 0 && width >= 1 && height >= 1 && from.X+width <= widthOf(p) && from.Y+height <= heightOf(p)
	if !lies {
		expectFailure(t, what, got)
		return
	}
	want := painted(width, height, func(x, y int64) bool { return isBlack(p, from.X+x, from.Y+y) })
	expect(t, what, got, want, true)
}

func TestPictureTexts(t *testing.T) {
	for _, p := range samplePictures() {
		text := strings.Join(p.Rows, "/")
		expect(t, "PictureText", results(impl.PictureText(p)), text, true)
		expect(t, "ReadPicture "+text, results(impl.ReadPicture(text)), p, true)
	}
}

func TestTextsOfNoPicture(t *testing.T) {
	long := strings.Repeat(".", impl.MaxSide+1)
	texts := []string{
		"", "/", "//", "#/", "/#", "#//#", "#/#/", "/#/#", "##/#", "#/##", "#/##/#", "x", "#x", "#,#", "#\n", "#/\n", " #", "# ", "none", "#\\#",
		long, long + "/" + long, strings.Repeat("#/", impl.MaxSide) + "#", strings.Repeat("#/", impl.MaxSide),
		"\xff", "#\xff", "#/\xff", "é", "♯", "#/é", "ééé/ééé", strings.Repeat("/", 100000), strings.Repeat("#", 100000), strings.Repeat("#/", 100000),
	}
	for _, text := range texts {
		expectFailure(t, fmt.Sprintf("ReadPicture %.40q", text), results(impl.ReadPicture(text)))
	}
}

func TestIsName(t *testing.T) {
	for _, s := range []string{"a", "z", "leaf", "az", "abcdefgh", "zzzzzzzz"} {
		if !impl.IsName(s) {
			t.Errorf("%q must be a name", s)
		}
	}
	for _, s := range []string{"", "abcdefghi", "A", "aB", "a1", "1", "a ", " a", "a\n", "`", "{", "é", "aé", "\xff", "a\xff", "a\x00", "a-b", strings.Repeat("a", 100000)} {
		if impl.IsName(s) {
			t.Errorf("%.20q must not be a name", s)
		}
	}
	for b := range 256 {
		s := string([]byte{byte(b)})
		if want := b >= 'a' && b <= 'z'; impl.IsName(s) != want || impl.IsName("q"+s) != want {
			t.Errorf("the byte %d in a name: want %v", b, want)
		}
	}
}

func TestDecimal(t *testing.T) {
	texts := map[int64]string{
		0: "0", 7: "7", -7: "-7", 10: "10", -120: "-120", 1000000000: "1000000000", -1000000000: "-1000000000",
		greatestInt: "9223372036854775807", leastInt: "-9223372036854775808", 1000000001: "1000000001",
	}
	for n, text := range texts {
		expect(t, "Decimal", results(impl.Decimal(n)), text)
		got := results(impl.ReadDecimal(text))
		if n < -impl.MaxValue || n > impl.MaxValue {
			expectFailure(t, "ReadDecimal "+text, got)
		} else {
			expect(t, "ReadDecimal "+text, got, n, true)
		}
	}
	for n := int64(-1100); n <= 1100; n++ {
		text := fmt.Sprint(n)
		expect(t, "Decimal", results(impl.Decimal(n)), text)
		expect(t, "ReadDecimal "+text, results(impl.ReadDecimal(text)), n, true)
	}
}

func TestTextsOfNoNumber(t *testing.T) {
	texts := []string{
		"", "-", "+", "+1", "-0", "00", "01", "-01", "--1", "1-", " 1", "1 ", "1\n", "1_000", "0x1", "1.0", "1e3", "a", "one", "\xff", "١", "１",
		"1000000001", "-1000000001", "9223372036854775808", "-9223372036854775809", strings.Repeat("9", 100000), strings.Repeat("0", 100000),
	}
	for _, text := range texts {
		expectFailure(t, fmt.Sprintf("ReadDecimal %.40q", text), results(impl.ReadDecimal(text)))
	}
}

func TestListTexts(t *testing.T) {
	longest := slices.Repeat([]int64{-impl.MaxValue}, impl.MaxItems)
	lists := map[string][]int64{
		"none": nil, "0": {0}, "1,-2": {1, -2}, "3,2,2,-1": {3, 2, 2, -1},
		"1000000000,-1000000000": {impl.MaxValue, -impl.MaxValue},
		strings.Repeat("-1000000000,", impl.MaxItems-1) + "-1000000000": longest,
	}
	for text, list := range lists {
		expect(t, "ListText", results(impl.ListText(list)), text, true)
		expect(t, "ReadList "+text, results(impl.ReadList(text)), list, true)
	}
	expect(t, "ListText of an empty list", results(impl.ListText([]int64{})), "none", true)
	bad := [][]int64{{impl.MaxValue + 1}, {-impl.MaxValue - 1}, {0, greatestInt}, {leastInt, 0}, slices.Repeat([]int64{0}, impl.MaxItems+1)}
	for _, list := range bad {
		expectFailure(t, fmt.Sprintf("ListText %.5v", list), results(impl.ListText(list)))
	}
}

func TestTextsOfNoList(t *testing.T) {
	texts := []string{
		"", ",", "1,", ",1", "1,,2", "1, 2", "1;2", "none,none", "1,none", "none,1", "None", "none ", "nil", "01", "1,-0", "1,+2", "1000000001", "0,-1000000001", "a",
		strings.Repeat("0,", impl.MaxItems) + "0", strings.Repeat("0,", impl.MaxItems), strings.Repeat(",", 100000), strings.Repeat("1", 100000),
	}
	for _, text := range texts {
		expectFailure(t, fmt.Sprintf("ReadList %.40q", text), results(impl.ReadList(text)))
	}
}

func TestCheckOf(t *testing.T) {
	last := int64(impl.CheckSize - 1)
	everyByte := make([]byte, 256)
	for i := range everyByte {
		everyByte[i] = byte(i)
	}
	texts := []string{"", "a", "\x00", "\xff", "#../##.", "é", "set a #", string(everyByte), strings.Repeat("z\n", 500)}
	for _, start := range []int64{0, 1, 421, last - 1, last} {
		for _, text := range texts {
			want := start
			for _, b := range []byte(text) {
				want = (421*want + int64(b) + 19) % 65129
			}
			expect(t, fmt.Sprintf("CheckOf %d %.20q", start, text), results(impl.CheckOf(start, text)), want, true)
		}
	}
	// The greatest start is -1 modulo CheckSize, so that 421 times it, plus 19, is -402.
	expect(t, "CheckOf 0 a", results(impl.CheckOf(0, "a")), 116, true)
	expect(t, "CheckOf of the greatest start", results(impl.CheckOf(last, "\x00")), 64727, true)
	for _, start := range []int64{-1, impl.CheckSize, leastInt, greatestInt} {
		expectFailure(t, fmt.Sprint("CheckOf ", start), results(impl.CheckOf(start, "")))
		expectFailure(t, fmt.Sprint("CheckOf ", start), results(impl.CheckOf(start, "a")))
	}
}
