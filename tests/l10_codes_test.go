package tests

import (
	"fmt"
	"math"
	"slices"
	"strconv"
	"strings"
	"testing"

	"loop.example/g01165/impl"
)

// The tests in this file are those of promise 11: what the functions of chapter 10 return for valid
// arguments, and which texts are codes.

func TestChapter10Examples(t *testing.T) {
	expect(t, "CodeOfNumber 5", results(impl.CodeOfNumber(5)), "00101", true)
	tree := impl.Tree{Side: 2, Text: "(###.)"}
	expect(t, "PackTree", results(impl.PackTree(tree)), "11110", true)
	expect(t, "UnpackTree", results(impl.UnpackTree(2, "11110")), tree, true)
	expect(t, "PackSteps", results(impl.PackSteps("rdlu")), "00101010", true)
	expect(t, "UnpackSteps", results(impl.UnpackSteps("00101010")), "rdlu", true)
	expect(t, "limits", results(int64(impl.MaxCode)), 2000)
}

// orderedSpots are the places of the numbers 0 to 15 in a square of 4 by 4.
var orderedSpots = spots(0, 0, 2, 2, 2, 0, 0, 2, 1, 1, 3, 3, 3, 1, 1, 3, 1, 0, 3, 2, 3, 0, 1, 2, 0, 1, 2, 3, 2, 1, 0, 3)

// leastWhites are, for the numbers 0 to 15, the least greys that are white.
var leastWhites = []int64{3, 9, 16, 22, 28, 34, 41, 47, 53, 59, 66, 72, 78, 84, 91, 97}

func orderedAsDefined(g impl.Grey) impl.Picture {
	return blackWhere(g, func(at impl.Spot) bool {
		number := slices.Index(orderedSpots, impl.Spot{X: at.X % 4, Y: at.Y % 4})
		return numberAt(g, at) < leastWhites[number]
	})
}

func TestOrderedGreyByHand(t *testing.T) {
	tests := []struct{ grey, want string }{
		{"0", "#"}, {"2", "#"}, {"3", "."}, {"49", "."}, {"50", "."}, {"99", "."},
		{"50,50,50,50", ".#.#"}, {"49,49,49,49", ".#.#"}, {"0,0,0,0", "####"}, {"99,99,99,99", "...."},
		{"50/50/50/50", "./#/./#"}, {"3,53,16,66,3,53,16,66", "........"}, {"2,52,15,65,2,52,15,65", "########"},
		{"78/22/97/3", "./#/./#"}, {"3/78/22/97/3", "././././."}, {"2/77/21/96/2", "#/#/#/#/#"},
		{"0,99,50,1/99,0,50,41", "#..#/.##."},
		{"8,8,8,8/8,8,8,8/8,8,8,8/8,8,8,8", ".###/####/####/####"},
		{"9,9,9,9/9,9,9,9/9,9,9,9/9,9,9,9", ".###/####/##.#/####"},
		{"96,96,96,96/96,96,96,96/96,96,96,96/96,96,96,96", "..../..../..../#..."},
	}
	for _, test := range tests {
		expect(t, "OrderedGrey "+test.grey, results(impl.OrderedGrey(grey(test.grey))), drawn(test.want), true)
	}
}

func TestOrderedGreyOfAllNumbersEverywhere(t *testing.T) {
	for n := range int64(impl.MaxGrey + 1) {
		g := flat(16, 16, n)
		want := orderedAsDefined(g)
		expect(t, fmt.Sprint("OrderedGrey of ", n), results(impl.OrderedGrey(g)), want, true)
		blacks := 0
		for _, least := range leastWhites {
			if n < least {
				blacks++
			}
		}
		expect(t, fmt.Sprint("black pixels for ", n), results(impl.CountBlack(want)), 16*blacks, true)
	}
}

func TestOrderedGreyOfSamples(t *testing.T) {
	for _, g := range allValleyGreys() {
		if got, ok := impl.OrderedGrey(g); !ok || !same(got, orderedAsDefined(g)) {
			t.Fatalf("OrderedGrey %s: got %v %t", textOf(g), got.Rows, ok)
		}
	}
}

// partOf returns so many sixteenths, rounded to the integer that is not greater.
func partOf(n, sixteenths int64) int64 { return int64(math.Floor(float64(n*sixteenths) / 16)) }

// spreadAsDefined collects for each pixel what those before it add. The errors of pixels outside are 0.
func spreadAsDefined(g impl.Grey) (impl.Picture, int64) {
	errors := map[impl.Spot]int64{}
	rest := func(n int64) int64 { return n - partOf(n, 7) - partOf(n, 3) - partOf(n, 5) }
	lost := int64(0)
	p := blackWhere(g, func(at impl.Spot) bool {
		x, y := at.X, at.Y
		n := numberAt(g, at) + partOf(errors[impl.Spot{X: x - 1, Y: y}], 7) + partOf(errors[impl.Spot{X: x + 1, Y: y - 1}], 3) +
			partOf(errors[impl.Spot{X: x, Y: y - 1}], 5) + rest(errors[impl.Spot{X: x - 1, Y: y - 1}])
		black := n < 50
		if !black {
			n -= 99
		}
		errors[at] = n
		isFirst, isLast, isLowest := x == 0, x == greyWidth(g)-1, y == greyHeight(g)-1
		if isLast {
			lost += partOf(n, 7)
		}
		if isFirst || isLowest {
			lost += partOf(n, 3)
		}
		if isLowest {
			lost += partOf(n, 5)
		}
		if isLast || isLowest {
			lost += rest(n)
		}
		return black
	})
	return p, lost
}

func spreadGrey(g impl.Grey) []any {
	p, lost, ok := impl.SpreadGrey(g)
	return results(p, lost, ok)
}

// checkSpread compares SpreadGrey with its definition, and the sum of all greys with what must be the same.
func checkSpread(t *testing.T, g impl.Grey) {
	t.Helper()
	p, lost, ok := impl.SpreadGrey(g)
	wantP, wantLost := spreadAsDefined(g)
	if !ok || !same(p, wantP) || lost != wantLost {
		t.Fatalf("SpreadGrey %s: got %v %d %t, want %v %d", textOf(g), p.Rows, lost, ok, wantP.Rows, wantLost)
	}
	sum := int64(0)
	for _, n := range slices.Concat(g.Rows...) {
		sum += n
	}
	whites := int64(len(pixelsOf(p)) - len(blacksOf(p)))
	if sum != 99*whites+lost {
		t.Fatalf("SpreadGrey %s: the sum %d is not kept by %v and %d", textOf(g), sum, p.Rows, lost)
	}
	if difference, ok := impl.MeanError(g, p); !ok || difference != lost {
		t.Fatalf("MeanError %s: got %d %t, want %d", textOf(g), difference, ok, lost)
	}
}

func TestSpreadGreyByHand(t *testing.T) {
	tests := []struct {
		grey, want string
		lost       int
	}{
		{"0", "#", 0}, {"1", "#", 1}, {"49", "#", 49}, {"50", ".", -49}, {"98", ".", -1}, {"99", ".", 0},
		// 40 adds 17 to the pixel on the right.
		{"40,80", "#.", 21}, {"40,32", "##", 72}, {"40,33", "#.", -26},
		// The error -49 adds -22 on the right, where a division would add -21.
		{"50,50", ".#", 1}, {"50,71", ".#", 22}, {"50,72", "..", -76},
		// The error -1 adds -1 on the right, on the left below and below, and 2 on the right below.
		{"98,50", ".#", 49}, {"98,51", "..", -49}, {"98/50", "./#", 49}, {"98/51", "./.", -49},
		{"98,99/99,48", "../.#", 47}, {"98,99/99,49", "../.#", 48}, {"98,99/99,50", "../..", -50},
		{"99,98/50,99", "../#.", 49}, {"99,98/51,99", "../..", -49},
		// 49 adds 21 on the right, 9 on the left below, 15 below, and 4 on the right below.
		{"49/0/50", "#/#/.", 0}, {"49,0/0,0", "##/##", 49}, {"49/34", "#/#", 83}, {"49/35", "#/.", -15},
		{"49,28", "##", 77}, {"49,29", "#.", -21}, {"0,49/40,0", "##/##", 89}, {"0,49/41,0", "##/.#", -9},
	}
	for _, test := range tests {
		expect(t, "SpreadGrey "+test.grey, spreadGrey(grey(test.grey)), drawn(test.want), test.lost, true)
		checkSpread(t, grey(test.grey))
	}
}

func TestSpreadGreyOfTwoAndThreeNumbers(t *testing.T) {
	for a := range int64(100) {
		for b := range int64(100) {
			checkSpread(t, impl.Grey{Rows: [][]int64{{a, b}}})
			checkSpread(t, impl.Grey{Rows: [][]int64{{a}, {b}}})
			checkSpread(t, impl.Grey{Rows: [][]int64{{99, a}, {b, 99}}})
			checkSpread(t, impl.Grey{Rows: [][]int64{{a, 99}, {99, b}}})
		}
	}
}

func TestSpreadGreyOfSamples(t *testing.T) {
	source := noise(110)
	list := allValleyGreys()
	for width := int64(1); width <= impl.MaxSide; width++ {
		for height := int64(1); height <= impl.MaxSide; height++ {
			list = append(list, source.grey(width, height, 1, 0, 100), source.grey(width, height, 1, 45, 10))
		}
	}
	for n := range int64(impl.MaxGrey + 1) {
		list = append(list, flat(16, 16, n), flat(16, 1, n), flat(1, 16, n), flat(1, 1, n))
	}
	for _, g := range list {
		checkSpread(t, g)
	}
}

func greyOfColours(p impl.Picture) impl.Grey {
	return impl.Grey{Rows: eachPixel(p, func(s impl.Spot) int64 {
		if isBlack(p, s.X, s.Y) {
			return 0
		}
		return 99
	})}
}

func TestGreyOfPicture(t *testing.T) {
	expect(t, "GreyOfPicture", results(impl.GreyOfPicture(drawn("#../##."))), grey("0,99,99/0,0,99"), true)
	for _, p := range samplePictures() {
		g := greyOfColours(p)
		expect(t, "GreyOfPicture", results(impl.GreyOfPicture(p)), g, true)
		// Both halftones of it are the picture itself.
		expect(t, "OrderedGrey", results(impl.OrderedGrey(g)), p, true)
		expect(t, "SpreadGrey", spreadGrey(g), p, 0, true)
		expect(t, "MeanError", results(impl.MeanError(g, p)), 0, true)
	}
}

func TestMeanErrorByHand(t *testing.T) {
	tests := []struct {
		grey, picture string
		want          int
	}{
		{"0", "#", 0}, {"0", ".", -99}, {"99", "#", 99}, {"99", ".", 0}, {"50", "#", 50}, {"50", ".", -49},
		{"40,80", "#.", 21}, {"40,80", ".#", 21}, {"40,80", "##", 120}, {"40,80", "..", -78},
		{"1,2,3/4,5,6", "###/###", 21}, {"1,2,3/4,5,6", "##./###", -78}, {"0/99/0", "././.", -198},
	}
	for _, test := range tests {
		expect(t, "MeanError "+test.grey+" "+test.picture, results(impl.MeanError(grey(test.grey), drawn(test.picture))), test.want, true)
	}
	expect(t, "the greatest MeanError", results(impl.MeanError(flat(16, 16, 99), black(16, 16))), 256*99, true)
	expect(t, "the least MeanError", results(impl.MeanError(flat(16, 16, 0), white(16, 16))), -256*99, true)
}

func TestMeanErrorOfSamples(t *testing.T) {
	source := noise(111)
	for _, g := range allValleyGreys() {
		p := source.picture(greyWidth(g), greyHeight(g))
		want := int64(0)
		for _, at := range pixelsOfGrey(g) {
			want += numberAt(g, at) - numberAt(greyOfColours(p), at)
		}
		if got, ok := impl.MeanError(g, p); !ok || got != want {
			t.Fatalf("MeanError %s %v: got %d %t, want %d", textOf(g), p.Rows, got, ok, want)
		}
	}
}

// residueAsDefined counts the black pixels among the four.
func residueAsDefined(p impl.Picture) impl.Picture {
	return painted(widthOf(p), heightOf(p), func(x, y int64) bool {
		count := 0
		for _, s := range spots(x, y, x-1, y, x, y-1, x-1, y-1) {
			if s.X >= 0 && s.Y >= 0 && isBlack(p, s.X, s.Y) {
				count++
			}
		}
		return count%2 == 1
	})
}

// fromResidueAsDefined counts the black pixels of a residue in the box from the first pixel to each one.
func fromResidueAsDefined(p impl.Picture) impl.Picture {
	return painted(widthOf(p), heightOf(p), func(x, y int64) bool {
		count := 0
		for atY := range y + 1 {
			for atX := range x + 1 {
				if isBlack(p, atX, atY) {
					count++
				}
			}
		}
		return count%2 == 1
	})
}

func TestResiduesByHand(t *testing.T) {
	tests := []struct{ picture, residue string }{
		{"#", "#"}, {".", "."}, {"##", "#."}, {"#/#", "#/."}, {"##/##", "#./.."}, {".#", ".#"}, {"#.", "##"}, {"./#", "./#"}, {"#/.", "#/#"},
		{"#./.#", "##/#."}, {".#/#.", ".#/#."}, {"###/###/###", "#../.../..."}, {".../.#./...", ".../.##/.##"},
		{"#.#.", "####"}, {"##..", "#.#."}, {"..##", "..#."}, {"####/.##./####", "#.../##.#/##.#"},
	}
	for _, test := range tests {
		expect(t, "ResidueOf "+test.picture, results(impl.ResidueOf(drawn(test.picture))), drawn(test.residue), true)
		expect(t, "FromResidue "+test.residue, results(impl.FromResidue(drawn(test.residue))), drawn(test.picture), true)
	}
}

func TestResiduesOfSamples(t *testing.T) {
	for _, p := range append(append(samplePictures(), allPictures(4, 3)...), squarePictures()...) {
		residue, back := residueAsDefined(p), fromResidueAsDefined(p)
		expect(t, "ResidueOf", results(impl.ResidueOf(p)), residue, true)
		expect(t, "FromResidue", results(impl.FromResidue(p)), back, true)
		expect(t, "FromResidue of ResidueOf", results(impl.FromResidue(residue)), p, true)
		expect(t, "ResidueOf of FromResidue", results(impl.ResidueOf(back)), p, true)
	}
}

// numberCode returns the code of a number, which can be greater than those that have one.
func numberCode(n int64) string {
	digits := strconv.FormatInt(n, 2)
	return strings.Repeat("0", len(digits)-1) + digits
}

// numbersCode returns the codes of some numbers.
func numbersCode(numbers ...int64) string {
	code := ""
	for _, n := range numbers {
		code += numberCode(n)
	}
	return code
}

// decoded returns the numbers whose codes a text is.
func decoded(s string) ([]int64, bool) {
	if strings.Trim(s, "01") != "" || strings.ContainsFunc(s, func(r rune) bool { return r != '0' && r != '1' }) || len(s) > 2000 {
		return nil, false
	}
	var numbers []int64
	for s != "" {
		zeros := strings.IndexByte(s, '1')
		if zeros < 0 || len(s) < 2*zeros+1 {
			return nil, false
		}
		n, err := strconv.ParseInt(s[zeros:2*zeros+1], 2, 64)
		if err != nil || n > 1000000000 {
			return nil, false
		}
		numbers = append(numbers, n)
		s = s[2*zeros+1:]
	}
	return numbers, true
}

// someNumbers are numbers that have codes, those around powers of 2 among them.
func someNumbers() []int64 {
	var list []int64
	for n := int64(1); n <= 300; n++ {
		list = append(list, n)
	}
	for power := int64(512); power <= impl.MaxValue; power *= 2 {
		list = append(list, power-1, power, power+1, power+power/2)
	}
	return append(list, impl.MaxValue-1, impl.MaxValue)
}

func TestNumbersByHand(t *testing.T) {
	codes := map[int64]string{
		1: "1", 2: "010", 3: "011", 4: "00100", 5: "00101", 6: "00110", 7: "00111", 8: "0001000", 15: "0001111", 16: "000010000", 17: "000010001",
		257:        "00000000100000001",
		1000000000: "00000000000000000000000000000" + "111011100110101100101000000000",
		999999999:  "00000000000000000000000000000" + "111011100110101100100111111111",
	}
	for n, code := range codes {
		expect(t, fmt.Sprint("CodeOfNumber ", n), results(impl.CodeOfNumber(n)), code, true)
		expect(t, "NumbersOfCode "+code, results(impl.NumbersOfCode(code)), []int64{n}, true)
	}
	lists := map[string][]int64{"": nil, "1": {1}, "11": {1, 1}, "100101": {1, 5}, "001011": {5, 1}, "010011": {2, 3}, "0101011": {2, 1, 3}, "00100010": {4, 2}}
	for code, list := range lists {
		expect(t, "NumbersOfCode "+code, results(impl.NumbersOfCode(code)), list, true)
	}
}

func TestNumbersComeBack(t *testing.T) {
	for _, n := range someNumbers() {
		expect(t, fmt.Sprint("CodeOfNumber ", n), results(impl.CodeOfNumber(n)), numberCode(n), true)
		expect(t, fmt.Sprint("NumbersOfCode ", n), results(impl.NumbersOfCode(numberCode(n))), []int64{n}, true)
	}
	for _, list := range listsOfNumbers(4, 1, 9) {
		if got, ok := impl.NumbersOfCode(numbersCode(list...)); !ok || !slices.Equal(got, list) {
			t.Fatalf("NumbersOfCode of %v: got %v %t", list, got, ok)
		}
	}
	source := noise(112)
	numbers := someNumbers()
	for range 500 {
		var list []int64
		for range source.below(30) {
			list = append(list, numbers[source.below(int64(len(numbers)))])
		}
		expect(t, fmt.Sprint("NumbersOfCode ", list), results(impl.NumbersOfCode(numbersCode(list...))), list, true)
	}
}

func TestGreatestNumbersAndLongestCodes(t *testing.T) {
	for _, zeros := range []int{0, 1, 28, 29} {
		code := strings.Repeat("0", zeros) + "1" + strings.Repeat("0", zeros)
		expect(t, "NumbersOfCode "+code, results(impl.NumbersOfCode(code)), []int64{1 << zeros}, true)
	}
	for _, n := range []int64{impl.MaxValue + 1, impl.MaxValue + 2, 1 << 30, 1 << 31, 1<<32 + 5, 1 << 62, greatestInt} {
		for _, code := range []string{numberCode(n), "1" + numberCode(n), numberCode(n) + "1", numberCode(n) + numberCode(n)} {
			expectFailure(t, "NumbersOfCode "+code, results(impl.NumbersOfCode(code)))
		}
	}
	// The last digits of these are those of a number that has a code.
	for zeros := 30; zeros <= 999; zeros++ {
		for _, last := range []string{"1", "101", strings.Repeat("1", 29)} {
			code := strings.Repeat("0", zeros) + "1" + strings.Repeat("0", zeros-len(last)) + last
			expectFailure(t, "NumbersOfCode "+code, results(impl.NumbersOfCode(code)))
		}
	}
	for _, count := range []int{1998, 1999, 2000} {
		expect(t, fmt.Sprint("NumbersOfCode of ones ", count), results(impl.NumbersOfCode(strings.Repeat("1", count))), slices.Repeat([]int64{1}, count), true)
	}
	long := strings.Repeat(numberCode(impl.MaxValue), 33)
	list := slices.Repeat([]int64{impl.MaxValue}, 33)
	expect(t, "NumbersOfCode of 2000 bits", results(impl.NumbersOfCode(strings.Repeat("1", 53)+long)), append(slices.Repeat([]int64{1}, 53), list...), true)
	expectFailure(t, "NumbersOfCode of 2001 bits", results(impl.NumbersOfCode(strings.Repeat("1", 54)+long)))
	for _, count := range []int{2001, 2002, 2003, 2048, 4000, 1 << 16} {
		expectFailure(t, fmt.Sprint("NumbersOfCode of too many ones ", count), results(impl.NumbersOfCode(strings.Repeat("1", count))))
		expectFailure(t, fmt.Sprint("NumbersOfCode of too many bits ", count), results(impl.NumbersOfCode(strings.Repeat("010", count/3)+"11"[:count%3])))
	}
}

// packedAsDefined returns the code of a picture.
func packedAsDefined(p impl.Picture) string {
	code := numbersCode(widthOf(p), heightOf(p))
	for _, length := range runsOfColours(strings.Join(residueAsDefined(p).Rows, "")) {
		code += numberCode(length + 1)
	}
	return code
}

// unpackedAsDefined returns the picture whose code a text is.
func unpackedAsDefined(s string) (impl.Picture, bool) {
	numbers, ok := decoded(s)
	if !ok || len(numbers) < 3 || numbers[0] > 16 || numbers[1] > 16 {
		return impl.Picture{}, false
	}
	width, height := numbers[0], numbers[1]
	runs := numbers[2:]
	for i := range runs {
		runs[i]--
	}
	if !areRuns(runs, width*height) {
		return impl.Picture{}, false
	}
	text := coloursOfRuns(runs)
	return fromResidueAsDefined(painted(width, height, func(x, y int64) bool { return text[y*width+x] == '#' })), true
}

func TestPackedPicturesByHand(t *testing.T) {
	tests := []struct {
		picture string
		numbers []int64
		code    string
	}{
		{".", []int64{1, 1, 2}, "11010"},
		{"#", []int64{1, 1, 1, 2}, "111010"},
		{"##/##", []int64{2, 2, 1, 2, 4}, "010010101000100"},
		{"..", []int64{2, 1, 3}, "0101011"},
		{"./.", []int64{1, 2, 3}, "1010011"},
		{".#", []int64{2, 1, 2, 2}, "0101010010"},
		{"#.", []int64{2, 1, 1, 3}, "01011011"},
		{"#./.#", []int64{2, 2, 1, 4, 2}, "010010100100010"},
		{".../.#./...", []int64{3, 3, 5, 3, 2, 3}, "01101100101011010011"},
		{"####/.##./####", []int64{4, 3, 1, 2, 4, 3, 2, 4, 2, 2}, "00100011101000100011010001000" + "10010"},
	}
	for _, test := range tests {
		p := drawn(test.picture)
		expect(t, "the code of "+test.picture, results(numbersCode(test.numbers...)), test.code)
		expect(t, "PackPicture "+test.picture, results(impl.PackPicture(p)), test.code, true)
		expect(t, "UnpackPicture "+test.code, results(impl.UnpackPicture(test.code)), p, true)
	}
	// Runs go on from row to row, so that pictures of one colour are the shortest, and a picture whose residue changes everywhere is the longest.
	expect(t, "PackPicture of white", results(impl.PackPicture(white(16, 16))), numbersCode(16, 16, 257), true)
	expect(t, "PackPicture of black", results(impl.PackPicture(black(16, 16))), numbersCode(16, 16, 1, 2, 256), true)
	longest := fromResidueAsDefined(painted(16, 16, func(x, y int64) bool { return (16*y+x)%2 == 0 }))
	code := numbersCode(16, 16, 1) + strings.Repeat("010", 256)
	expect(t, "PackPicture of the longest code", results(impl.PackPicture(longest)), code, true)
	expect(t, "UnpackPicture of the longest code", results(impl.UnpackPicture(code)), longest, true)
	expect(t, "its bits", results(int64(len(code))), 787)
}

func TestPackedPicturesComeBack(t *testing.T) {
	for _, p := range append(append(append(samplePictures(), allPictures(4, 3)...), squarePictures()...), topologyPictures()...) {
		code := packedAsDefined(p)
		expect(t, "PackPicture", results(impl.PackPicture(p)), code, true)
		expect(t, "UnpackPicture", results(impl.UnpackPicture(code)), p, true)
	}
}

func TestCodesOfPicturesWithOtherNumbers(t *testing.T) {
	for _, p := range []impl.Picture{drawn("."), drawn("#"), drawn("#../##."), drawn("##/##"), drawn(".#.#.#/#.#.#."), white(16, 16), black(16, 16)} {
		numbers, _ := decoded(packedAsDefined(p))
		for i := range numbers {
			for _, n := range []int64{1, 2, numbers[i] - 1, numbers[i] + 1, 15, 16, 17, 255, 256, 257, 258, impl.MaxValue} {
				if n < 1 {
					continue
				}
				checkUnpacked(t, numbersCode(slices.Replace(slices.Clone(numbers), i, i+1, n)...))
				checkUnpacked(t, numbersCode(slices.Insert(slices.Clone(numbers), i, n)...))
			}
			checkUnpacked(t, numbersCode(slices.Delete(slices.Clone(numbers), i, i+1)...))
		}
		for n := int64(1); n <= 5; n++ {
			expectFailure(t, "UnpackPicture with another number", results(impl.UnpackPicture(numbersCode(append(slices.Clone(numbers), n)...))))
		}
		// The sides are exchanged, and the picture is another one.
		checkUnpacked(t, numbersCode(append([]int64{numbers[1], numbers[0]}, numbers[2:]...)...))
	}
	for _, list := range listsOfNumbers(5, 1, 6) {
		checkUnpacked(t, numbersCode(list...))
	}
	for _, sides := range [][2]int64{{16, 17}, {17, 16}, {17, 1}, {1, 17}, {256, 1}, {1, 256}, {17, 17}, {32, 8}} {
		expectFailure(t, fmt.Sprint("UnpackPicture of sides ", sides), results(impl.UnpackPicture(numbersCode(sides[0], sides[1], sides[0]*sides[1]+1))))
	}
	// All of these lengths together are 256, if they are counted with too few bits.
	for _, more := range []int64{1 << 8, 1 << 16, 1 << 29} {
		expectFailure(t, "UnpackPicture with a great length", results(impl.UnpackPicture(numbersCode(16, 16, 257+more))))
		expectFailure(t, "UnpackPicture with great lengths", results(impl.UnpackPicture(numbersCode(16, 16, more+1, more+1, 257))))
	}
}

// checkUnpacked compares UnpackPicture with its definition.
func checkUnpacked(t *testing.T, s string) bool {
	t.Helper()
	got, ok := impl.UnpackPicture(s)
	want, wantOK := unpackedAsDefined(s)
	if ok != wantOK || !same(got, want) {
		t.Fatalf("UnpackPicture %q: got %v %t, want %v %t", s, got.Rows, ok, want.Rows, wantOK)
	}
	if ok && packedAsDefined(got) != s {
		t.Fatalf("UnpackPicture %q: the code of %v is another one", s, got.Rows)
	}
	return ok
}

// packedTree returns the code of a tree. It knows the side of each letter from the brackets around it.
func packedTree(tree impl.Tree) string {
	code, side := "", tree.Side
	for _, letter := range tree.Text {
		switch letter {
		case '(':
			code += "1"
			side /= 2
		case ')':
			side *= 2
		case '.':
			code += "00"[:min(side, 2)]
		case '#':
			code += "01"[2-min(side, 2):]
		}
	}
	return code
}

// treeText returns the text of the square with a side that a code begins with, and the bits behind it.
func treeText(side int64, s string) (string, string, bool) {
	if side > 1 && strings.HasPrefix(s, "1") {
		text, rest := "(", s[1:]
		for range 4 {
			part, behind, ok := treeText(side/2, rest)
			if !ok {
				return "", "", false
			}
			text, rest = text+part, behind
		}
		return text + ")", rest, true
	}
	if side > 1 {
		if !strings.HasPrefix(s, "0") {
			return "", "", false
		}
		s = s[1:]
	}
	if s == "" || s[0] != '0' && s[0] != '1' {
		return "", "", false
	}
	return map[byte]string{'0': ".", '1': "#"}[s[0]], s[1:], true
}

// unpackedTree returns the tree whose code a text is.
func unpackedTree(side int64, s string) (impl.Tree, bool) {
	text, rest, ok := treeText(side, s)
	if !ok || rest != "" || !isTreeText(text, side) {
		return impl.Tree{}, false
	}
	return impl.Tree{Side: side, Text: text}, true
}

func checkUnpackedTree(t *testing.T, side int64, s string) bool {
	t.Helper()
	got, ok := impl.UnpackTree(side, s)
	if want, wantOK := unpackedTree(side, s); ok != wantOK || got != want {
		t.Fatalf("UnpackTree %d %q: got %v %t, want %v %t", side, s, got, ok, want, wantOK)
	}
	if ok && packedTree(got) != s {
		t.Fatalf("UnpackTree %d %q: the code of %v is another one", side, s, got)
	}
	return ok
}

func TestPackedTreesByHand(t *testing.T) {
	tests := []struct {
		side       int64
		text, code string
	}{
		{1, "#", "1"}, {1, ".", "0"}, {2, "#", "01"}, {2, ".", "00"}, {4, "#", "01"}, {8, ".", "00"}, {16, "#", "01"}, {16, ".", "00"},
		{2, "(###.)", "11110"}, {2, "(...#)", "10001"}, {2, "(#..#)", "11001"}, {4, "(###.)", "101010100"}, {16, "(#...)", "101000000"},
		{4, "((#...)#.(...#))", "1110000100" + "10001"}, {8, "((#...)#.(...#))", "110100000001001000000" + "01"},
		{4, "((#...)(.#..)(..#.)(...#))", "1" + "11000" + "10100" + "10010" + "10001"},
		{8, "(..(..(#...).)#)", "1" + "00" + "00" + "1" + "00" + "00" + "11000" + "00" + "01"},
		{16, "(...(...(...(...#))))", "1000000" + "1000000" + "1000000" + "10001"},
	}
	for _, test := range tests {
		tree := impl.Tree{Side: test.side, Text: test.text}
		expect(t, "PackTree "+test.text, results(impl.PackTree(tree)), test.code, true)
		expect(t, "UnpackTree "+test.code, results(impl.UnpackTree(test.side, test.code)), tree, true)
	}
	// Squares of one colour must be merged.
	for _, code := range []string{"10000", "11111"} {
		expectFailure(t, "UnpackTree "+code, results(impl.UnpackTree(2, code)))
		expectFailure(t, "UnpackTree in a larger one", results(impl.UnpackTree(4, "1"+code+"000001")))
		expectFailure(t, "UnpackTree in the end", results(impl.UnpackTree(4, "1000001"+code)))
	}
	for _, code := range []string{"100000000", "101010101"} {
		for _, side := range treeSides[2:] {
			expectFailure(t, "UnpackTree "+code, results(impl.UnpackTree(side, code)))
		}
	}
}

func TestAllPackedTreesOfFourByFour(t *testing.T) {
	codes := map[string]bool{}
	for _, p := range allPictures(4, 4) {
		tree, _ := treeAsDefined(p)
		code := packedTree(tree)
		if codes[code] {
			t.Fatalf("two trees have the code %s", code)
		}
		codes[code] = true
		got, ok := impl.PackTree(tree)
		back, backOK := impl.UnpackTree(4, code)
		if !ok || got != code || !backOK || back != tree {
			t.Fatalf("%v: got %s %t, and %v %t", tree, got, ok, back, backOK)
		}
	}
}

func TestPackedTreesComeBack(t *testing.T) {
	for _, p := range squarePictures() {
		tree, _ := treeAsDefined(p)
		code := packedTree(tree)
		expect(t, "PackTree", results(impl.PackTree(tree)), code, true)
		for _, side := range treeSides {
			checkUnpackedTree(t, side, code)
		}
		if !checkUnpackedTree(t, tree.Side, code) {
			t.Errorf("%s must be the code of %v", code, tree)
		}
	}
	// The most leaves have 341 nodes, 256 of which are pixels.
	board, _ := treeAsDefined(painted(16, 16, func(x, y int64) bool { return (x+y)%2 == 0 }))
	code, _ := impl.PackTree(board)
	expect(t, "the bits of the longest code", results(int64(len(code))), 341)
}

// stepBits has the bits of a step behind another one.
var stepBits = map[string]string{
	"rr": "0", "rd": "10", "ru": "11", "dd": "0", "dl": "10", "dr": "11", "ll": "0", "lu": "10", "ld": "11", "uu": "0", "ur": "10", "ul": "11",
}

// firstBits has the bits of the first step.
var firstBits = map[string]string{"r": "00", "d": "01", "l": "10", "u": "11"}

// packedSteps returns the code of steps.
func packedSteps(s string) (string, bool) {
	if s == "" || len(s) > 600 || firstBits[s[:1]] == "" {
		return "", false
	}
	code := firstBits[s[:1]]
	for i := 1; i < len(s); i++ {
		bits := stepBits[s[i-1:i+1]]
		if bits == "" {
			return "", false
		}
		code += bits
	}
	return code, true
}

// unpackedSteps returns the steps whose code a text is.
func unpackedSteps(s string) (string, bool) {
	steps := ""
	for letter, bits := range firstBits {
		if strings.HasPrefix(s, bits) {
			steps, s = letter, s[2:]
			break
		}
	}
	for steps != "" && s != "" {
		last := steps[len(steps)-1:]
		before := len(steps)
		for _, letter := range []string{"r", "d", "l", "u"} {
			if bits := stepBits[last+letter]; bits != "" && strings.HasPrefix(s, bits) {
				steps, s = steps+letter, s[len(bits):]
				break
			}
		}
		if len(steps) == before {
			return "", false
		}
	}
	return steps, steps != "" && len(steps) <= 600
}

func checkSteps(t *testing.T, s string) bool {
	t.Helper()
	got, ok := impl.PackSteps(s)
	want, wantOK := packedSteps(s)
	if ok != wantOK || got != want {
		t.Fatalf("PackSteps %q: got %s %t, want %s %t", s, got, ok, want, wantOK)
	}
	if !ok {
		return false
	}
	if back, ok := impl.UnpackSteps(want); !ok || back != s {
		t.Fatalf("UnpackSteps %q: got %q %t, want %q", want, back, ok, s)
	}
	return true
}

func checkUnpackedSteps(t *testing.T, s string) bool {
	t.Helper()
	got, ok := impl.UnpackSteps(s)
	want, wantOK := unpackedSteps(s)
	if !wantOK {
		want = ""
	}
	if ok != wantOK || got != want {
		t.Fatalf("UnpackSteps %q: got %q %t, want %q %t", s, got, ok, want, wantOK)
	}
	if code, codeOK := packedSteps(got); ok && (!codeOK || code != s) {
		t.Fatalf("UnpackSteps %q: the code of %q is another one", s, got)
	}
	return ok
}

func TestPackedStepsByHand(t *testing.T) {
	tests := []struct{ steps, code string }{
		{"r", "00"}, {"d", "01"}, {"l", "10"}, {"u", "11"}, {"uur", "11010"}, {"rr", "000"}, {"rd", "0010"}, {"ru", "0011"}, {"dr", "0111"}, {"dl", "0110"},
		{"lu", "1010"}, {"ld", "1011"}, {"ur", "1110"}, {"ul", "1111"}, {"rrrdddllluuu", "00001000100010" + "00"}, {"urul", "11101111"},
		{"ruld", "00111111"}, {"drdrd", "0111101110"},
	}
	for _, test := range tests {
		expect(t, "PackSteps "+test.steps, results(impl.PackSteps(test.steps)), test.code, true)
		expect(t, "UnpackSteps "+test.code, results(impl.UnpackSteps(test.code)), test.steps, true)
	}
	for _, steps := range []string{"rl", "lr", "ud", "du", "rrl", "rlr", "rdu", "rdlur" + "l", "uuuud", "ddddu" + "d"} {
		expectFailure(t, "PackSteps "+steps, results(impl.PackSteps(steps)))
	}
}

func TestPackStepsOfAllShortTexts(t *testing.T) {
	packed := 0
	for count := range 8 {
		for _, steps := range allSteps(count) {
			if checkSteps(t, steps) {
				packed++
			}
		}
	}
	// Of the four letters, three can follow each one.
	expect(t, "packed texts", results(int64(packed)), 4+12+36+108+324+972+2916)
}

func TestPackedBordersComeBack(t *testing.T) {
	for _, b := range sampleBorders() {
		if !checkSteps(t, b.Steps) {
			t.Errorf("%s is not packed", b.Steps)
		}
	}
}

func TestMostSteps(t *testing.T) {
	for _, letter := range []string{"r", "d", "l", "u"} {
		first := firstBits[letter]
		for _, count := range []int{1, 2, 599, 600} {
			code := first + strings.Repeat("0", count-1)
			expect(t, fmt.Sprint("PackSteps straight ", count), results(impl.PackSteps(strings.Repeat(letter, count))), code, true)
			expect(t, fmt.Sprint("UnpackSteps straight ", count), results(impl.UnpackSteps(code)), strings.Repeat(letter, count), true)
		}
		for _, count := range []int{601, 602, 1000, 1999, 2000, 1 << 16} {
			expectFailure(t, fmt.Sprint("PackSteps straight ", count), results(impl.PackSteps(strings.Repeat(letter, count))))
			expectFailure(t, fmt.Sprint("UnpackSteps straight ", count), results(impl.UnpackSteps(first+strings.Repeat("0", count-1))))
		}
	}
	source := noise(113)
	for i := range 100 {
		// Half of them turn at each step, so that their codes are as long as can be.
		steps := source.stepsForward(601, i%2 == 0)
		code, _ := packedSteps(steps[:600])
		if i%2 == 0 && len(code) != 1200 {
			t.Errorf("the code of %s has %d bits", steps[:600], len(code))
		}
		expect(t, "PackSteps of 600 steps", results(impl.PackSteps(steps[:600])), code, true)
		expect(t, "UnpackSteps of 600 steps", results(impl.UnpackSteps(code)), steps[:600], true)
		expectFailure(t, "PackSteps of 601 steps", results(impl.PackSteps(steps)))
		expectFailure(t, "UnpackSteps of 601 steps", results(impl.UnpackSteps(code+stepBits[steps[599:]])))
	}
}

// stepsForward returns steps that never turn back, and never go straight on either if they always turn.
func (n *noise) stepsForward(count int, turns bool) string {
	steps := "rdlu"[n.below(4):][:1]
	for len(steps) < count {
		last := steps[len(steps)-1:]
		next := "rdlu"[n.below(4):][:1]
		if bits := stepBits[last+next]; bits != "" && !(turns && bits == "0") {
			steps += next
		}
	}
	return steps
}

func TestAllShortTextsOfBits(t *testing.T) {
	succeeded := map[string]int{}
	count := func(what string, ok bool) {
		if ok {
			succeeded[what]++
		}
	}
	for length := range 15 {
		for n := range 1 << length {
			s := fmt.Sprintf("%0*b", length, n)[:length]
			got, ok := impl.NumbersOfCode(s)
			if want, wantOK := decoded(s); ok != wantOK || !slices.Equal(got, want) {
				t.Fatalf("NumbersOfCode %q: got %v %t, want %v %t", s, got, ok, want, wantOK)
			}
			count("numbers", ok)
			count("pictures", checkUnpacked(t, s))
			for _, side := range treeSides {
				count(fmt.Sprint("trees ", side), checkUnpackedTree(t, side, s))
			}
			count("steps", checkUnpackedSteps(t, s))
		}
	}
	// One quarter of a square of 4 by 4 can be divided into pixels, each of the others has 2 bits.
	for side, want := range map[int]int{1: 2, 2: 2 + 14, 4: 2 + 14 + 4*14*8, 8: 2 + 14, 16: 2 + 14} {
		expect(t, fmt.Sprint("trees of the side ", side), results(int64(succeeded[fmt.Sprint("trees ", side)])), want)
	}
	// There are at most 14 bits: one letter alone has 2, and each other one 1 or 2.
	steps, ways := 0, []int{4, 4}
	for bits := 2; bits <= 14; bits++ {
		steps += ways[0]
		ways = []int{ways[1], ways[1] + 2*ways[0]}
	}
	expect(t, "steps", results(int64(succeeded["steps"])), steps)
	if succeeded["numbers"] < 100 || succeeded["pictures"] < 50 {
		t.Errorf("only %d texts are codes of numbers, and %d of pictures", succeeded["numbers"], succeeded["pictures"])
	}
}

// changedCodes returns texts that differ from a code at one place, or in some bits in front or behind.
func changedCodes(code string) []string {
	var list []string
	for i := range len(code) + 1 {
		for _, bit := range []string{"0", "1"} {
			list = append(list, code[:i]+bit+code[i:])
			if i < len(code) {
				list = append(list, code[:i]+bit+code[i+1:])
			}
		}
		if i < len(code) {
			list = append(list, code[:i], code[i+1:], code[:i]+code[min(i+2, len(code)):])
		}
	}
	for _, bits := range []string{"0", "1", "00", "01", "10", "11", "010", "000000"} {
		list = append(list, bits+code, code+bits)
	}
	return append(list, code+code)
}

func TestChangedCodesOfPictures(t *testing.T) {
	list := append(append(allPictures(2, 2), allPictures(3, 1)...), fewPictures()...)
	for _, p := range list {
		code := packedAsDefined(p)
		for _, s := range changedCodes(code) {
			checkUnpacked(t, s)
		}
		for i := range code {
			expectFailure(t, "UnpackPicture of a code that is cut", results(impl.UnpackPicture(code[:i])))
		}
	}
}

func TestChangedCodesOfTrees(t *testing.T) {
	source := noise(114)
	list := append(allPictures(1, 1), allPictures(2, 2)...)
	for _, side := range treeSides[2:] {
		list = append(list, source.blocks(side), source.blocks(side), source.blocks(side), source.picture(side, side))
	}
	for _, p := range list {
		tree, _ := treeAsDefined(p)
		code := packedTree(tree)
		for _, s := range changedCodes(code) {
			for _, side := range treeSides {
				checkUnpackedTree(t, side, s)
			}
		}
		for i := range code {
			expectFailure(t, "UnpackTree of a code that is cut", results(impl.UnpackTree(tree.Side, code[:i])))
		}
		for _, bit := range []string{"0", "1", "00", "10", code} {
			expectFailure(t, "UnpackTree of a code that goes on", results(impl.UnpackTree(tree.Side, code+bit)))
		}
	}
}

func TestChangedCodesOfSteps(t *testing.T) {
	for _, steps := range []string{"r", "u", "rdlu", "uur", "rrrdddllluuu", "ruldruld", "dddrrrdlld", "rururururu"} {
		code, _ := packedSteps(steps)
		for _, s := range changedCodes(code) {
			checkUnpackedSteps(t, s)
		}
	}
	for _, code := range []string{"", "0", "1", "001", "011", "0001", "00101", "0011111"} {
		expectFailure(t, "UnpackSteps of a code that is cut: "+code, results(impl.UnpackSteps(code)))
	}
}
