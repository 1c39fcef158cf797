package tests

import (
	"fmt"
	"reflect"
	"slices"
	"strings"
	"testing"

	"loop.example/g01165/impl"
)

// The tests in this file are those of promise 1 for chapter 10: every function returns for all
// arguments, modifies none of them, and returns equal results, in new memory, for equal arguments.

// halftoneCalls returns the calls with a grey picture alone.
func halftoneCalls() []greyCall {
	return []greyCall{
		{"OrderedGrey", func(g impl.Grey) []any { return results(impl.OrderedGrey(g)) }},
		{"SpreadGrey", spreadGrey},
	}
}

// packCalls returns the calls with a picture alone.
func packCalls() []aCall {
	return []aCall{
		{"GreyOfPicture", func(p impl.Picture) []any { return results(impl.GreyOfPicture(p)) }},
		{"ResidueOf", func(p impl.Picture) []any { return results(impl.ResidueOf(p)) }},
		{"FromResidue", func(p impl.Picture) []any { return results(impl.FromResidue(p)) }},
		{"PackPicture", func(p impl.Picture) []any { return results(impl.PackPicture(p)) }},
	}
}

// codeCall calls a function with a code.
type codeCall struct {
	name string
	of   func(s string) []any
}

func codeCalls() []codeCall {
	calls := []codeCall{
		{"NumbersOfCode", func(s string) []any { return results(impl.NumbersOfCode(s)) }},
		{"UnpackPicture", func(s string) []any { return results(impl.UnpackPicture(s)) }},
		{"UnpackSteps", func(s string) []any { return results(impl.UnpackSteps(s)) }},
	}
	for _, side := range treeSides {
		calls = append(calls, codeCall{fmt.Sprint("UnpackTree ", side), func(s string) []any { return results(impl.UnpackTree(side, s)) }})
	}
	return calls
}

// goodCodes returns a code for each of the calls at least.
func goodCodes() []string {
	return []string{
		"1", "100101", "11010", "111010", "010010101000100", "0", "01", "00", "11110", "1110000100" + "10001", "101010100", "00101010", "11010", "0000",
		packedAsDefined(fewPictures()[12]), strings.Repeat("1", 600), strings.Repeat("0", 601), strings.Repeat("1", 2000),
	}
}

func TestNoGreyPictureFailsInChapter10(t *testing.T) {
	for _, bad := range badGreys() {
		what := fmt.Sprint(" ", bad.Rows)
		for _, call := range halftoneCalls() {
			expectFailure(t, call.name+what, call.of(bad))
		}
		for _, p := range []impl.Picture{drawn("#"), drawn("."), drawn("##"), drawn("#/#"), drawn("##/##"), white(16, 16), {}, drawn("x")} {
			expectFailure(t, "MeanError"+what, results(impl.MeanError(bad, p)))
		}
	}
}

func TestNoPictureFailsInChapter10(t *testing.T) {
	for _, bad := range badPictures() {
		what := fmt.Sprintf(" %q", bad.Rows)
		for _, call := range packCalls() {
			expectFailure(t, call.name+what, call.of(bad))
		}
		for _, g := range []impl.Grey{digits("0"), digits("00"), digits("0/0"), digits("00/00"), flat(16, 16, 99), {}, {Rows: [][]int64{{100}}}} {
			expectFailure(t, "MeanError"+what, results(impl.MeanError(g, bad)))
		}
	}
}

func TestMeanErrorOfOtherSizesFails(t *testing.T) {
	source := noise(115)
	for width := int64(1); width <= impl.MaxSide; width++ {
		for height := int64(1); height <= impl.MaxSide; height++ {
			g, p := flat(width, height, 50), source.picture(width, height)
			if _, ok := impl.MeanError(g, p); !ok {
				t.Errorf("MeanError fails for the size %d, %d", width, height)
			}
			for _, size := range [][2]int64{{width + 1, height}, {width, height + 1}, {width - 1, height}, {width, height - 1}, {height, width}, {width + 1, height - 1}, {1, 1}, {16, 16}} {
				if size == [2]int64{width, height} || min(size[0], size[1]) < 1 || max(size[0], size[1]) > 16 {
					continue
				}
				expectFailure(t, fmt.Sprint("MeanError ", width, height, size), results(impl.MeanError(g, white(size[0], size[1]))))
				expectFailure(t, fmt.Sprint("MeanError exchanged ", width, height, size), results(impl.MeanError(flat(size[0], size[1], 50), p)))
			}
		}
	}
}

func TestNumbersWithoutCodeFail(t *testing.T) {
	for _, n := range append([]int64{0, -1, -2, -5, impl.MaxValue + 1, impl.MaxValue + 2, 1 << 30, 1 << 31, 1 << 32, 1<<32 + 5, -1 << 32, -impl.MaxValue, 1 << 62}, leastInt, leastInt+1, greatestInt, greatestInt-1) {
		expectFailure(t, fmt.Sprint("CodeOfNumber ", n), results(impl.CodeOfNumber(n)))
	}
	expect(t, "CodeOfNumber 1", results(impl.CodeOfNumber(1)), "1", true)
	expect(t, "CodeOfNumber MaxValue", results(impl.CodeOfNumber(impl.MaxValue)), numberCode(1000000000), true)
}

func TestNoTreeFailsInChapter10(t *testing.T) {
	for _, bad := range badTrees() {
		expectFailure(t, fmt.Sprintf("PackTree %d", bad.Side), results(impl.PackTree(bad)))
	}
	for _, side := range badSides {
		for _, code := range append(goodCodes(), "", "10000") {
			expectFailure(t, fmt.Sprintf("UnpackTree %d %s", side, code), results(impl.UnpackTree(side, code)))
		}
	}
}

func TestCodesOfTreesOfOtherSides(t *testing.T) {
	tests := []struct {
		code  string
		sides []int64
	}{
		{"0", []int64{1}}, {"1", []int64{1}}, {"00", []int64{2, 4, 8, 16}}, {"01", []int64{2, 4, 8, 16}}, {"11110", []int64{2}}, {"101010100", []int64{4, 8, 16}},
		{"10000", nil}, {"100000000", nil}, {"1100010000" + "1001", nil}, {"1" + "11000" + "000000", []int64{4}}, {"1" + "101000000" + "000000", []int64{8, 16}},
		{"1" + "1" + "11000" + "000000" + "000000", []int64{8}}, {"1" + "1" + "1" + "11000" + "000000" + "000000" + "000000", []int64{16}}, {"", nil},
	}
	for _, test := range tests {
		for _, side := range append(slices.Clone(treeSides), badSides...) {
			_, ok := impl.UnpackTree(side, test.code)
			expect(t, fmt.Sprintf("UnpackTree %d %s", side, test.code), results(ok), slices.Contains(test.sides, side))
		}
	}
	for _, test := range []impl.Tree{{Side: 1, Text: "(#...)"}, {Side: 2, Text: "((#...)...)"}, {Side: 4, Text: "(((#...)...)...)"}} {
		expectFailure(t, "PackTree of a side that is too small", results(impl.PackTree(test)))
		test.Side *= 2
		if _, ok := impl.PackTree(test); !ok {
			t.Errorf("PackTree fails for %v", test)
		}
	}
}

func TestEmptyTexts(t *testing.T) {
	expect(t, "NumbersOfCode", results(impl.NumbersOfCode("")), []int64(nil), true)
	expectFailure(t, "UnpackPicture", results(impl.UnpackPicture("")))
	expectFailure(t, "PackSteps", results(impl.PackSteps("")))
	expectFailure(t, "UnpackSteps", results(impl.UnpackSteps("")))
	for _, side := range treeSides {
		expectFailure(t, fmt.Sprint("UnpackTree ", side), results(impl.UnpackTree(side, "")))
		expectFailure(t, fmt.Sprint("PackTree ", side), results(impl.PackTree(impl.Tree{Side: side})))
	}
}

func TestOtherBytesThanBitsFail(t *testing.T) {
	for _, code := range goodCodes() {
		if len(code) > 700 {
			continue
		}
		for n := range 256 {
			if n == '0' || n == '1' {
				continue
			}
			other := string([]byte{byte(n)})
			for _, i := range []int{0, 1, len(code) / 2, len(code) - 1, len(code)} {
				if i > len(code) {
					continue
				}
				for _, call := range codeCalls() {
					expectFailure(t, call.name, call.of(code[:i]+other+code[i:]))
					expectFailure(t, call.name, call.of(code[:i]+other+code[min(i+1, len(code)):]))
				}
			}
		}
		for _, text := range []string{" ", "\n", "-", "+", "0b", "é", "０", "１", "٠", "none", ","} {
			for _, call := range codeCalls() {
				expectFailure(t, call.name, call.of(code+text))
				expectFailure(t, call.name, call.of(text+code))
				expectFailure(t, call.name, call.of(strings.Join(strings.Split(code, ""), text)+text))
			}
		}
	}
}

func TestCodesThatAreTooLongFail(t *testing.T) {
	for _, count := range []int{2001, 2002, 2048, 4000, 1 << 16, 1 << 24} {
		for _, bits := range []string{"0", "1", "01", "10", "001", "0x", "x"} {
			long := strings.Repeat(bits, count)
			for _, call := range codeCalls() {
				expectFailure(t, call.name+fmt.Sprint(" of many ", bits, count), call.of(long[:count]))
			}
		}
	}
	for _, code := range goodCodes() {
		for _, call := range codeCalls() {
			for _, more := range []string{"0", "1", "01"} {
				expectFailure(t, call.name+" with many bits behind it", call.of(code+strings.Repeat(more, 2001-len(code)+1)[:2001-len(code)]))
			}
		}
	}
}

func TestLettersThatAreNoStepsFail(t *testing.T) {
	for _, steps := range []string{"r", "u", "rdlu", "uur", "dddr"} {
		for n := range 256 {
			letter := string([]byte{byte(n)})
			if strings.Contains("rdlu", letter) {
				continue
			}
			for i := range len(steps) + 1 {
				expectFailure(t, fmt.Sprintf("PackSteps %q", letter), results(impl.PackSteps(steps[:i]+letter+steps[i:])))
				if i < len(steps) {
					expectFailure(t, fmt.Sprintf("PackSteps %q", letter), results(impl.PackSteps(steps[:i]+letter+steps[i+1:])))
				}
			}
			expectFailure(t, fmt.Sprintf("PackSteps %q", letter), results(impl.PackSteps(letter)))
		}
	}
	for _, letter := range []string{"r", "d", "l", "u", "x", "rl", "rdlu"} {
		expectFailure(t, "PackSteps of many "+letter, results(impl.PackSteps(strings.Repeat(letter, 1<<22))))
	}
}

func TestLimitsOfChapter10CanBeReached(t *testing.T) {
	for width := int64(1); width <= impl.MaxSide; width++ {
		for height := int64(1); height <= impl.MaxSide; height++ {
			what := fmt.Sprint(" ", width, " ", height)
			whites, blacks, pixels := white(width, height), black(width, height), width*height
			corner := painted(width, height, func(x, y int64) bool { return x == 0 && y == 0 })
			for n, want := range map[int64]impl.Picture{0: blacks, 99: whites} {
				expect(t, "OrderedGrey"+what, results(impl.OrderedGrey(flat(width, height, n))), want, true)
				expect(t, "SpreadGrey"+what, spreadGrey(flat(width, height, n)), want, 0, true)
				expect(t, "GreyOfPicture"+what, results(impl.GreyOfPicture(want)), flat(width, height, n), true)
				expect(t, "MeanError"+what, results(impl.MeanError(flat(width, height, 99-n), want)), pixels*(99-2*n), true)
			}
			expect(t, "ResidueOf white"+what, results(impl.ResidueOf(whites)), whites, true)
			expect(t, "ResidueOf black"+what, results(impl.ResidueOf(blacks)), corner, true)
			expect(t, "FromResidue"+what, results(impl.FromResidue(corner)), blacks, true)
			code := numbersCode(width, height, pixels+1)
			expect(t, "PackPicture"+what, results(impl.PackPicture(whites)), code, true)
			expect(t, "UnpackPicture"+what, results(impl.UnpackPicture(code)), whites, true)
			code = numbersCode(width, height, 1, 2, pixels)
			if pixels == 1 {
				code = numbersCode(1, 1, 1, 2)
			}
			expect(t, "PackPicture of black"+what, results(impl.PackPicture(blacks)), code, true)
			expect(t, "UnpackPicture of black"+what, results(impl.UnpackPicture(code)), blacks, true)
		}
	}
}

func TestHugeArgumentsFailInChapter10(t *testing.T) {
	// All rows are the same memory, so that only a copy of them would be huge.
	long := make([]int64, 1<<20)
	for _, rows := range [][][]int64{slices.Repeat([][]int64{long}, 1<<20), {long}, slices.Repeat([][]int64{{0}}, 1<<20)} {
		for _, call := range halftoneCalls() {
			expectFailure(t, call.name+" huge", call.of(impl.Grey{Rows: rows}))
		}
		expectFailure(t, "MeanError huge", results(impl.MeanError(impl.Grey{Rows: rows}, drawn("#"))))
	}
	row := strings.Repeat("#", 1<<20)
	for _, rows := range [][]string{slices.Repeat([]string{row}, 1<<20), {row}, slices.Repeat([]string{"#"}, 1<<20)} {
		for _, call := range packCalls() {
			expectFailure(t, call.name+" huge", call.of(impl.Picture{Rows: rows}))
		}
		expectFailure(t, "MeanError of a huge picture", results(impl.MeanError(digits("0"), impl.Picture{Rows: rows})))
	}
}

func TestChapter10ModifiesNoArgument(t *testing.T) {
	for _, g := range append(fewValleyGreys(), badGreys()...) {
		for _, call := range halftoneCalls() {
			checkRowsUnmodified(t, call.name, g.Rows, func(rows [][]int64) { call.of(impl.Grey{Rows: rows}) })
		}
		p := drawn("#")
		if impl.ValidGrey(g) {
			p = white(greyWidth(g), greyHeight(g))
		}
		checkRowsUnmodified(t, "MeanError", g.Rows, func(rows [][]int64) { impl.MeanError(impl.Grey{Rows: rows}, p) })
	}
	for _, p := range append(fewPictures(), badPictures()...) {
		for _, call := range packCalls() {
			checkUnmodified(t, call.name, p.Rows, "#", func(rows []string) { call.of(impl.Picture{Rows: rows}) })
		}
		for _, g := range []impl.Grey{digits("0"), flat(5, 3, 9), flat(16, 16, 9)} {
			checkUnmodified(t, "MeanError", p.Rows, "#", func(rows []string) { impl.MeanError(g, impl.Picture{Rows: rows}) })
		}
	}
}

func TestChapter10ReturnsNewMemory(t *testing.T) {
	for _, g := range append(fewValleyGreys(), largeGreys()...) {
		before := fmt.Sprint(g)
		for _, call := range halftoneCalls() {
			checkNewMemory(t, call.name+" "+textOf(g), func() []any { return call.of(g) })
		}
		if fmt.Sprint(g) != before {
			t.Fatalf("a result of chapter 10 shares memory with the argument %s", before)
		}
	}
	for _, p := range fewPictures() {
		before := slices.Clone(p.Rows)
		for _, call := range packCalls() {
			checkNewMemory(t, fmt.Sprintf("%s %q", call.name, p.Rows), func() []any { return call.of(p) })
		}
		g, _ := impl.GreyOfPicture(p)
		checkRowsShareNothing(t, "GreyOfPicture", g.Rows)
		code, _ := impl.PackPicture(p)
		checkNewMemory(t, "UnpackPicture "+code, func() []any { return results(impl.UnpackPicture(code)) })
		if !slices.Equal(p.Rows, before) {
			t.Fatalf("a result of chapter 10 shares memory with the argument %q", before)
		}
	}
	for _, code := range goodCodes() {
		for _, call := range codeCalls() {
			checkNewMemory(t, call.name+" "+code, func() []any { return call.of(code) })
		}
	}
}

func TestAnyPicturesAreUsedTheSameWayTwiceInChapter10(t *testing.T) {
	source := noise(116)
	pictures, greys := fewPictures(), append(fewGreys(), flat(3, 3, 5), flat(2, 1, 99))
	valids := 0
	for range 1000 {
		p := source.damaged(pictures[source.below(int64(len(pictures)))])
		g := impl.Grey{Rows: source.damagedRows(greys[source.below(int64(len(greys)))].Rows)}
		var calls []func() []any
		for _, call := range packCalls() {
			calls = append(calls, func() []any { return append([]any{impl.ValidPicture(p)}, call.of(p)...) })
		}
		for _, call := range halftoneCalls() {
			calls = append(calls, func() []any { return append([]any{isGreyAsDefined(g)}, call.of(g)...) })
		}
		for i, call := range calls {
			first, second := call(), call()
			if !reflect.DeepEqual(first, second) {
				t.Fatalf("the call %d with %v and %v: got %v and %v", i, p, g, first, second)
			}
			valid := first[0].(bool)
			if ok := first[len(first)-1].(bool); ok != valid {
				t.Fatalf("the call %d with %v and %v: got %v", i, p, g, first)
			}
			if valid {
				valids++
				continue
			}
			expectFailure(t, fmt.Sprint("the call ", i, " with ", p, g), first)
		}
	}
	if valids < 1000 || valids > 5000 {
		t.Errorf("%d of 6000 calls have valid arguments", valids)
	}
}

func TestAnyCodesAreUsedTheSameWayTwice(t *testing.T) {
	source := noise(117)
	codes := goodCodes()
	succeeded, failed := 0, 0
	for range 3000 {
		s := codes[source.below(int64(len(codes)))]
		changed := changedCodes(s[:min(len(s), 30)])
		if source.below(2) == 0 {
			s = changed[source.below(int64(len(changed)))]
		}
		steps := []byte("rdlurdlu")[:source.below(9)]
		for i := range steps {
			steps[i] = "dlrudlrudlrux"[source.below(13)]
		}
		n, side := source.number(), source.number()
		calls := []func() []any{
			func() []any { return results(impl.CodeOfNumber(n)) },
			func() []any { return results(impl.UnpackTree(side, s)) },
			func() []any { return results(impl.PackSteps(string(steps))) },
		}
		for _, call := range codeCalls() {
			calls = append(calls, func() []any { return call.of(s) })
		}
		for i, call := range calls {
			first, second := call(), call()
			if !reflect.DeepEqual(first, second) {
				t.Fatalf("the call %d with %s, %s, %d, %d: got %v and %v", i, s, steps, n, side, first, second)
			}
			if first[len(first)-1].(bool) {
				succeeded++
				continue
			}
			failed++
			expectFailure(t, fmt.Sprint("the call ", i, " with ", s), first)
		}
	}
	if succeeded < 3000 || failed < 3000 {
		t.Errorf("%d calls succeeded, %d failed", succeeded, failed)
	}
}
