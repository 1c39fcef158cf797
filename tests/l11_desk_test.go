package tests

import (
	"fmt"
	"maps"
	"slices"
	"strconv"
	"strings"
	"testing"

	"loop.example/g01165/impl"
)

// The tests in this file are those of promise 12, what lines, scripts and journals do, and of
// promise 13, what a desk outputs for a picture.

// desk returns the desk with pictures given as name=text, with a blank between two of them.
func desk(text string) impl.Desk {
	var d impl.Desk
	for _, item := range strings.Fields(text) {
		name, picture, _ := strings.Cut(item, "=")
		d.Names = append(d.Names, name)
		d.Pictures = append(d.Pictures, drawn(picture))
	}
	return d
}

// textOfDesk returns what desk makes a desk of.
func textOfDesk(d impl.Desk) string {
	var items []string
	for i, name := range d.Names {
		items = append(items, name+"="+strings.Join(d.Pictures[i].Rows, "/"))
	}
	return strings.Join(items, " ")
}

// fullDesk has as many pictures as are allowed.
const fullDesk = "a=# b=.# c=#/. d=##/#. eeeeeeee=... z=###/#.#/###"

func runDesk(d impl.Desk, script string) []any {
	after, output, ok := impl.RunDesk(d, script)
	return results(after, output, ok)
}

func deskCommand(d impl.Desk, line string) []any {
	after, output, ok := impl.DeskCommand(d, line)
	return results(after, output, ok)
}

func recoverJournal(t string) []any {
	lines, length, ok := impl.RecoverJournal(t)
	return results(lines, length, ok)
}

// shelf is what a desk is by definition: pictures by their names.
type shelf map[string]impl.Picture

func shelfOf(d impl.Desk) shelf {
	s := shelf{}
	for i, name := range d.Names {
		s[name] = d.Pictures[i]
	}
	return s
}

func (s shelf) desk() impl.Desk {
	var d impl.Desk
	for _, name := range slices.Sorted(maps.Keys(s)) {
		d.Names = append(d.Names, name)
		d.Pictures = append(d.Pictures, s[name])
	}
	return d
}

// formWords tells for the first word of each form what the others are: w stands for NEW, p for a
// picture, t for a text, and n for a number.
var formWords = map[string]string{
	"set": "wt", "drop": "p", "show": "p", "invert": "wp", "thin": "wp", "fill": "wp", "turn": "wpn", "open": "wpn", "close": "wpn",
	"grow": "wpn", "keep": "wpn", "shift": "wpnn", "join": "wppn", "black": "p", "holes": "p", "euler": "p", "areas": "p", "code": "p",
	"tree": "p", "water": "t", "valleys": "t",
}

// goodLines has a line of each form that succeeds at the full desk.
var goodLines = []string{
	"set a #../##.", "drop z", "show z", "invert a z", "thin b z", "fill c z", "turn d z 3", "open a z 2", "close b z 2", "grow c z 1", "keep d z 8",
	"shift a z 1 -1", "join b z z 2", "black z", "holes z", "euler z", "areas z", "code z", "tree d", "water 5,5,5/5,1,5/5,4,5", "valleys 2,0,3,1,4",
}

func TestGoodLinesHaveAllForms(t *testing.T) {
	names := map[string]bool{}
	for _, line := range goodLines {
		name, rest, _ := strings.Cut(line, " ")
		names[name] = true
		if len(strings.Split(rest, " ")) != len(formWords[name]) {
			t.Errorf("%q has another form than %s", line, formWords[name])
		}
		if _, output, ok := impl.DeskCommand(desk(fullDesk), line); !ok || output == "no" || output == "what" {
			t.Errorf("%q outputs %q, %t", line, output, ok)
		}
	}
	if len(names) != len(formWords) || len(names) != 21 {
		t.Errorf("%d names of %d", len(names), len(formWords))
	}
}

// isDecimal reports whether a text is a number as the chapter 1 writes it.
func isDecimal(s string) (int64, bool) {
	n, err := strconv.ParseInt(s, 10, 64)
	return n, err == nil && strconv.FormatInt(n, 10) == s && n <= 1000000000 && n >= -1000000000
}

func isLetters(s string) bool {
	return len(s) > 0 && len(s) < 9 && strings.Trim(s, "abcdefghijklmnopqrstuvwxyz") == ""
}

// lineWords has what the words of a line stand for.
type lineWords struct {
	name, text string
	pictures   []impl.Picture
	numbers    []int64
}

// read returns what the words behind the first one stand for, and whether there is all of it.
func (s shelf) read(kinds string, words []string) (lineWords, bool) {
	var w lineWords
	for i, word := range words {
		switch kinds[i] {
		case 'w':
			w.name = word
			if _, has := s[word]; !isLetters(word) || !has && len(s) == 6 {
				return w, false
			}
		case 'p':
			p, has := s[word]
			if !has {
				return w, false
			}
			w.pictures = append(w.pictures, p)
		case 't':
			w.text = word
		case 'n':
			n, ok := isDecimal(word)
			if !ok {
				return w, false
			}
			w.numbers = append(w.numbers, n)
		}
	}
	return w, true
}

// made returns the picture that a command gives a name.
func (w lineWords) made(command string) (impl.Picture, bool) {
	if command == "set" {
		return impl.ReadPicture(w.text)
	}
	p := w.pictures[0]
	switch command {
	case "invert":
		return impl.InvertPicture(p)
	case "thin":
		return impl.ThinPicture(p, true)
	case "fill":
		return impl.FillHoles(p, true)
	case "turn":
		return impl.TurnPicture(p, w.numbers[0])
	case "open":
		e, _ := impl.SquareElement(w.numbers[0])
		return impl.OpenPicture(p, e)
	case "close":
		e, _ := impl.SquareElement(w.numbers[0])
		return impl.ClosePicture(p, e)
	case "grow":
		e, _ := impl.CrossElement(w.numbers[0])
		return impl.DilatePicture(p, e)
	case "keep":
		return impl.KeepComponents(p, true, w.numbers[0])
	case "shift":
		return impl.ShiftPicture(p, w.numbers[0], w.numbers[1])
	}
	return impl.JoinPictures(w.numbers[0], p, w.pictures[1])
}

func listsText(lists [][]int64) string {
	var texts []string
	for _, list := range lists {
		texts = append(texts, strings.ReplaceAll(strings.Trim(fmt.Sprint(list), "[]"), " ", ","))
	}
	return strings.Join(texts, "/")
}

// told returns what a command outputs that changes nothing.
func (w lineWords) told(command string) (string, bool) {
	number := func(n int64, ok bool) (string, bool) { return fmt.Sprint(n), ok }
	g, isGrey := impl.ReadGrey(w.text)
	switch command {
	case "show":
		return strings.Join(w.pictures[0].Rows, "/"), true
	case "black":
		return fmt.Sprint(len(blacksOf(w.pictures[0]))), true
	case "holes":
		return number(impl.CountHoles(w.pictures[0], true))
	case "euler":
		return number(impl.EulerNumber(w.pictures[0], true))
	case "areas":
		areas, ok := impl.AreasOf(w.pictures[0], true)
		if len(areas) == 0 {
			return "none", ok
		}
		return listsText([][]int64{areas}), ok
	case "code":
		return impl.TreeCode(w.pictures[0])
	case "tree":
		tree, ok := impl.TreeOf(w.pictures[0])
		return tree.Text, ok
	case "water":
		n, ok := impl.WaterOf(g)
		return fmt.Sprint(n), ok && isGrey
	}
	lists, ok := impl.ValleysOf(g)
	return listsText(lists), ok && isGrey
}

// carriedOut returns the shelf behind a line, and the output.
func (s shelf) carriedOut(line string) (shelf, string) {
	words := strings.Split(line, " ")
	kinds, known := formWords[words[0]]
	if !known || len(words)-1 != len(kinds) {
		return s, "what"
	}
	w, ok := s.read(kinds, words[1:])
	if !ok {
		return s, "no"
	}
	after := maps.Clone(s)
	if words[0] == "drop" {
		delete(after, words[1])
		return after, "ok"
	}
	if kinds[0] != 'w' {
		output, ok := w.told(words[0])
		if !ok {
			return s, "no"
		}
		return s, output
	}
	p, ok := w.made(words[0])
	if !ok {
		return s, "no"
	}
	after[w.name] = p
	return after, "ok"
}

// checkLine compares DeskCommand with its definition, and returns the output.
func checkLine(t *testing.T, d impl.Desk, line string) string {
	t.Helper()
	after, output := shelfOf(d).carriedOut(line)
	expect(t, fmt.Sprintf("DeskCommand %s: %q", textOfDesk(d), line), deskCommand(d, line), after.desk(), output, true)
	// In a script, a line with a newline is several lines.
	if !strings.Contains(line, "\n") {
		expect(t, fmt.Sprintf("RunDesk %s: %q", textOfDesk(d), line), runDesk(d, line+"\n"), after.desk(), output+"\n", true)
	}
	return output
}

func TestChapter11Examples(t *testing.T) {
	d := desk("")
	for _, test := range [][2]string{{"set a ###/#.#/###", "ok"}, {"euler a", "0"}, {"code a", "((()))"}, {"fill b a", "ok"}, {"black b", "9"}, {"water 5,5,5/5,1,5/5,4,5", "3"}} {
		after, output, ok := impl.DeskCommand(d, test[0])
		expect(t, test[0], results(output, ok), test[1], true)
		d = after
	}
	expect(t, "desk", results(d), desk("a=###/#.#/### b=###/###/###"))
	expect(t, "limits", results(int64(impl.MaxNamed), int64(impl.MaxScript)), 6, 6000)
}

func TestValidDesk(t *testing.T) {
	for text, want := range map[string]bool{
		"": true, "a=#": true, "a=# b=.": true, "b=# a=.": false, "a=# a=#": false, "a=# a=.": false, fullDesk: true, "a=# b=# c=# d=# e=# f=# g=#": false,
		"a=# b=# c=# d=# e=# ff=#": true, "a=# b=# c=# e=# d=# f=#": false, "a=# b=# c=# d=# f=# f=#": false, "a=# b=# c=# d=# f=# e=#": false,
		"a=# aa=#": true, "aa=# a=#": false, "aa=# ab=# b=#": true, "ab=# aa=# b=#": false, "z=# za=#": true,
		"=#": false, "A=#": false, "a1=#": false, "abcdefgh=#": true, "abcdefghi=#": false, "a=# b1=#": false, "a=# {=#": false, "é=#": false,
		"a=": false, "a=x": false, "a=#/##": false, "a=# b=x": false, "a=x b=#": false, "a=# b=#/": false, "a=# b=. c=#/#/##": false,
	} {
		if got := impl.ValidDesk(desk(text)); got != want {
			t.Errorf("ValidDesk %q: got %t", text, got)
		}
	}
}

func TestDeskCommandByHand(t *testing.T) {
	tests := []struct{ desk, line, output, after string }{
		{"", "set a #../##.", "ok", "a=#../##."},
		{"b=#", "set a .", "ok", "a=. b=#"},
		{"b=#", "set c .", "ok", "b=# c=."},
		{"a=# c=#", "set b ./.", "ok", "a=# b=./. c=#"},
		{"a=# c=#", "set bc ./.", "ok", "a=# bc=./. c=#"},
		{"a=# b=.# c=#", "set b ##", "ok", "a=# b=## c=#"},
		{"a=# b=.# c=#", "drop a", "ok", "b=.# c=#"},
		{"a=# b=.# c=#", "drop b", "ok", "a=# c=#"},
		{"a=# b=.# c=#", "drop c", "ok", "a=# b=.#"},
		{"a=#", "drop a", "ok", ""},
		{"a=# b=#../##. c=.", "show b", "#../##.", "a=# b=#../##. c=."},
		{"a=#../##.", "invert b a", "ok", "a=#../##. b=.##/..#"},
		{"b=#../##.", "invert a b", "ok", "a=.##/..# b=#../##."},
		{"a=#../##.", "invert a a", "ok", "a=.##/..#"},
		// With eight false, it would be #./#. here.
		{"a=##/#.", "thin b a", "ok", "a=##/#. b=.#/#."},
		// With eight false, it would stay as it is.
		{"a=.#./#.#/.#.", "fill b a", "ok", "a=.#./#.#/.#. b=.#./###/.#."},
		{"a=#../##.", "turn b a 0", "ok", "a=#../##. b=..#/.##"},
		{"a=#../##.", "turn b a 1", "ok", "a=#../##. b=##./#.."},
		{"a=#../##.", "turn b a 2", "ok", "a=#../##. b=##/.#/.."},
		{"a=#../##.", "turn b a 3", "ok", "a=#../##. b=##/#./.."},
		{"a=#../##.", "turn b a 4", "no", "a=#../##."},
		{"a=#../##.", "turn b a -1", "no", "a=#../##."},
		{"a=###/###/..#", "open b a 2", "ok", "a=###/###/..# b=###/###/..."},
		{"a=###/###/..#", "open b a 1", "ok", "a=###/###/..# b=###/###/..#"},
		{"a=###/###/..#", "open b a 4", "ok", "a=###/###/..# b=.../.../..."},
		{"a=#.#", "close b a 2", "ok", "a=#.# b=###"},
		{"a=#.#", "close b a 1", "ok", "a=#.# b=#.#"},
		{"a=#.#", "close b a 5", "ok", "a=#.# b=###"},
		{"a=#.#", "close b a 6", "no", "a=#.#"},
		{"a=#.#", "open b a 6", "no", "a=#.#"},
		{"a=#.#", "open b a 0", "no", "a=#.#"},
		{"a=#.#", "close b a 0", "no", "a=#.#"},
		{"a=...../...../..#../...../.....", "grow b a 1", "ok", "a=...../...../..#../...../..... b=...../..#../.###./..#../....."},
		{"a=...../#..../.....", "grow b a 2", "ok", "a=...../#..../..... b=##.../###../##..."},
		{"a=.#.", "grow b a 0", "ok", "a=.#. b=.#."},
		{"a=.#.", "grow b a 4", "ok", "a=.#. b=###"},
		{"a=.#.", "grow b a 5", "no", "a=.#."},
		{"a=.#.", "grow b a -1", "no", "a=.#."},
		// With eight false, there would be nothing left.
		{"a=#./.#", "keep b a 2", "ok", "a=#./.# b=#./.#"},
		{"a=#.##", "keep b a 2", "ok", "a=#.## b=..##"},
		{"a=#.##", "keep b a 0", "ok", "a=#.## b=#.##"},
		{"a=#.##", "keep b a 256", "ok", "a=#.## b=...."},
		{"a=#.##", "keep b a 257", "no", "a=#.##"},
		{"a=#.##", "keep b a -1", "no", "a=#.##"},
		{"a=#../...", "shift b a 1 0", "ok", "a=#../... b=.#./..."},
		{"a=#../...", "shift b a 0 1", "ok", "a=#../... b=.../#.."},
		{"a=#../...", "shift b a 2 1", "ok", "a=#../... b=.../..#"},
		{"a=..#/...", "shift b a -2 0", "ok", "a=..#/... b=#../..."},
		{"a=#", "shift a a 16 -16", "ok", "a=."},
		{"a=#", "shift a a 17 0", "no", "a=#"},
		{"a=#", "shift a a 0 -17", "no", "a=#"},
		{"a=##.. b=#.#.", "join c a b 0", "ok", "a=##.. b=#.#. c=#..."},
		{"a=##.. b=#.#.", "join c a b 1", "ok", "a=##.. b=#.#. c=###."},
		{"a=##.. b=#.#.", "join c a b 2", "ok", "a=##.. b=#.#. c=.##."},
		{"a=##.. b=#.#.", "join c a b 3", "ok", "a=##.. b=#.#. c=.#.."},
		{"a=##.. b=#.#.", "join c b a 3", "ok", "a=##.. b=#.#. c=..#."},
		{"a=##.. b=#.#.", "join a b a 3", "ok", "a=..#. b=#.#."},
		{"a=##.. b=#.#.", "join a a a 2", "ok", "a=.... b=#.#."},
		{"a=##.. b=#.#.", "join c a b 4", "no", "a=##.. b=#.#."},
		{"a=##.. b=#.#", "join c a b 0", "no", "a=##.. b=#.#"},
		{"a=#../##.", "black a", "3", "a=#../##."},
		{"a=...", "black a", "0", "a=..."},
		// With eight false, there would be no hole, the number 4, and four areas.
		{"a=.#./#.#/.#.", "holes a", "1", "a=.#./#.#/.#."},
		{"a=.#./#.#/.#.", "euler a", "0", "a=.#./#.#/.#."},
		{"a=.#./#.#/.#.", "areas a", "4", "a=.#./#.#/.#."},
		{"a=#.#.#", "euler a", "3", "a=#.#.#"},
		{"a=#####/#.#.#/#####", "euler a", "-1", "a=#####/#.#.#/#####"},
		{"a=#.##.###", "areas a", "1,2,3", "a=#.##.###"},
		{"a=..", "areas a", "none", "a=.."},
		{"a=###/#.#/###", "code a", "((()))", "a=###/#.#/###"},
		{"a=.", "code a", "()", "a=."},
		{"a=##/#.", "tree a", "(###.)", "a=##/#."},
		{"a=##/##", "tree a", "#", "a=##/##"},
		{"a=##", "tree a", "no", "a=##"},
		{"a=###/###/###", "tree a", "no", "a=###/###/###"},
		{"", "water 5,5,5/5,1,5/5,4,5", "3", ""},
		{"a=#", "water 0", "0", "a=#"},
		{"a=#", "water #", "no", "a=#"},
		{"a=#", "water a", "no", "a=#"},
		{"a=#", "water 100", "no", "a=#"},
		{"", "valleys 2,0,3,1,4", "0,1,-1/1,3,3", ""},
		{"", "valleys 7", "7,0,-1", ""},
		{"a=#", "valleys 7/7,7", "no", "a=#"},
		{"a=#", "valleys a", "no", "a=#"},
		{"a=#", "fly", "what", "a=#"},
		{"a=#", "", "what", "a=#"},
		{"", "", "what", ""},
	}
	for _, test := range tests {
		what := fmt.Sprintf("DeskCommand %q %q", test.desk, test.line)
		expect(t, what, deskCommand(desk(test.desk), test.line), desk(test.after), test.output, true)
		checkLine(t, desk(test.desk), test.line)
	}
}

func TestOutputsAreWhatFunctionsTell(t *testing.T) {
	for _, p := range append(append(fewPictures(), topologyPictures()...), squarePictures()...) {
		text := strings.Join(p.Rows, "/")
		d := desk("a=# m=" + text + " z=.")
		holes, _ := impl.CountHoles(p, true)
		euler, _ := impl.EulerNumber(p, true)
		areas, _ := impl.AreasOf(p, true)
		list, _ := impl.ListText(areas)
		code, _ := impl.TreeCode(p)
		tree, ok := impl.TreeOf(p)
		if !ok {
			tree.Text = "no"
		}
		for line, want := range map[string]string{
			"show m": text, "black m": fmt.Sprint(len(blacksOf(p))), "holes m": fmt.Sprint(holes), "euler m": fmt.Sprint(euler), "areas m": list, "code m": code, "tree m": tree.Text,
		} {
			expect(t, line+" "+text, deskCommand(d, line), d, want, true)
		}
	}
}

func TestOutputsForGreyPictures(t *testing.T) {
	for _, g := range allValleyGreys() {
		water, _ := impl.WaterOf(g)
		valleys, _ := impl.ValleysOf(g)
		d := desk("a=#")
		expect(t, "water "+textOf(g), deskCommand(d, "water "+textOf(g)), d, fmt.Sprint(water), true)
		expect(t, "valleys "+textOf(g), deskCommand(d, "valleys "+textOf(g)), d, listsText(valleys), true)
	}
}

func TestPicturesAreMadeByFunctions(t *testing.T) {
	outputs := map[string]int{}
	numbers := append([]int64{256, 257, -18, 1000000000, -1000000000}, leastInt, greatestInt, 1<<32+1)
	for n := int64(-17); n <= 18; n++ {
		numbers = append(numbers, n)
	}
	for _, p := range append(fewPictures(), drawn(pixelInHole), drawn(pixelBesideRing)) {
		text := strings.Join(p.Rows, "/")
		inverted, _ := impl.InvertPicture(p)
		d := desk("b=" + text + " c=" + strings.Join(inverted.Rows, "/") + " d=#")
		for _, name := range []string{"a", "b", "c", "e"} {
			for _, command := range []string{"invert", "thin", "fill"} {
				outputs[checkLine(t, d, command+" "+name+" b")]++
			}
			outputs[checkLine(t, d, "set "+name+" "+text)]++
		}
		for _, n := range numbers {
			for _, command := range []string{"turn", "open", "close", "grow", "keep"} {
				outputs[checkLine(t, d, fmt.Sprint(command, " a b ", n))]++
			}
			for _, pair := range []string{"b c", "c b", "b b", "b d"} {
				outputs[checkLine(t, d, fmt.Sprint("join a ", pair, " ", n))]++
			}
			for _, m := range []int64{0, 1, -2, 16, -16, 17} {
				outputs[checkLine(t, d, fmt.Sprint("shift a b ", n, " ", m))]++
				outputs[checkLine(t, d, fmt.Sprint("shift a b ", m, " ", n))]++
			}
		}
	}
	if len(outputs) != 2 || outputs["ok"] < 1000 || outputs["no"] < 1000 {
		t.Errorf("the outputs are %v", outputs)
	}
}

func TestWordsTooFewAndTooMany(t *testing.T) {
	d := desk(fullDesk)
	for _, line := range goodLines {
		words := strings.Split(line, " ")
		for count := range len(words) {
			expect(t, "the first words of "+line, deskCommand(d, strings.Join(words[:count], " ")), d, "what", true)
		}
		for i := range words {
			less := slices.Delete(slices.Clone(words), i, i+1)
			expect(t, "a word less of "+line, deskCommand(d, strings.Join(less, " ")), d, "what", true)
		}
		for i := range len(words) + 1 {
			for _, word := range []string{"", "a", "z", "#", "0", "1", "ok", "show"} {
				more := strings.Join(slices.Insert(slices.Clone(words), i, word), " ")
				expect(t, fmt.Sprintf("a word more: %q", more), deskCommand(d, more), d, "what", true)
			}
		}
		for _, count := range []int{2, 3, 4, 5, 6, 10, 100} {
			for _, word := range []string{" ", " a", " 0"} {
				expect(t, "many words more of "+line, deskCommand(d, line+strings.Repeat(word, count)), d, "what", true)
			}
		}
	}
	for name := range formWords {
		for _, line := range []string{" " + name, "  " + name + " a", name + "x a", "x" + name + " a", strings.ToUpper(name) + " a", name + "\t a", name[1:] + " a", name[:len(name)-1] + " a"} {
			expect(t, fmt.Sprintf("%q", line), deskCommand(d, line), d, "what", true)
		}
		// A tab separates no words, but a word can have it.
		expect(t, name+" with a tab", deskCommand(d, name+"\ta"), d, "what", true)
		expect(t, name+" with blanks", deskCommand(d, strings.Repeat(" ", len(formWords[name]))+name), d, "what", true)
	}
}

func TestEmptyWords(t *testing.T) {
	d := desk(fullDesk)
	for count := range 10 {
		expect(t, "blanks alone", deskCommand(d, strings.Repeat(" ", count)), d, "what", true)
	}
	for _, line := range goodLines {
		words := strings.Split(line, " ")
		for i := range words {
			others := slices.Clone(words)
			others[i] = ""
			want := "no"
			if i == 0 {
				want = "what"
			}
			empty := strings.Join(others, " ")
			expect(t, fmt.Sprintf("%q", empty), deskCommand(d, empty), d, want, true)
			checkLine(t, d, empty)
		}
		allEmpty := words[0] + strings.Repeat(" ", len(words)-1)
		expect(t, fmt.Sprintf("%q", allEmpty), deskCommand(d, allEmpty), d, "no", true)
		expect(t, "a blank more", deskCommand(d, allEmpty+" "), d, "what", true)
		expect(t, "a blank less", deskCommand(d, allEmpty[:len(allEmpty)-1]), d, "what", true)
	}
}

func TestWordsThatAreNoNames(t *testing.T) {
	for _, d := range []impl.Desk{desk("a=# b=.#"), desk(""), desk(fullDesk)} {
		for _, word := range []string{
			"Q", "A", "1", "a1", "0", "-1", "abcdefghi", "aaaaaaaaaaaaaaaaaaaaaaaaa", "a.", "a,b", "a\n", "\na", "\n", "a\r", "\r", "\ta", "a\t", "é", "\xff", "\x00", "#", "../##", "_", "`", "{", "a-b", "á", "ａ",
		} {
			for _, line := range goodLines {
				words := strings.Split(line, " ")
				for i, kind := range formWords[words[0]] {
					if kind != 'w' && kind != 'p' {
						continue
					}
					others := slices.Clone(words)
					others[i+1] = word
					strange := strings.Join(others, " ")
					expect(t, fmt.Sprintf("%q", strange), deskCommand(d, strange), d, "no", true)
				}
			}
		}
	}
}

func TestNamesWithoutPicture(t *testing.T) {
	d := desk(fullDesk)
	for _, word := range []string{"e", "eeeeeee", "aa", "y", "zz", "f", "abcdefgh", "set", "ok", "none", "name"} {
		for _, line := range goodLines {
			words := strings.Split(line, " ")
			for i, kind := range formWords[words[0]] {
				if kind != 'p' {
					continue
				}
				others := slices.Clone(words)
				others[i+1] = word
				expect(t, strings.Join(others, " "), deskCommand(d, strings.Join(others, " ")), d, "no", true)
			}
		}
	}
	// NEW has no picture yet where its line begins.
	for _, line := range []string{"invert n n", "thin n n", "fill n n", "turn n n 0", "open n n 1", "close n n 1", "grow n n 1", "keep n n 1", "shift n n 0 0", "join n n n 0", "join n a n 0", "join n n a 0"} {
		expect(t, line, deskCommand(desk("a=#"), line), desk("a=#"), "no", true)
	}
}

func TestWordsThatAreNoNumbers(t *testing.T) {
	d := desk("a=##/#. b=.#/#.")
	lines := []string{"turn c a %", "open c a %", "close c a %", "grow c a %", "keep c a %", "shift c a % 0", "shift c a 0 %", "join c a b %"}
	for _, line := range lines {
		good := strings.ReplaceAll(line, "%", "1")
		if output := checkLine(t, d, good); output != "ok" {
			t.Errorf("%s outputs %s", good, output)
		}
		for _, word := range []string{
			"", "x", "a", "01", "00", "+1", "-0", "1.0", "1,0", "1e0", "0x1", "1x", "x1", "--1", "-", "one", "١", "１", "1\n", "\n1", "1\t", "\x001", "1\xff", "1_0", "1000000001", "-1000000001",
			"9223372036854775807", "9223372036854775808", "18446744073709551617", "4294967297", "#", "none",
		} {
			strange := strings.ReplaceAll(line, "%", word)
			expect(t, fmt.Sprintf("%q", strange), deskCommand(d, strange), d, "no", true)
		}
	}
}

func TestNewNames(t *testing.T) {
	full := desk(fullDesk)
	for _, line := range goodLines {
		words := strings.Split(line, " ")
		if formWords[words[0]][0] != 'w' {
			continue
		}
		for _, name := range []string{"aa", "f", "y", "zz", "abcdefgh", "eeeeeee"} {
			words[1] = name
			expect(t, "one more", deskCommand(full, strings.Join(words, " ")), full, "no", true)
		}
		for _, name := range full.Names {
			words[1] = name
			if output := checkLine(t, full, strings.Join(words, " ")); output != "ok" {
				t.Errorf("%v outputs %s", words, output)
			}
		}
		// There is room again when one of the pictures is gone.
		words[1] = "new"
		rest, _, _ := impl.DeskCommand(full, "drop a")
		if output := checkLine(t, rest, strings.Join(words, " ")); output != "ok" {
			t.Errorf("%v outputs %s at a desk of 5 pictures", words, output)
		}
		for count := range 7 {
			few := impl.Desk{Names: full.Names[6-count:], Pictures: full.Pictures[6-count:]}
			checkLine(t, few, strings.Join(words, " "))
		}
	}
	for _, line := range []string{"set n x", "set n ", "set A #", "set a ", "set a #/##", "set a #x", "set a " + strings.Repeat("#", 17)} {
		expect(t, line, deskCommand(full, line), full, "no", true)
	}
}

func TestTextsOfPictures(t *testing.T) {
	for _, p := range append(samplePictures(), badPictures()...) {
		text := strings.Join(p.Rows, "/")
		if strings.Contains(text, " ") {
			continue
		}
		_, ok := impl.ReadPicture(text)
		for _, d := range []impl.Desk{desk(""), desk("a=# b=. d=..")} {
			output := checkLine(t, d, "set c "+text)
			if ok != (output == "ok") {
				t.Fatalf("set c %q outputs %s", text, output)
			}
			if !ok {
				continue
			}
			after, _, _ := impl.DeskCommand(d, "set c "+text)
			expect(t, "show c", deskCommand(after, "show c"), after, text, true)
		}
	}
}

// deskWord returns a word that is often one of its kind.
func (n *noise) deskWord(kind rune) string {
	if n.below(60) == 0 {
		return []string{"", "x", "Q", "a1", "#", "0", "-1", "7", "abcdefghi", "01", "\n", "é", "##/#.", "1,2/3,4"}[n.below(14)]
	}
	switch kind {
	case 'n':
		return fmt.Sprint(n.below(9) - 3)
	case 't':
		if n.below(2) == 0 {
			return textOf(n.grey(1+n.below(3), 1+n.below(3), 1, 0, 5))
		}
		return strings.Join(n.picture(2+n.below(2), 2).Rows, "/")
	}
	return string("abcdefgh"[n.below(8)])
}

// deskLine returns a line that often has one of the forms.
func (n *noise) deskLine() string {
	names := slices.Sorted(maps.Keys(formWords))
	// The first ones fill the desk.
	names = append(names, "set", "set", "set", "set", "set", "set", "join", "join")
	words := []string{names[n.below(int64(len(names)))]}
	for _, kind := range formWords[words[0]] {
		words = append(words, n.deskWord(kind))
	}
	switch n.below(30) {
	case 0:
		words = words[:n.below(int64(len(words)))]
	case 1:
		words = slices.Insert(words, int(n.below(int64(len(words)+1))), n.deskWord('t'))
	}
	return strings.Join(words, " ")
}

func TestScriptsDoWhatTheirLinesDo(t *testing.T) {
	source := noise(120)
	outputs := map[string]int{}
	full := 0
	for range 300 {
		d := desk("a=##/#. b=.#/##")
		want := shelfOf(d)
		step := d
		var script, told strings.Builder
		for range source.below(60) {
			line := strings.ReplaceAll(source.deskLine(), "\n", "")
			if script.Len()+len(line)+1 > impl.MaxScript {
				break
			}
			script.WriteString(line + "\n")
			var output string
			want, output = want.carriedOut(line)
			after, gotOutput, ok := impl.DeskCommand(step, line)
			expect(t, fmt.Sprintf("DeskCommand %s: %q", textOfDesk(step), line), results(after, gotOutput, ok), want.desk(), output, true)
			step = after
			told.WriteString(output + "\n")
			outputs[output]++
			if len(want) == impl.MaxNamed {
				full++
			}
			if !impl.ValidDesk(after) {
				t.Fatalf("the desk behind %q is not valid", line)
			}
		}
		expect(t, fmt.Sprintf("RunDesk %q", script.String()), runDesk(d, script.String()), want.desk(), told.String(), true)
	}
	if outputs["ok"] < 1000 || outputs["no"] < 500 || outputs["what"] < 100 || full < 500 || len(outputs) < 50 {
		t.Errorf("%d different outputs, ok %d, no %d, what %d, full %d", len(outputs), outputs["ok"], outputs["no"], outputs["what"], full)
	}
}

func TestScriptsInParts(t *testing.T) {
	source := noise(121)
	for range 100 {
		var lines []string
		for range 12 {
			lines = append(lines, strings.ReplaceAll(source.deskLine(), "\n", "")+"\n")
		}
		whole, outputs, ok := impl.RunDesk(desk("a=#"), strings.Join(lines, ""))
		for i := range len(lines) + 1 {
			first, firstOutputs, firstOK := impl.RunDesk(desk("a=#"), strings.Join(lines[:i], ""))
			second, secondOutputs, secondOK := impl.RunDesk(first, strings.Join(lines[i:], ""))
			expect(t, "two parts of a script", results(second, firstOutputs+secondOutputs, firstOK && secondOK), whole, outputs, ok)
		}
	}
}

func TestRunDeskByHand(t *testing.T) {
	tests := []struct{ desk, script, output, after string }{
		{"", "", "", ""},
		{"a=#", "", "", "a=#"},
		{fullDesk, "", "", fullDesk},
		{"a=#", "\n", "what\n", "a=#"},
		{"a=#", "\n\n\n", "what\nwhat\nwhat\n", "a=#"},
		{"a=#", " \n", "what\n", "a=#"},
		{"a=#", "show a\n", "#\n", "a=#"},
		{"a=#", "\nshow a\n\n", "what\n#\nwhat\n", "a=#"},
		{"a=#", "show a\r\n", "no\n", "a=#"},
		{"a=#", "show a\r\nshow a\n", "no\n#\n", "a=#"},
		{"a=#", "drop a\nshow a\ndrop a\n", "ok\nno\nno\n", ""},
		{"a=# b=.", "drop a\nset a ##\njoin c a b 0\n", "ok\nok\nno\n", "a=## b=."},
		{"", "set b #\nset a .\nset b ..\nshow b\nshow a\n", "ok\nok\nok\n..\n.\n", "a=. b=.."},
		{"", "set a #\nset b #\nset c #\nset d #\nset e #\nset f #\nset g #\nset f .\ndrop c\nset g #\n", "ok\nok\nok\nok\nok\nok\nno\nok\nok\nok\n", "a=# b=# d=# e=# f=. g=#"},
		{"a=#.", "invert a a\ninvert a a\ninvert b a\n", "ok\nok\nok\n", "a=#. b=.#"},
		{"a=###/#.#/###", "fill b a\ninvert a a\nshow b\n", "ok\nok\n###/###/###\n", "a=.../.#./... b=###/###/###"},
		{"a=#", "x\nset A #\nset a\nset a x\nturn a a 9\n", "what\nno\nwhat\nno\nno\n", "a=#"},
	}
	for _, test := range tests {
		expect(t, fmt.Sprintf("RunDesk %q %q", test.desk, test.script), runDesk(desk(test.desk), test.script), desk(test.after), test.output, true)
	}
}

func TestScriptsMustEndWithANewline(t *testing.T) {
	for _, d := range []impl.Desk{desk(""), desk("a=#"), desk(fullDesk)} {
		for _, script := range []string{"x", " ", "show a", "\nshow a", "show a\nshow a", "show a\n ", "show a\n\n\r", "\n\n\nx", "set a #\ndrop a", "a\n\x00", "\r", "show a\r", "show a\\n", "\u2028", "show a\n\v"} {
			expectFailure(t, fmt.Sprintf("RunDesk %q", script), runDesk(d, script))
			if _, _, ok := impl.RunDesk(d, script+"\n"); !ok {
				t.Errorf("RunDesk fails for %q and a newline", script)
			}
		}
	}
}

func TestLongScripts(t *testing.T) {
	d := desk("a=#./##")
	for _, line := range []string{"\n", "x\n", "show a\n", "invert a a\n", "set b " + strings.Repeat(strings.Repeat("#", 16)+"/", 15) + strings.Repeat("#", 16) + "\n", strings.Repeat("long ", 600) + "\n", strings.Repeat("x", 5999) + "\n"} {
		count := impl.MaxScript / len(line)
		script := strings.Repeat(line, count)
		// The first line gets what there is left.
		script = strings.Repeat("y", impl.MaxScript-len(script)) + script
		if len(script) != impl.MaxScript {
			t.Fatalf("%d bytes", len(script))
		}
		want := shelfOf(d)
		var outputs strings.Builder
		for _, one := range strings.Split(strings.TrimSuffix(script, "\n"), "\n") {
			var output string
			want, output = want.carriedOut(one)
			outputs.WriteString(output + "\n")
		}
		expect(t, "RunDesk of the longest script", runDesk(d, script), want.desk(), outputs.String(), true)
		expectFailure(t, "RunDesk of a byte more in front", runDesk(d, "y"+script))
		expectFailure(t, "RunDesk of a byte more behind", runDesk(d, script+"\n"))
		expectFailure(t, "RunDesk of no newline", runDesk(d, script[:len(script)-1]+"x"))
		expectFailure(t, "RunDesk of twice as much", runDesk(d, script+script))
	}
	// A line alone can have any length.
	long := strings.Repeat("x", 100000)
	expect(t, "a long word", deskCommand(d, long), d, "what", true)
	expect(t, "a long name", deskCommand(d, "show "+long), d, "no", true)
	expect(t, "a long text", deskCommand(d, "set b "+long), d, "no", true)
	// So have the outputs of a script.
	large := desk("a=" + strings.Repeat(strings.Repeat("#", 16)+"/", 15) + strings.Repeat(".", 16))
	text := textOfDesk(large)[len("a="):]
	expect(t, "long outputs", runDesk(large, strings.Repeat("show a\n", 857)), large, strings.Repeat(text+"\n", 857), true)
}

// checkAsDefined returns the check number of a text.
func checkAsDefined(start int64, s string) int64 {
	for _, b := range []byte(s) {
		start = (421*start + int64(b) + 19) % 65129
	}
	return start
}

func journalAsDefined(lines []string) string {
	journal := ""
	check := int64(0)
	for _, line := range lines {
		check = checkAsDefined(check, line)
		journal += fmt.Sprint(check) + " " + line + "\n"
	}
	return journal
}

// recoveredAsDefined tries all beginnings of a text that end with a newline.
func recoveredAsDefined(text string) ([]string, int) {
	var best []string
	length := 0
	for end := range len(text) {
		if text[end] != '\n' {
			continue
		}
		var lines []string
		for _, entry := range strings.Split(text[:end], "\n") {
			_, line, _ := strings.Cut(entry, " ")
			lines = append(lines, line)
		}
		if journalAsDefined(lines) == text[:end+1] {
			best, length = lines, end+1
		}
	}
	return best, length
}

// checkRecovered compares RecoverJournal with its definition, and returns how many lines there are.
func checkRecovered(t *testing.T, text string) int {
	t.Helper()
	lines, length := recoveredAsDefined(text)
	expect(t, fmt.Sprintf("RecoverJournal %q", text), recoverJournal(text), lines, length, true)
	return len(lines)
}

func TestJournalsByHand(t *testing.T) {
	tests := []struct {
		lines []string
		want  string
	}{
		{nil, ""}, {[]string{}, ""}, {[]string{""}, "0 \n"}, {[]string{"", ""}, "0 \n0 \n"}, {[]string{"a"}, "116 a\n"}, {[]string{"b"}, "117 b\n"}, {[]string{" "}, "51  \n"},
		{[]string{"a", ""}, "116 a\n116 \n"}, {[]string{"", "a"}, "0 \n116 a\n"}, {[]string{"a", "a"}, "116 a\n48952 a\n"}, {[]string{"a", "a", "a"}, "116 a\n48952 a\n28144 a\n"},
		{[]string{"a", "b"}, "116 a\n48953 b\n"}, {[]string{"ab"}, "48953 ab\n"}, {[]string{"a", "", "b"}, "116 a\n116 \n48953 b\n"},
		{[]string{"\r"}, "32 \r\n"}, {[]string{"\x00"}, "19 \x00\n"}, {[]string{"\xff"}, "274 \xff\n"},
	}
	for _, test := range tests {
		expect(t, fmt.Sprintf("JournalOf %q", test.lines), results(impl.JournalOf(test.lines)), test.want, true)
		expect(t, fmt.Sprintf("RecoverJournal %q", test.want), recoverJournal(test.want), test.lines, len(test.want), true)
		expect(t, "definition", results(journalAsDefined(test.lines)), test.want)
	}
}

// sampleLines returns lists of lines whose journals are short.
func sampleLines() [][]string {
	lists := [][]string{
		nil, {""}, {"", "", ""}, {"a"}, {"a", ""}, {"", "a"}, {" "}, {" ", "  ", ""}, {"116 a"}, {"116 a", "116 a"}, {"0 ", "0"}, {"\r", "\t", "\x00", "\xff"}, {"é", "#♯"},
		{"set a ###/#.#/###", "euler a", "code a", "fill b a", "black b"}, {"show a", "", "show b ", " show c", "what", ""}, {"x", "x", "x", "x", "x", "x", "x", "x"},
		{"1", "12", "123", "1234", "12345"}, {"-1", "+1", "01"}, {strings.Repeat("long", 30)},
		// The check number becomes 0.
		{zeroText()}, {zeroText(), "", "a"}, {"a", zeroText()},
	}
	source := noise(122)
	for range 20 {
		var lines []string
		for range source.below(6) {
			lines = append(lines, strings.ReplaceAll(source.deskLine(), "\n", ""))
		}
		lists = append(lists, lines)
	}
	return lists
}

// zeroText returns a text that is not empty, and whose check number is 0.
func zeroText() string {
	for n := range 1 << 24 {
		text := fmt.Sprint(n)
		if checkAsDefined(0, text) == 0 {
			return text
		}
	}
	return ""
}

func TestJournalsComeBack(t *testing.T) {
	for _, lines := range sampleLines() {
		want := journalAsDefined(lines)
		expect(t, fmt.Sprintf("JournalOf %q", lines), results(impl.JournalOf(lines)), want, true)
		expect(t, fmt.Sprintf("RecoverJournal %q", want), recoverJournal(want), lines, len(want), true)
	}
}

func TestJournalsThatAreCut(t *testing.T) {
	for _, lines := range sampleLines() {
		journal := journalAsDefined(lines)
		for end := range len(journal) + 1 {
			intact := strings.Count(journal[:end], "\n")
			length := strings.LastIndex(journal[:end], "\n") + 1
			expect(t, fmt.Sprintf("RecoverJournal %q", journal[:end]), recoverJournal(journal[:end]), lines[:intact], length, true)
			checkRecovered(t, journal[:end])
			checkRecovered(t, journal[end:])
		}
	}
}

func TestJournalsWithAnotherByte(t *testing.T) {
	kept, longer := 0, 0
	for _, lines := range sampleLines() {
		journal := journalAsDefined(lines)
		if len(journal) > 150 {
			journal = journal[:150]
		}
		for i := range journal {
			before := strings.Count(journal[:i], "\n")
			for n := range 256 {
				if byte(n) == journal[i] {
					continue
				}
				other := journal[:i] + string([]byte{byte(n)}) + journal[i+1:]
				got := checkRecovered(t, other)
				if got < before {
					t.Fatalf("%d lines of %q", got, other)
				}
				if got > before {
					longer++
				}
				kept++
			}
		}
	}
	// The line with another byte is hardly ever intact again.
	if kept < 100000 || longer > kept/1000 {
		t.Errorf("%d changes, behind %d of which the line is intact", kept, longer)
	}
}

func TestJournalsWithMoreOrFewerBytes(t *testing.T) {
	for _, lines := range sampleLines() {
		journal := journalAsDefined(lines)
		for i := range len(journal) + 1 {
			for _, more := range []string{"0", "1", " ", "\n", "a", "\r", "-", "\x00", "116 a\n", "0 \n"} {
				checkRecovered(t, journal[:i]+more+journal[i:])
			}
			if i < len(journal) {
				checkRecovered(t, journal[:i]+journal[i+1:])
			}
		}
	}
}

func TestJournalsWithMoreBehindTheirEnd(t *testing.T) {
	for _, lines := range sampleLines() {
		journal := journalAsDefined(lines)
		check := int64(0)
		for _, line := range lines {
			check = checkAsDefined(check, line)
		}
		right, wrong := fmt.Sprint(check), fmt.Sprint((check+1)%65129)
		for _, more := range []string{"x", "xx\n", "\n", "\n\n", " ", " \n", right, right + " ", right + "\n", right + "\n ", wrong + " \n", "0" + right + " \n", "+" + right + " \n", "-" + right + " \n", " " + right + " \n", right + "  \n", "x" + right + " \n", right + "\t\n", right + " \r", right + "0 \n"} {
			expect(t, fmt.Sprintf("RecoverJournal %q", journal+more), recoverJournal(journal+more), lines, len(journal), true)
			checkRecovered(t, journal+more)
		}
		// An empty line does not change the check number.
		expect(t, "RecoverJournal of one line more", recoverJournal(journal+right+" \nxx"), append(slices.Clone(lines), ""), len(journal)+len(right)+2, true)
	}
}

func TestTextsThatAreNoJournals(t *testing.T) {
	for _, text := range []string{"", "\n", "x", "x\n", " \n", "0\n", "0 ", "00 \n", "-0 \n", "115 a\n", "116 a", "116a\n", "116  a\n", "117 a\n", " 116 a\n", "116 a\r\n", "0116 a\n", "1e2 \n", "65129 \n", "65245 a\n", "\n116 a\n"} {
		expect(t, fmt.Sprintf("RecoverJournal %q", text), recoverJournal(text), []string(nil), 0, true)
		checkRecovered(t, text)
	}
}

func TestLinesWithNewlinesFail(t *testing.T) {
	for _, lines := range [][]string{{"a\nb"}, {"\n"}, {"a\n"}, {"\na"}, {"a", "b\n"}, {"a\n", "b"}, {"", "\n", ""}, {"a", "b", "c\nd"}, {"a\r\n"}, {"0 \n"}} {
		expectFailure(t, fmt.Sprintf("JournalOf %q", lines), results(impl.JournalOf(lines)))
	}
	for n := range 256 {
		line := "a" + string([]byte{byte(n)}) + "b"
		if n == '\n' {
			continue
		}
		expect(t, fmt.Sprintf("JournalOf %q", line), results(impl.JournalOf([]string{line})), journalAsDefined([]string{line}), true)
		expect(t, fmt.Sprintf("RecoverJournal of %q", line), recoverJournal(journalAsDefined([]string{line})), []string{line}, len(journalAsDefined([]string{line})), true)
	}
}

func TestLongJournals(t *testing.T) {
	for _, list := range [][]string{{}, {"a", "b"}, {"", "", ""}, slices.Repeat([]string{""}, 1900), slices.Repeat([]string{"show a"}, 400), slices.Repeat([]string{"x"}, 700)} {
		// The last line gets what there is left; its check number has up to five digits.
		space := impl.MaxScript - len(journalAsDefined(list)) - len(" \n")
		reached := false
		for digits := 1; digits <= 5; digits++ {
			lines := append(slices.Clone(list), strings.Repeat("y", space-digits))
			journal := journalAsDefined(lines)
			got := results(impl.JournalOf(lines))
			if len(journal) > impl.MaxScript {
				expectFailure(t, fmt.Sprint("JournalOf ", len(journal), " bytes"), got)
				expectFailure(t, fmt.Sprint("RecoverJournal ", len(journal), " bytes"), recoverJournal(journal))
				continue
			}
			reached = reached || len(journal) == impl.MaxScript
			expect(t, fmt.Sprint("JournalOf ", len(journal), " bytes"), got, journal, true)
			expect(t, fmt.Sprint("RecoverJournal ", len(journal), " bytes"), recoverJournal(journal), lines, len(journal), true)
		}
		if !reached {
			t.Errorf("no journal behind %d lines has as many bytes as are allowed", len(list))
		}
	}
	// 2000 lines of 3 bytes each, and one more.
	most := slices.Repeat([]string{""}, 2000)
	expect(t, "JournalOf the most lines", results(impl.JournalOf(most)), strings.Repeat("0 \n", 2000), true)
	expect(t, "RecoverJournal of the most lines", recoverJournal(strings.Repeat("0 \n", 2000)), most, 6000, true)
	expectFailure(t, "JournalOf one line more", results(impl.JournalOf(append(most, ""))))
	expectFailure(t, "RecoverJournal of one line more", recoverJournal(strings.Repeat("0 \n", 2001)))
	for _, text := range []string{strings.Repeat("x", 6000), strings.Repeat("\n", 6000), strings.Repeat(" ", 6000)} {
		expect(t, "RecoverJournal of the longest text", recoverJournal(text), []string(nil), 0, true)
		expectFailure(t, "RecoverJournal of a longer text", recoverJournal(text+"x"))
	}
	expect(t, "RecoverJournal of a journal and more", recoverJournal("116 a\n"+strings.Repeat("x", 5994)), []string{"a"}, 6, true)
	expectFailure(t, "RecoverJournal of a journal and too much", recoverJournal("116 a\n"+strings.Repeat("x", 5995)))
}

func TestADeskIsRecoveredFromItsJournal(t *testing.T) {
	source := noise(123)
	for range 50 {
		var lines []string
		for range 20 {
			lines = append(lines, strings.ReplaceAll(source.deskLine(), "\n", ""))
		}
		journal, ok := impl.JournalOf(lines)
		expect(t, "JournalOf", results(journal, ok), journalAsDefined(lines), true)
		got, _, _ := impl.RecoverJournal(journal[:source.below(int64(len(journal)+1))])
		first, _, _ := impl.RunDesk(impl.Desk{}, strings.Join(append(got, ""), "\n"))
		rest := lines[len(got):]
		second, _, _ := impl.RunDesk(first, strings.Join(append(slices.Clone(rest), ""), "\n"))
		whole, _, _ := impl.RunDesk(impl.Desk{}, strings.Join(append(slices.Clone(lines), ""), "\n"))
		expect(t, "the desk", results(second), whole)
	}
}
