package tests

import (
	"fmt"
	"reflect"
	"runtime"
	"slices"
	"strings"
	"sync"
	"testing"
	"time"

	"loop.example/g01165/impl"
)

// The tests in this file are those of promise 1 for chapter 11: every function returns for all
// arguments, modifies none of them, and returns equal results, in new memory, for equal arguments.

// deskCall calls a function with a desk.
type deskCall struct {
	name string
	of   func(d impl.Desk) []any
}

// deskCalls returns calls with lines that change a desk, that tell something, and that do nothing.
func deskCalls() []deskCall {
	calls := []deskCall{{"ValidDesk", func(d impl.Desk) []any { return results(impl.ValidDesk(d)) }}}
	lines := append(slices.Clone(goodLines), "", " ", "fly", "show", "show ", "show q", "set Q #", "set q #", "set a x", "tree z", "turn a a 9", "drop q")
	for _, line := range lines {
		calls = append(calls, deskCall{"DeskCommand " + line, func(d impl.Desk) []any { return deskCommand(d, line) }})
		calls = append(calls, deskCall{"RunDesk " + line, func(d impl.Desk) []any { return runDesk(d, line+"\n") }})
	}
	for _, script := range []string{"", "\n", "drop a\ndrop b\n", "show a", "x", strings.Join(goodLines, "\n") + "\n", strings.Repeat("x\n", 3001)} {
		calls = append(calls, deskCall{fmt.Sprintf("RunDesk %.20q", script), func(d impl.Desk) []any { return runDesk(d, script) }})
	}
	return calls
}

// badDesks returns values that are no valid desks.
func badDesks() []impl.Desk {
	full := desk(fullDesk)
	list := []impl.Desk{
		{Names: []string{"a"}}, {Pictures: drawnAll("#")}, {Names: []string{"a", "b"}, Pictures: drawnAll("#")}, {Names: []string{"a"}, Pictures: drawnAll("#", "#")},
		{Names: full.Names, Pictures: full.Pictures[:5]}, {Names: full.Names[:5], Pictures: full.Pictures}, {Names: full.Names}, {Pictures: full.Pictures},
		{Names: append(slices.Clone(full.Names), "zz"), Pictures: append(slices.Clone(full.Pictures), drawn("#"))},
		{Names: append(slices.Clone(full.Names), "zz"), Pictures: full.Pictures}, {Names: full.Names, Pictures: append(slices.Clone(full.Pictures), drawn("#"))},
		{Names: []string{""}, Pictures: drawnAll("#")}, {Names: []string{"", "a"}, Pictures: drawnAll("#", "#")}, {Names: []string{"a", ""}, Pictures: drawnAll("#", "#")},
		{Names: []string{"a"}, Pictures: []impl.Picture{{}}}, {Names: []string{"a"}, Pictures: []impl.Picture{{Rows: []string{}}}},
	}
	for i := range full.Names {
		for _, name := range []string{"", "A", "a1", "abcdefghi", "a b", "é", "\xff", " ", "a\n"} {
			other := impl.Desk{Names: slices.Clone(full.Names), Pictures: full.Pictures}
			other.Names[i] = name
			list = append(list, other)
		}
		for j := range full.Names {
			if i == j {
				continue
			}
			twice := impl.Desk{Names: slices.Clone(full.Names), Pictures: full.Pictures}
			twice.Names[i] = twice.Names[j]
			exchanged := impl.Desk{Names: slices.Clone(full.Names), Pictures: full.Pictures}
			exchanged.Names[i], exchanged.Names[j] = exchanged.Names[j], exchanged.Names[i]
			list = append(list, twice, exchanged)
		}
		for _, bad := range badPictures() {
			other := impl.Desk{Names: full.Names, Pictures: slices.Clone(full.Pictures)}
			other.Pictures[i] = bad
			list = append(list, other)
		}
	}
	return list
}

func TestNoDeskFails(t *testing.T) {
	for _, bad := range badDesks() {
		for _, call := range deskCalls() {
			expectFailure(t, fmt.Sprintf("%s %q %q", call.name, bad.Names, bad.Pictures), call.of(bad))
		}
	}
}

func TestDesksOfNoPicture(t *testing.T) {
	for _, d := range []impl.Desk{{}, {Names: []string{}}, {Pictures: []impl.Picture{}}, {Names: []string{}, Pictures: []impl.Picture{}}, {Names: desk(fullDesk).Names[:0], Pictures: desk(fullDesk).Pictures[:0]}} {
		expect(t, "ValidDesk", results(impl.ValidDesk(d)), true)
		expect(t, "DeskCommand", deskCommand(d, "set a ##"), desk("a=##"), "ok", true)
		for _, line := range []string{"show a", "drop a", "invert a a", "set a x", "show "} {
			expect(t, line, deskCommand(d, line), impl.Desk{}, "no", true)
		}
		expect(t, "RunDesk", runDesk(d, ""), impl.Desk{}, "", true)
		expect(t, "RunDesk", runDesk(d, "\n"), impl.Desk{}, "what\n", true)
		expect(t, "RunDesk", runDesk(d, "set b #\nshow b\n"), desk("b=#"), "ok\n#\n", true)
	}
}

// sparedDesk returns the same desk, with more in the capacity of all its slices.
func sparedDesk(d impl.Desk) impl.Desk {
	pictures := make([]impl.Picture, 0, len(d.Pictures)+3)
	for _, p := range d.Pictures {
		pictures = append(pictures, withSpareRows(p))
	}
	return impl.Desk{Names: withSpare(d.Names, "spare"), Pictures: withSpare(pictures, withSpareRows(drawn("..#")))}
}

// deskMemory returns a text of all memory that the slices of a desk have.
func deskMemory(d impl.Desk) string {
	var text strings.Builder
	fmt.Fprintf(&text, "%q", d.Names[:cap(d.Names)])
	for _, p := range d.Pictures[:cap(d.Pictures)] {
		fmt.Fprintf(&text, "%q", p.Rows[:cap(p.Rows)])
	}
	return text.String()
}

func TestChapter11ModifiesNoArgument(t *testing.T) {
	desks := append(badDesks(), desk(""), desk("a=#"), desk("z=#../##."), desk("a=# b=. z=#.#"), desk(fullDesk))
	for _, d := range desks {
		given := sparedDesk(d)
		before := deskMemory(given)
		for _, call := range deskCalls() {
			call.of(given)
			if deskMemory(given) != before {
				t.Fatalf("%s modifies %q", call.name, d)
			}
		}
	}
	for _, lines := range append(sampleLines(), []string{"a", "b\n", "c"}, slices.Repeat([]string{"a"}, 3000)) {
		checkUnmodified(t, "JournalOf", lines, "spare", func(lines []string) { impl.JournalOf(lines) })
	}
}

func TestChapter11ReturnsNewMemory(t *testing.T) {
	for _, d := range []impl.Desk{desk(""), desk("z=#../##."), desk("a=# b=. z=#.#"), desk(fullDesk)} {
		given := sparedDesk(d)
		before := deskMemory(given)
		for _, call := range deskCalls() {
			checkNewMemory(t, call.name+" "+textOfDesk(d), func() []any { return call.of(given) })
			if deskMemory(given) != before {
				t.Fatalf("the result of %s shares memory with its argument %q", call.name, d)
			}
		}
	}
	for _, lines := range sampleLines() {
		journal := journalAsDefined(lines)
		checkNewMemory(t, "RecoverJournal", func() []any { return recoverJournal(journal + "x") })
		checkNewMemory(t, "JournalOf", func() []any { return results(impl.JournalOf(lines)) })
	}
}

// checkDeskSharesNothing spoils the slices of a desk one after another, and requires the others to stay as they are.
func checkDeskSharesNothing(t *testing.T, what string, d impl.Desk) {
	t.Helper()
	text := textOfDesk(d)
	for i, p := range d.Pictures {
		kept := slices.Clone(p.Rows)
		spoil(p)
		copy(d.Pictures[i].Rows, kept)
		if textOfDesk(d) != text {
			t.Fatalf("%s: the picture %d shares memory", what, i)
		}
	}
}

func TestPicturesOfADeskShareNoMemory(t *testing.T) {
	p := drawn("##/#.")
	for _, d := range []impl.Desk{desk(fullDesk), {Names: []string{"a", "b", "z"}, Pictures: []impl.Picture{p, p, p}}} {
		lines := append(slices.Clone(goodLines), "", "show a", "shift a z 0 0", "join a z z 0", "join a z z 1", "turn a z 0", "open a z 1", "close a z 1", "grow a z 0", "keep a z 0", "thin a z", "fill a z", "set a ##/##")
		for _, line := range lines {
			after, _, _ := impl.DeskCommand(d, line)
			checkDeskSharesNothing(t, line, after)
			for _, second := range []string{"fill b a", "keep z a 0", "show a", "drop b"} {
				after, _, _ := impl.RunDesk(d, line+"\n"+second+"\n")
				checkDeskSharesNothing(t, line+", "+second, after)
			}
		}
	}
	expect(t, "the picture", results(p), drawn("##/#."))
}

func TestLinesThatChangeNothing(t *testing.T) {
	for _, text := range []string{"", "a=#", "a=.#/##", fullDesk} {
		d := desk(text)
		for _, line := range []string{"", " ", "fly", "show", "show q", "drop q", "set Q #", "set a x", "invert q q", "show a ", " show a", "water x", "water 1", "valleys 1", "SET a #", "set"} {
			after, output, ok := impl.DeskCommand(d, line)
			expect(t, fmt.Sprintf("%q", line), results(after, ok), d, true)
			expect(t, fmt.Sprintf("RunDesk %q", line), runDesk(d, line+"\n"), d, output+"\n", true)
			expect(t, fmt.Sprintf("RunDesk %q often", line), runDesk(d, strings.Repeat(line+"\n", 100)), d, strings.Repeat(output+"\n", 100), true)
		}
	}
	// These put the same picture in place of itself.
	for _, line := range []string{"set a ###", "fill a a", "thin a a", "keep a a 3", "shift a a 0 0", "join a a a 0", "open a a 1", "close a a 2", "turn a a 0", "grow a a 4"} {
		expect(t, line, deskCommand(desk("a=### b=."), line), desk("a=### b=."), "ok", true)
	}
}

func TestHugeArgumentsOfChapter11(t *testing.T) {
	d := desk("a=#")
	names, pictures := slices.Repeat([]string{"a"}, 1<<22), slices.Repeat(drawnAll("#"), 1<<22)
	for _, huge := range []impl.Desk{
		{Names: names, Pictures: pictures}, {Names: names}, {Pictures: pictures}, {Names: names[:1], Pictures: pictures}, {Names: names, Pictures: pictures[:1]},
		{Names: []string{strings.Repeat("a", 1<<24)}, Pictures: drawnAll("#")}, {Names: names[:1], Pictures: drawnAll(strings.Repeat("#", 1<<24))},
		{Names: names[:1], Pictures: []impl.Picture{{Rows: slices.Repeat([]string{"#"}, 1<<22)}}},
	} {
		expect(t, "ValidDesk", results(impl.ValidDesk(huge)), false)
		expectFailure(t, "DeskCommand", deskCommand(huge, "show a"))
		expectFailure(t, "RunDesk", runDesk(huge, ""))
	}
	for _, part := range []string{" ", "a", "a ", "show a\n", "\n", "0,", "#/", "\x00"} {
		long := strings.Repeat(part, 1<<22)
		for _, begin := range []string{"", "show ", "set a ", "set ", "water ", "valleys ", "turn a a ", "join a a a "} {
			_, output, ok := impl.DeskCommand(d, begin+long)
			if !ok || output != "no" && output != "what" {
				t.Errorf("DeskCommand of many %q behind %q: %q %t", part, begin, output, ok)
			}
			expectFailure(t, "RunDesk", runDesk(d, begin+long+"\n"))
		}
		expectFailure(t, "JournalOf", results(impl.JournalOf([]string{long})))
		expectFailure(t, "JournalOf", results(impl.JournalOf(slices.Repeat([]string{part}, 1<<22))))
		expectFailure(t, "RecoverJournal", recoverJournal(long))
	}
}

// damagedDesk returns a desk that often is not valid any more.
func (n *noise) damagedDesk(d impl.Desk) impl.Desk {
	names, pictures := slices.Clone(d.Names), slices.Clone(d.Pictures)
	i, j := int(n.below(int64(len(names)))), int(n.below(int64(len(names))))
	switch n.below(7) {
	case 0:
		names[i], names[j] = names[j], names[i]
	case 1:
		names[i] = []string{"", "b", "bb", "B", "y", "zz", "abcdefgh", "abcdefghi"}[n.below(8)]
	case 2:
		names = slices.Delete(names, i, i+1)
	case 3:
		pictures = slices.Delete(pictures, i, i+1)
	case 4:
		pictures[i] = n.damaged(pictures[i])
	case 5:
		names, pictures = slices.Delete(names, i, i+1), slices.Delete(pictures, j, j+1)
	}
	return impl.Desk{Names: names, Pictures: pictures}
}

// deskAsDefined reports whether a desk is valid.
func deskAsDefined(d impl.Desk) bool {
	if len(d.Names) > 6 || len(d.Names) != len(d.Pictures) || len(shelfOf(d)) != len(d.Names) || !slices.IsSorted(d.Names) {
		return false
	}
	for i, name := range d.Names {
		if !isLetters(name) || !impl.ValidPicture(d.Pictures[i]) {
			return false
		}
	}
	return true
}

func TestAnyDesksAreUsedTheSameWayTwice(t *testing.T) {
	source := noise(124)
	desks := []impl.Desk{desk(fullDesk), desk("a=#"), desk("a=#../##. b=.#./###/.#. c=##/.#"), desk("b=##/#. d=.#/#.")}
	valids := 0
	for range 4000 {
		d := source.damagedDesk(desks[source.below(4)])
		line := source.deskLine()
		script := line + "\n" + source.deskLine() + "\n" + source.deskLine()
		if source.below(3) > 0 {
			script += "\n"
		}
		journal := source.brokenText(journalAsDefined([]string{line, "a", ""}))
		calls := []func() []any{
			func() []any { return deskCommand(d, line) },
			func() []any { return runDesk(d, script) },
			func() []any { return results(impl.JournalOf([]string{"a", line})) },
			func() []any { return recoverJournal(journal) },
			func() []any { return results(impl.ValidDesk(d)) },
		}
		for i, call := range calls {
			first, second := call(), call()
			if !reflect.DeepEqual(first, second) {
				t.Fatalf("the call %d with %q, %q, %q, %q: got %v and %v", i, d, line, script, journal, first, second)
			}
			if !first[len(first)-1].(bool) {
				expectFailure(t, fmt.Sprintf("the call %d with %q, %q, %q", i, d, line, script), first)
			}
		}
		valid := deskAsDefined(d)
		_, _, commandOK := impl.DeskCommand(d, line)
		_, _, runOK := impl.RunDesk(d, script)
		_, journalOK := impl.JournalOf([]string{"a", line})
		what := fmt.Sprintf("%q %q %q", d, line, script)
		expect(t, what, results(impl.ValidDesk(d), commandOK, runOK, journalOK), valid, valid, valid && strings.HasSuffix(script, "\n"), !strings.Contains(line, "\n"))
		if valid {
			valids++
		}
		if lines := strings.Count(journal, "\n"); lines < 5 {
			checkRecovered(t, journal)
		}
	}
	if valids < 1000 || valids > 3000 {
		t.Errorf("%d of 4000 desks are valid", valids)
	}
}

// brokenText returns a text that often differs in a few bytes.
func (n *noise) brokenText(text string) string {
	bytes := []byte(text)
	for range n.below(3) {
		i := n.below(int64(len(bytes)))
		switch n.below(3) {
		case 0:
			bytes[i] = "0 1a\n\x00\xff"[n.below(7)]
		case 1:
			bytes = bytes[:i+1]
		case 2:
			bytes = slices.Insert(bytes, int(i), "0 1a\n\x00\xff"[n.below(7)])
		}
	}
	return string(bytes)
}

func TestScriptsAtTheSameTime(t *testing.T) {
	source := noise(125)
	for range 20 {
		d := desk(fullDesk)
		var script strings.Builder
		for range 40 {
			script.WriteString(strings.ReplaceAll(source.deskLine(), "\n", "") + "\n")
		}
		want := runDesk(d, script.String())
		got := make([][]any, 30)
		var runs sync.WaitGroup
		for i := range got {
			runs.Go(func() { got[i] = runDesk(d, script.String()) })
		}
		runs.Wait()
		for _, one := range got {
			expect(t, fmt.Sprintf("RunDesk %q", script.String()), one, want...)
		}
	}
}

func TestNothingRunsBehindAScript(t *testing.T) {
	before := runtime.NumGoroutine()
	for range 1000 {
		impl.RunDesk(desk("a=#"), "show a\n\nset a x\ndrop a\nshow a\n")
		impl.RunDesk(desk("a=#"), "")
		impl.RunDesk(desk("a=#"), "show a")
		impl.RunDesk(desk("a=x"), "show a\n")
	}
	// A goroutine that has been joined may still need a moment to be gone.
	for range 100 {
		if runtime.NumGoroutine() <= before {
			return
		}
		time.Sleep(10 * time.Millisecond)
	}
	t.Errorf("%d goroutines instead of %d", runtime.NumGoroutine(), before)
}
