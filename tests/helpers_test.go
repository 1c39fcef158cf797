package tests

import (
	"reflect"
	"slices"
	"strings"
	"testing"

	"loop.example/g01165/impl"
)

const (
	leastInt    = -1 << 63
	greatestInt = 1<<63 - 1
)

// results collects the results of a call.
func results(list ...any) []any { return list }

// expect compares results, in which a nil slice and an empty one are the same.
func expect(t *testing.T, what string, got []any, want ...any) {
	t.Helper()
	if len(got) != len(want) {
		t.Fatalf("%s: got %d results, want %d", what, len(got), len(want))
	}
	for i := range got {
		if !same(got[i], want[i]) {
			t.Errorf("%s: result %d: got %#v, want %#v", what, i, got[i], want[i])
		}
	}
}

func same(a, b any) bool {
	if n, ok := b.(int); ok {
		b = int64(n)
	}
	if p, ok := a.(impl.Picture); ok {
		q, ok := b.(impl.Picture)
		return ok && same(p.Rows, q.Rows)
	}
	if e, ok := a.(impl.Element); ok {
		f, ok := b.(impl.Element)
		return ok && same(e.Offsets, f.Offsets)
	}
	if g, ok := a.(impl.Grey); ok {
		h, ok := b.(impl.Grey)
		return ok && same(g.Rows, h.Rows)
	}
	if t, ok := a.(impl.GreyTree); ok {
		u, ok := b.(impl.GreyTree)
		return ok && same(t.Levels, u.Levels) && same(t.Parents, u.Parents) && same(t.Areas, u.Areas) && same(t.Nodes, u.Nodes)
	}
	if d, ok := a.(impl.Desk); ok {
		e, ok := b.(impl.Desk)
		return ok && same(d.Names, e.Names) && slices.EqualFunc(d.Pictures, e.Pictures, func(p, q impl.Picture) bool { return same(p, q) })
	}
	x, y := reflect.ValueOf(a), reflect.ValueOf(b)
	if x.Kind() == reflect.Slice && y.Kind() == reflect.Slice && x.Type() == y.Type() && x.Len() == 0 {
		return y.Len() == 0
	}
	return reflect.DeepEqual(a, b)
}

// expectFailure requires a call that ends with a bool to fail, with zero values as its other results.
func expectFailure(t *testing.T, what string, got []any) {
	t.Helper()
	for i, v := range got {
		if !same(v, reflect.Zero(reflect.TypeOf(v)).Interface()) {
			t.Errorf("%s: result %d of a call that must fail: got %#v", what, i, v)
		}
	}
}

// drawn returns the picture with the given text, without the program's help.
func drawn(text string) impl.Picture {
	return impl.Picture{Rows: strings.Split(text, "/")}
}

// withSpareRows returns a picture with the same rows, and with rows behind them in the capacity of the slice.
func withSpareRows(p impl.Picture) impl.Picture {
	rows := append(append([]string{}, p.Rows...), "spare", "#")
	return impl.Picture{Rows: rows[:len(p.Rows)]}
}

// noise is a row of numbers that look arbitrary but are always the same.
type noise uint64

func (n *noise) below(limit int64) int64 {
	*n = *n*6364136223846793005 + 1442695040888963407
	return int64(uint64(*n)>>33) % limit
}

func (n *noise) picture(width, height int64) impl.Picture {
	rows := make([]string, height)
	for y := range rows {
		row := make([]byte, width)
		for x := range row {
			row[x] = "#."[n.below(2)]
		}
		rows[y] = string(row)
	}
	return impl.Picture{Rows: rows}
}

// allPictures returns every picture with a width and a height.
func allPictures(width, height int) []impl.Picture {
	var list []impl.Picture
	for code := range 1 << (width * height) {
		rows := make([]string, height)
		for y := range rows {
			row := make([]byte, width)
			for x := range row {
				row[x] = "#."[code>>(y*width+x)&1]
			}
			rows[y] = string(row)
		}
		list = append(list, impl.Picture{Rows: rows})
	}
	return list
}

// samplePictures returns all pictures with sides up to 3, and one of each size up to MaxSide,
// all black and all white ones of the extreme sizes among the others.
func samplePictures() []impl.Picture {
	var list []impl.Picture
	for width := 1; width <= 3; width++ {
		for height := 1; height <= 3; height++ {
			list = append(list, allPictures(width, height)...)
		}
	}
	source := noise(1)
	for width := int64(1); width <= impl.MaxSide; width++ {
		for height := int64(1); height <= impl.MaxSide; height++ {
			list = append(list, source.picture(width, height))
		}
	}
	for _, colour := range []string{"#", "."} {
		long := strings.Repeat(colour, impl.MaxSide)
		list = append(list, drawn(long), drawn(strings.Repeat(colour+"/", impl.MaxSide-1)+colour))
		list = append(list, drawn(strings.Repeat(long+"/", impl.MaxSide-1)+long))
	}
	return list
}

// fewPictures returns pictures for tests that try many other arguments with each of them.
func fewPictures() []impl.Picture {
	source := noise(2)
	list := []impl.Picture{drawn("#"), drawn("."), drawn("#../##."), drawn("#.#"), drawn("#/./#"), drawn("..../....")}
	for _, size := range [][2]int64{{5, 3}, {3, 5}, {16, 1}, {1, 16}, {16, 16}, {15, 16}, {7, 7}} {
		list = append(list, source.picture(size[0], size[1]))
	}
	return list
}

// badPictures returns values that are no pictures.
func badPictures() []impl.Picture {
	long := strings.Repeat("#", impl.MaxSide+1)
	list := []impl.Picture{{}, {Rows: []string{}}, {Rows: []string{"#", ""}}, {Rows: []string{"", "#"}}, {Rows: []string{"", ""}}}
	texts := []string{
		"", long, long + "/" + long, strings.Repeat("#/", impl.MaxSide) + "#",
		"##/#", "#/##", "##/##/#", "##/#/##", "x", "#x", "x#", "# ", "#\n", "#\x00", "\xff", "#\xc3", "é", "#/é", "/é", "♯",
		strings.Repeat(".", impl.MaxSide-1) + "é",
	}
	for _, text := range texts {
		list = append(list, drawn(text))
	}
	return append(list, impl.Picture{Rows: []string{"#/#"}}, impl.Picture{Rows: []string{"#/."}}, impl.Picture{Rows: []string{"/"}})
}
