package impl

import (
	"bytes"
	"errors"
	"math/bits"
	"strconv"
	"strings"
)

// Limits of chapter 1.
const (
	MaxSide   = 16
	MaxValue  = 1000000000
	MaxItems  = 300
	CheckSize = 65129
)

// The runes of the text of a picture.
const (
	blackPixel = '#'
	whitePixel = '.'
	rowEnd     = '/'
)

const (
	maxNameLength = 8
	emptyListText = "none"
)

// The numbers of which a check number is made.
const (
	checkFactor = 421
	checkStep   = 19
)

// Picture has rows of black and white pixels.
type Picture struct {
	Rows []string
}

// Spot is the place of a pixel.
type Spot struct {
	X int64
	Y int64
}

// operation says which pixels JoinPictures makes black.
type operation int64

const (
	inBoth operation = iota
	inEither
	inJustOne
	inFirstOnly
)

// String returns the name of an operation, or "" if there is no such operation.
func (o operation) String() string {
	switch o {
	case inBoth:
		return "in both"
	case inEither:
		return "in either"
	case inJustOne:
		return "in just one"
	case inFirstOnly:
		return "in the first only"
	}
	return ""
}

func (o operation) exists() bool { return o.String() != "" }

// join applies an operation to a row of each of two pictures.
func (o operation) join(a, b uint32) uint32 {
	switch o {
	case inBoth:
		return a & b
	case inEither:
		return a | b
	case inJustOne:
		return a ^ b
	}
	return a &^ b
}

// The kinds of TurnPicture.
const (
	turnMirror = iota
	turnOver
	turnExchange
	turnQuarter
)

// strangeRune is the error of a row with a rune that is no pixel. It tells
// which one, because in a text of several rows this is how a row ends.
type strangeRune struct {
	at    int
	found rune
}

func (e *strangeRune) Error() string {
	return "no pixel at byte " + strconv.Itoa(e.at) + ": " + strconv.QuoteRune(e.found)
}

var (
	errRowLength = errors.New("a row has no pixels, or too many")
	errRowCount  = errors.New("a picture has too many rows")
)

// matrix has one word for each row of a picture; the bit x of it is 1 if the
// pixel x is black. A word has twice MaxSide bits, so that a row can be shifted
// by MaxSide without losing bits before they are cut off.
type matrix struct {
	width, height int64
	rows          [MaxSide]uint32
}

func isSide(n int64) bool { return n >= 1 && n <= MaxSide }

func isValue(n int64) bool { return n >= -MaxValue && n <= MaxValue }

// maskOf returns the word of a black row.
func maskOf(width int64) uint32 { return 1<<width - 1 }

func blankMatrix(width, height int64) (matrix, bool) {
	if !isSide(width) || !isSide(height) {
		return matrix{}, false
	}
	return matrix{width: width, height: height}, true
}

// wordOfRow returns the word of a row of 1 to MaxSide pixels.
func wordOfRow(row string) (uint32, error) {
	var word uint32
	for x, r := range row {
		if r != blackPixel && r != whitePixel {
			return 0, &strangeRune{at: x, found: r}
		}
		if x == MaxSide {
			return 0, errRowLength
		}
		if r == blackPixel {
			word |= 1 << x
		}
	}
	if row == "" {
		return 0, errRowLength
	}
	return word, nil
}

func matrixOf(p Picture) (matrix, bool) {
	if len(p.Rows) < 1 || len(p.Rows) > MaxSide {
		return matrix{}, false
	}
	m := matrix{width: int64(len(p.Rows[0])), height: int64(len(p.Rows))}
	for y, row := range p.Rows {
		word, err := wordOfRow(row)
		if err != nil || int64(len(row)) != m.width {
			return matrix{}, false
		}
		m.rows[y] = word
	}
	return m, true
}

// matricesOf returns the matrices of two pictures with the same width and height.
func matricesOf(p, q Picture) (matrix, matrix, bool) {
	a, aOK := matrixOf(p)
	b, bOK := matrixOf(q)
	if !aOK || !bOK || a.width != b.width || a.height != b.height {
		return matrix{}, matrix{}, false
	}
	return a, b, true
}

func (m matrix) has(x, y int64) bool {
	return x >= 0 && x < m.width && y >= 0 && y < m.height
}

// black reports whether there is a pixel at x and y that is black.
func (m matrix) black(x, y int64) bool {
	return m.has(x, y) && m.rows[y]>>x&1 == 1
}

// set changes a pixel, which there must be.
func (m *matrix) set(x, y int64, black bool) {
	m.rows[y] &^= 1 << x
	if black {
		m.rows[y] |= 1 << x
	}
}

// blacks returns the black pixels in reading order.
func (m matrix) blacks() []Spot {
	var spots []Spot
	for y := range m.height {
		for x := range m.width {
			if m.black(x, y) {
				spots = append(spots, Spot{X: x, Y: y})
			}
		}
	}
	return spots
}

// isInside reports whether all black pixels of m are black in another matrix of its size.
func (m matrix) isInside(other matrix) bool {
	for y, row := range m.rows {
		if row&^other.rows[y] != 0 {
			return false
		}
	}
	return true
}

func (m matrix) rowText(y int64) string {
	var text bytes.Buffer
	for x := range m.width {
		if m.black(x, y) {
			text.WriteByte(blackPixel)
		} else {
			text.WriteByte(whitePixel)
		}
	}
	return text.String()
}

func (m matrix) picture() Picture {
	rows := make([]string, m.height)
	for y := range m.height {
		rows[y] = m.rowText(y)
	}
	return Picture{Rows: rows}
}

// turnedSpot returns the spot from which the pixel at x and y of the turned picture comes.
func (m matrix) turnedSpot(kind, x, y int64) Spot {
	switch kind {
	case turnMirror:
		return Spot{X: m.width - 1 - x, Y: y}
	case turnOver:
		return Spot{X: x, Y: m.height - 1 - y}
	case turnExchange:
		return Spot{X: y, Y: x}
	}
	return Spot{X: y, Y: m.height - 1 - x}
}

// rowsOfText divides the text of a picture into its rows.
func rowsOfText(s string) ([]string, error) {
	var rows []string
	for range MaxSide {
		_, err := wordOfRow(s)
		var end *strangeRune
		if !errors.As(err, &end) || end.found != rowEnd {
			return append(rows, s), err
		}
		rows = append(rows, s[:end.at])
		s = s[end.at+1:]
	}
	return nil, errRowCount
}

// IsName reports whether s is a name.
func IsName(s string) bool {
	for _, r := range s {
		if r < 'a' || r > 'z' {
			return false
		}
	}
	return len(s) >= 1 && len(s) <= maxNameLength
}

// Decimal returns n in decimal.
func Decimal(n int64) string { return strconv.FormatInt(n, 10) }

// ReadDecimal returns the number with the given decimal text.
func ReadDecimal(s string) (int64, bool) {
	n, err := strconv.ParseInt(s, 10, 64)
	// ParseInt also reads texts that no number has, such as +1 and 01.
	if err != nil || !isValue(n) || Decimal(n) != s {
		return 0, false
	}
	return n, true
}

// ValidPicture reports whether p is valid.
func ValidPicture(p Picture) bool {
	_, ok := matrixOf(p)
	return ok
}

// BlankPicture returns a white picture.
func BlankPicture(width, height int64) (Picture, bool) {
	m, ok := blankMatrix(width, height)
	if !ok {
		return Picture{}, false
	}
	return m.picture(), true
}

// PixelAt returns whether a pixel is black.
func PixelAt(p Picture, x, y int64) (bool, bool) {
	m, ok := matrixOf(p)
	if !ok || !m.has(x, y) {
		return false, false
	}
	return m.black(x, y), true
}

// SetPixel returns a picture with another pixel.
func SetPixel(p Picture, x, y int64, black bool) (Picture, bool) {
	m, ok := matrixOf(p)
	if !ok || !m.has(x, y) {
		return Picture{}, false
	}
	m.set(x, y, black)
	return m.picture(), true
}

// CountBlack returns the number of black pixels.
func CountBlack(p Picture) (int64, bool) {
	m, ok := matrixOf(p)
	if !ok {
		return 0, false
	}
	n := 0
	for _, row := range m.rows {
		n += bits.OnesCount32(row)
	}
	return int64(n), true
}

// SpotsOf returns the black pixels.
func SpotsOf(p Picture) ([]Spot, bool) {
	m, ok := matrixOf(p)
	if !ok {
		return nil, false
	}
	return m.blacks(), true
}

// PictureFrom returns the picture with some black pixels.
func PictureFrom(width, height int64, spots []Spot) (Picture, bool) {
	m, ok := blankMatrix(width, height)
	if !ok {
		return Picture{}, false
	}
	for _, s := range spots {
		if !m.has(s.X, s.Y) {
			return Picture{}, false
		}
		m.set(s.X, s.Y, true)
	}
	return m.picture(), true
}

// InvertPicture returns the picture with the other colours.
func InvertPicture(p Picture) (Picture, bool) {
	m, ok := matrixOf(p)
	if !ok {
		return Picture{}, false
	}
	for y := range m.height {
		m.rows[y] ^= maskOf(m.width)
	}
	return m.picture(), true
}

// JoinPictures returns the pixels that both pictures make.
func JoinPictures(op int64, p, q Picture) (Picture, bool) {
	a, b, ok := matricesOf(p, q)
	if !ok || !operation(op).exists() {
		return Picture{}, false
	}
	for y := range a.height {
		a.rows[y] = operation(op).join(a.rows[y], b.rows[y])
	}
	return a.picture(), true
}

// ShiftPicture returns a picture that is shifted.
func ShiftPicture(p Picture, dx, dy int64) (Picture, bool) {
	m, ok := matrixOf(p)
	if !ok || dx < -MaxSide || dx > MaxSide || dy < -MaxSide || dy > MaxSide {
		return Picture{}, false
	}
	shifted := matrix{width: m.width, height: m.height}
	for y := range m.height {
		if !m.has(0, y-dy) {
			continue
		}
		// One of the two shifts is by 0.
		row := m.rows[y-dy] << max(dx, 0) >> max(-dx, 0)
		shifted.rows[y] = row & maskOf(m.width)
	}
	return shifted.picture(), true
}

// TurnPicture returns a picture that is mirrored or turned.
func TurnPicture(p Picture, kind int64) (Picture, bool) {
	m, ok := matrixOf(p)
	if !ok || kind < turnMirror || kind > turnQuarter {
		return Picture{}, false
	}
	turned := matrix{width: m.width, height: m.height}
	if kind == turnExchange || kind == turnQuarter {
		turned.width, turned.height = m.height, m.width
	}
	for y := range turned.height {
		for x := range turned.width {
			from := m.turnedSpot(kind, x, y)
			turned.set(x, y, m.black(from.X, from.Y))
		}
	}
	return turned.picture(), true
}

// BoxOf returns the corners of the box around the black pixels.
func BoxOf(p Picture) (Spot, Spot, bool) {
	m, ok := matrixOf(p)
	if !ok {
		return Spot{}, Spot{}, false
	}
	var columns, rows uint32
	for y, row := range m.rows {
		columns |= row
		if row != 0 {
			rows |= 1 << y
		}
	}
	if columns == 0 {
		return Spot{}, Spot{}, false
	}
	least := Spot{X: int64(bits.TrailingZeros32(columns)), Y: int64(bits.TrailingZeros32(rows))}
	greatest := Spot{X: int64(bits.Len32(columns)) - 1, Y: int64(bits.Len32(rows)) - 1}
	return least, greatest, true
}

// CropPicture returns a part of a picture.
func CropPicture(p Picture, from Spot, width, height int64) (Picture, bool) {
	m, ok := matrixOf(p)
	part, partOK := blankMatrix(width, height)
	if !ok || !partOK || !m.has(from.X, from.Y) || !m.has(from.X+width-1, from.Y+height-1) {
		return Picture{}, false
	}
	for y := range height {
		part.rows[y] = m.rows[from.Y+y] >> from.X & maskOf(width)
	}
	return part.picture(), true
}

// IsInside reports whether all black pixels of one picture are black in another one.
func IsInside(p, q Picture) bool {
	a, b, ok := matricesOf(p, q)
	return ok && a.isInside(b)
}

// PictureText returns the text of a picture.
func PictureText(p Picture) (string, bool) {
	m, ok := matrixOf(p)
	if !ok {
		return "", false
	}
	var text bytes.Buffer
	for y := range m.height {
		if y > 0 {
			text.WriteByte(rowEnd)
		}
		text.WriteString(m.rowText(y))
	}
	return text.String(), true
}

// ReadPicture returns the picture with the given text.
func ReadPicture(s string) (Picture, bool) {
	rows, err := rowsOfText(s)
	if err != nil {
		return Picture{}, false
	}
	m, ok := matrixOf(Picture{Rows: rows})
	if !ok {
		return Picture{}, false
	}
	return m.picture(), true
}

// ListText returns the text of a list.
func ListText(list []int64) (string, bool) {
	if len(list) == 0 {
		return emptyListText, true
	}
	if len(list) > MaxItems {
		return "", false
	}
	var text bytes.Buffer
	for i, n := range list {
		if !isValue(n) {
			return "", false
		}
		if i > 0 {
			text.WriteByte(',')
		}
		text.WriteString(Decimal(n))
	}
	return text.String(), true
}

// ReadList returns the list with the given text.
func ReadList(s string) ([]int64, bool) {
	if s == emptyListText {
		return nil, true
	}
	items := strings.SplitN(s, ",", MaxItems+1)
	if len(items) > MaxItems {
		return nil, false
	}
	list := make([]int64, len(items))
	for i, item := range items {
		n, ok := ReadDecimal(item)
		if !ok {
			return nil, false
		}
		list[i] = n
	}
	return list, true
}

// CheckOf returns the check number of a text.
func CheckOf(start int64, s string) (int64, bool) {
	if start < 0 || start >= CheckSize {
		return 0, false
	}
	check := start
	for i := range len(s) {
		check = (checkFactor*check + int64(s[i]) + checkStep) % CheckSize
	}
	return check, true
}
