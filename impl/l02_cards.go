package impl

import (
	"math/bits"
	"slices"
	"strings"
)

// Limits of cards and decks, and rows.
const (
	MaxColumns = 20
	MaxDeck    = 40
	Rows       = 12
	AllRows    = 4095
)

// Holes of the rows 12, 11 and 0.
const (
	hole12 = 1 << iota
	hole11
	hole0
)

// Card are the holes of the columns of a card.
type Card struct {
	Holes []int64
}

// Field are some columns that follow one another.
type Field struct {
	From int64
	To   int64
}

// columns are the numbers of the holes of the columns of a card.
type columns []int64

// shape is what cards have in common that may be in one deck.
type shape struct {
	width int
	legal bool
}

// shape returns the shape of a card with these columns.
func (h columns) shape() shape {
	return shape{width: len(h), legal: isWidth(int64(len(h))) && h.legal()}
}

// legal reports whether all columns have holes in the twelve rows only.
func (h columns) legal() bool {
	for _, mask := range h {
		if !isMask(mask) {
			return false
		}
	}
	return true
}

// with returns a copy of the columns with the holes of mask added to one of them.
func (h columns) with(column, mask int64) columns {
	punched := slices.Clone(h)
	punched[column] |= mask
	return punched
}

// line returns the picture of one row, which is told by the place of its bit.
func (h columns) line(bit int) string {
	var b strings.Builder
	for _, mask := range h {
		if mask>>bit&1 == 1 {
			b.WriteByte('o')
		} else {
			b.WriteByte('.')
		}
	}
	return b.String()
}

// isMask reports whether a column may have the holes of mask.
func isMask(mask int64) bool { return 0 <= mask && mask <= AllRows }

// isWidth reports whether a card may have so many columns.
func isWidth(width int64) bool { return 1 <= width && width <= MaxColumns }

// isColumnOf reports whether cards with so many columns have this one.
func isColumnOf(column, width int64) bool { return 0 <= column && column < width }

// isFieldOf reports whether f is a field of cards with so many columns.
func isFieldOf(f Field, width int64) bool {
	return 0 <= f.From && f.From < f.To && f.To <= width
}

// ValidCard reports whether c is valid.
func ValidCard(c Card) bool { return columns(c.Holes).shape().legal }

// SameCard reports whether two cards are equal.
func SameCard(a, b Card) bool { return slices.Equal(a.Holes, b.Holes) }

// ValidDeck reports whether a list of cards is a deck.
func ValidDeck(deck []Card) bool {
	if len(deck) > MaxDeck {
		return false
	}
	for _, c := range deck {
		if columns(c.Holes).shape() != (shape{width: len(deck[0].Holes), legal: true}) {
			return false
		}
	}
	return true
}

// SameDeck reports whether two lists of cards are equal.
func SameDeck(a, b []Card) bool { return slices.EqualFunc(a, b, SameCard) }

// copyOf returns a card with memory of its own.
func copyOf(c Card) Card { return Card{Holes: slices.Clone(c.Holes)} }

// copiesOf returns equal cards with memory of their own.
func copiesOf(cards []Card) []Card {
	list := make([]Card, len(cards))
	for place, c := range cards {
		list[place] = copyOf(c)
	}
	return list
}

// BlankCard returns a card without holes.
func BlankCard(width int64) (Card, int64) {
	if !isWidth(width) {
		return Card{}, ErrRange
	}
	return Card{Holes: make([]int64, width)}, OK
}

// BitOf returns the bit of a row. From above, the rows are 12, 11, 0, 1 and so on up to 9.
func BitOf(row int64) (int64, int64) {
	switch {
	case row == 12:
		return hole12, OK
	case row == 11:
		return hole11, OK
	case 0 <= row && row <= 9:
		return hole0 << row, OK
	}
	return 0, ErrRange
}

// checkColumn returns the error of a card that should have a column.
func checkColumn(c Card, column int64) int64 {
	if !ValidCard(c) {
		return ErrInvalid
	}
	if !isColumnOf(column, int64(len(c.Holes))) {
		return ErrRange
	}
	return OK
}

// bitOn returns the bit of a row of a column of a card.
func bitOn(c Card, column, row int64) (int64, int64) {
	if code := checkColumn(c, column); code != OK {
		return 0, code
	}
	return BitOf(row)
}

// PunchHole returns the card with one more hole.
func PunchHole(c Card, column, row int64) (Card, int64) {
	bit, code := bitOn(c, column, row)
	if code != OK {
		return Card{}, code
	}
	if c.Holes[column]&bit != 0 {
		return Card{}, ErrExists
	}
	return Card{Holes: columns(c.Holes).with(column, bit)}, OK
}

// HasHole reports whether a card has a hole.
func HasHole(c Card, column, row int64) (bool, int64) {
	bit, code := bitOn(c, column, row)
	if code != OK {
		return false, code
	}
	return c.Holes[column]&bit != 0, OK
}

// CountHoles returns the number of holes of a card.
func CountHoles(c Card) (int64, int64) {
	if !ValidCard(c) {
		return 0, ErrInvalid
	}
	count := 0
	for _, mask := range c.Holes {
		count += bits.OnesCount64(uint64(mask))
	}
	return int64(count), OK
}

// columnsIn returns the columns of a field of a card, in the memory of the card.
func columnsIn(c Card, f Field) (columns, int64) {
	if !ValidCard(c) {
		return nil, ErrInvalid
	}
	if !isFieldOf(f, int64(len(c.Holes))) {
		return nil, ErrRange
	}
	return c.Holes[f.From:f.To], OK
}

// PartOf returns the card that has the columns of a field.
func PartOf(c Card, f Field) (Card, int64) {
	part, code := columnsIn(c, f)
	if code != OK {
		return Card{}, code
	}
	return Card{Holes: slices.Clone(part)}, OK
}

// Overlay returns the card with the holes of two cards.
func Overlay(a, b Card) (Card, int64) {
	if !ValidCard(a) || !ValidCard(b) {
		return Card{}, ErrInvalid
	}
	if len(a.Holes) != len(b.Holes) {
		return Card{}, ErrState
	}
	both := slices.Clone(a.Holes)
	for column, mask := range b.Holes {
		both[column] |= mask
	}
	return Card{Holes: both}, OK
}

// CardPicture describes a card.
func CardPicture(c Card) ([]string, int64) {
	if !ValidCard(c) {
		return nil, ErrInvalid
	}
	lines := make([]string, Rows)
	for bit := range lines {
		lines[bit] = columns(c.Holes).line(bit)
	}
	return lines, OK
}
