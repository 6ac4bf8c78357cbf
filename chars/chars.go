// Package chars is layer 1: see shared/doc/01-chars.md.
package chars

// The chapter tells classes by number; here they have names, so that the switch can be read.
const (
	classNone    = 0
	classControl = 1
	classBlank   = 2
	classLetter  = 3
	classDigit   = 4
	classOther   = 5
)

const (
	tab            = 9
	lineBreak      = 10
	formFeed       = 12
	carriageReturn = 13
	blank          = 32
	rubout         = 127
	hardBlank      = 160
	firstSurrogate = 0xD800
	lastSurrogate  = 0xDFFF
	unreadable     = 0xFFFD
	lastCharacter  = 0x10FFFF
)

// May holds for exactly the classes from the blank on: only what is no character, and controls, can't stand in a text.
func May(c rune) bool { return Class(c) >= classBlank }

// Class asks for what is no character first, so that the bounds below need no upper end.
func Class(c rune) int {
	switch {
	case c < 0 || c > lastCharacter:
		fallthrough
	case c >= firstSurrogate && c <= lastSurrogate:
		return classNone
	case c < blank:
		fallthrough
	case c == rubout:
		return classControl
	case c == blank:
		fallthrough
	case c == hardBlank:
		return classBlank
	case c >= 'a' && c <= 'z':
		fallthrough
	case c >= 'A' && c <= 'Z':
		fallthrough
	case c > rubout && c != unreadable:
		return classLetter
	case c >= '0' && c <= '9':
		return classDigit
	}
	return classOther
}

// Clean keeps line breaks, since a row of cells has them as cells of their own.
func Clean(s string) []rune { return cleaned(s, lineBreak) }

// Flat has none, since in a tree a line break is an element, never a character of a text.
func Flat(s string) []rune { return cleaned(s, blank) }

func cleaned(s string, forBreak rune) []rune {
	return pick(s, func(c rune) (rune, bool) {
		switch c {
		case tab, formFeed, carriageReturn:
			return blank, true
		case lineBreak:
			return forBreak, true
		}
		return c, May(c)
	})
}

// pick leaves it to keep what becomes of each character, and whether it stays, so that all calls read bytes in one way.
func pick(s string, keep func(c rune) (rune, bool)) []rune {
	var l []rune
	for _, c := range s {
		if r, ok := keep(c); ok {
			l = append(l, r)
		}
	}
	return l
}

// Text leans on Go's conversion, which writes 0xFFFD for what is no character.
func Text(l []rune) string { return string(l) }

// Count counts a byte that begins no character as one, as the other calls do.
func Count(s string) int {
	n := 0
	for range s {
		n++
	}
	return n
}

// Part needs no bounds of its own: no character has a number below 0, or from Count on.
func Part(s string, from, to int) string {
	next := 0
	return Text(pick(s, func(c rune) (rune, bool) {
		n := next
		next++
		return c, from <= n && n < to
	}))
}

// Words goes one step behind the end, where a word that is still open ends as at any gap.
func Words(l []rune) [][2]int {
	var words [][2]int
	from := 0
	for i := range len(l) + 1 {
		if i < len(l) && ofWord(l[i]) {
			continue
		}
		if from < i {
			words = append(words, [2]int{from, i})
		}
		from = i + 1
	}
	return words
}

func ofWord(c rune) bool {
	class := Class(c)
	return class == classLetter || class == classDigit
}
