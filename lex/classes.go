package lex

import (
	"strconv"

	"letterbag/fold"
)

// maxShort is the most bytes of a short word: the digits of a number, and the letters and digits of a flat.
const maxShort = 6

// class is a class of words, and what tells whether a word has it.
type class struct {
	number uint16
	has    func(word string) bool
}

// Classes returns the classes of a word.
func Classes(word string) uint16 {
	var sum uint16
	for _, c := range classes() {
		if c.has(word) {
			sum += c.number
		}
	}
	return sum
}

// Number returns the number and the letter that a word is.
func Number(word string) (int, string, bool) {
	digits, letter := cutLetter(word)
	if !isNumber(digits) {
		return 0, "", false
	}
	n, _ := strconv.Atoi(digits) // there is no error: digits alone, and few of them
	return n, letter, true
}

// classes returns all classes. None of them has a word with other bytes than letters, digits and -.
func classes() [14]class {
	return [14]class{
		{ClassNumber, isNumber},
		{ClassLettered, isLettered},
		{ClassName, isName},
		{ClassPre, hasKind(fold.KindPre)},
		{ClassSuffix, hasKind(fold.KindSuffix)},
		{ClassUnit, hasKind(fold.KindUnit)},
		{ClassBox, hasKind(fold.KindBox)},
		{ClassFlat, isFlat},
		{ClassRegion, func(word string) bool { return matches(word, isLetter, isLetter) }},
		{ClassCodeA, func(word string) bool { return matches(word, isDigit, isDigit, isDigit, isDigit, isDigit) }},
		{ClassCodeB, func(word string) bool {
			return matches(word, isLetter, isDigit, isLetter, isDigit, isLetter, isDigit)
		}},
		{ClassFirst, func(word string) bool { return matches(word, isLetter, isDigit, isLetter) }},
		{ClassLast, func(word string) bool { return matches(word, isDigit, isLetter, isDigit) }},
		{ClassCodeC, func(word string) bool { return matches(word, isDigit, isDigit, isDigit, isDigit) }},
	}
}

// matches reports whether a word has one byte for each part of a pattern, and each byte fits its part.
func matches(word string, pattern ...func(b byte) bool) bool {
	if len(word) != len(pattern) {
		return false
	}
	for i, fits := range pattern {
		if !fits(word[i]) {
			return false
		}
	}
	return true
}

// isNumber reports whether a word is the digits of a number.
func isNumber(word string) bool { return isShort(word) && word[0] != '0' && all(word, isDigit) }

// isLettered reports whether a word is the digits of a number and a letter.
func isLettered(word string) bool {
	digits, letter := cutLetter(word)
	return letter != "" && isNumber(digits)
}

// isName reports whether a word can be one of a name.
func isName(word string) bool { return all(word, isSign) && !all(word, isNoLetter) }

// isFlat reports whether a word can be the number of a flat.
func isFlat(word string) bool { return isShort(word) && all(word, isLetterOrDigit) }

// hasKind returns a function that reports whether a word has a kind of abbreviations.
func hasKind(kind uint8) func(word string) bool {
	return func(word string) bool { return fold.Kinds(word)&(1<<kind) != 0 }
}

// cutLetter divides a word into its last letter and what is ahead of that; the letter is empty if the word does not end with one.
func cutLetter(word string) (string, string) {
	end := len(word) - 1
	if end < 0 || !isLetter(word[end]) {
		return word, ""
	}
	return word[:end], word[end:]
}

// isShort reports whether a word has bytes, but not too many.
func isShort(word string) bool { return word != "" && len(word) <= maxShort }

// all reports whether all bytes of a word fit.
func all(word string, fits func(b byte) bool) bool {
	for i := range len(word) {
		if !fits(word[i]) {
			return false
		}
	}
	return true
}

func isLetter(b byte) bool { return 'A' <= b && b <= 'Z' }

func isDigit(b byte) bool { return '0' <= b && b <= '9' }

func isLetterOrDigit(b byte) bool { return isLetter(b) || isDigit(b) }

// isSign reports whether a byte is one that a name may have.
func isSign(b byte) bool { return isLetterOrDigit(b) || b == '-' }

func isNoLetter(b byte) bool { return !isLetter(b) }
