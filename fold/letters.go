package fold

const (
	blank    = " "
	capitals = "ABCDEFGHIJKLMNOPQRSTUVWXYZ"
)

// latin has the letters of the second bytes 80 to 9F that follow a byte C3; the small letters have A0 to BE in the same order. 97 and B7 are no letters.
var latin = [32]string{
	"A", "A", "A", "A", "AE", "A", "AE", "C", "E", "E", "E", "E", "I", "I", "I", "I",
	"D", "N", "O", "O", "O", "O", "OE", "", "O", "U", "U", "U", "UE", "Y", "TH", "SS",
}

// conversion returns a closure that tells what the byte at an index of a text becomes, and how many bytes of the text that takes.
func conversion(s string) func(i int) (signs string, n int) {
	return func(i int) (string, int) {
		c := s[i]
		if c >= 'a' && c <= 'z' {
			return capitals[c-'a':][:1], 1
		}
		if isKept(c) {
			return s[i:][:1], 1
		}
		if i+1 < len(s) {
			if signs := letters(c, s[i+1]); signs != "" {
				return signs, 2
			}
		}
		return blank, 1
	}
}

// isKept reports whether a byte is a capital letter, a digit or a sign that becomes itself.
func isKept(c byte) bool {
	return c >= 'A' && c <= 'Z' || c >= '0' && c <= '9' || c == '-' || c == '/'
}

// letters returns the letters of two bytes in the table of letters, and an empty text if they are not there.
func letters(first, second byte) string {
	switch first {
	case 0xC3:
		return lettersOfC3(second)
	case 0xC5:
		return lettersOfC5(second)
	}
	return ""
}

// lettersOfC3 returns the letters of a byte that follows a byte C3.
func lettersOfC3(second byte) string {
	switch {
	case second < 0x80 || second > 0xBF:
		return ""
	case second == 0xBF: // the capital letter to this small one is not where the others are: SS is there
		return "Y"
	}
	return latin[second&0x1F]
}

// lettersOfC5 returns the letters of a byte that follows a byte C5.
func lettersOfC5(second byte) string {
	switch second {
	case 0x92, 0x93:
		return "OE"
	case 0xA0, 0xA1:
		return "S"
	case 0xBD, 0xBE:
		return "Z"
	}
	return ""
}
