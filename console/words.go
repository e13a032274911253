package console

import (
	"slices"
	"strconv"
	"strings"

	"wardroom/api"
)

const (
	maxNumber = 99999 // five digits
	base      = "0123456789abcdef"
	none      = "-" // a list, or bytes, of which there are none
)

// words of a line: one at least.
func words(line string) ([]string, bool) {
	if len(line) > api.MaxLine {
		return nil, false
	}
	all := strings.Split(line, " ")
	// Two blanks, or one at an end, stand beside a word that is none.
	return all, !slices.Contains(all, "")
}

// number that a word tells.
func number(word string) (int, bool) {
	n, err := strconv.Atoi(word)
	// A number that is told anew as another text had a sign or noughts ahead.
	return n, err == nil && n >= -1 && n <= maxNumber && strconv.Itoa(n) == word
}

// bytesOf a word: two digits each.
func bytesOf(word string) (string, bool) {
	if word == none {
		return "", true
	}
	if len(word)%2 != 0 {
		return "", false
	}
	s := make([]byte, 0, len(word)/2)
	for i := 0; i < len(word); i += 2 {
		high, low := strings.IndexByte(base, word[i]), strings.IndexByte(base, word[i+1])
		if high < 0 || low < 0 {
			return "", false
		}
		s = append(s, byte(high*len(base)+low))
	}
	return string(s), true
}

// tell numbers, with blanks between.
func tell(numbers ...int) string {
	var s []byte
	for i, n := range numbers {
		if i > 0 {
			s = append(s, ' ')
		}
		s = strconv.AppendInt(s, int64(n), 10)
	}
	return string(s)
}

// orNone: what is told of a list, or of bytes.
func orNone(s string) string {
	if s == "" {
		return none
	}
	return s
}

// digits of bytes: two each.
func digits(s string) string {
	told := make([]byte, 0, 2*len(s))
	for i := range len(s) {
		told = append(told, base[int(s[i])/len(base)], base[int(s[i])%len(base)])
	}
	return string(told)
}
