package play

import (
	"strconv"
	"strings"

	"flotilla/api"
)

const (
	most   = 1<<31 - 1 // the greatest number that a script has
	digits = "0123456789abcdef"
)

// numberWord is a number's word, if a script can have it.
func numberWord(n int) (string, bool) {
	if n < 0 || n > most {
		return "", false
	}
	return strconv.Itoa(n), true
}

// readNumber is the number of a word. Each has one word alone, so a sign or a nought ahead shows by writing it once more.
func readNumber(w string) (int, bool) {
	n, err := strconv.Atoi(w)
	if err != nil {
		return 0, false
	}
	if again, ok := numberWord(n); !ok || again != w {
		return 0, false
	}
	return n, true
}

// textWord is a text's word.
func textWord(s string) string {
	b := make([]byte, 0, 1+2*len(s))
	b = append(b, '=')
	for i := range len(s) {
		b = append(b, digits[s[i]>>4], digits[s[i]&15])
	}
	return string(b)
}

// readText is the text of a word.
func readText(w string) (string, bool) {
	if len(w)%2 == 0 || w[0] != '=' {
		return "", false
	}
	b := make([]byte, 0, len(w)/2)
	for i := 1; i < len(w); i += 2 {
		high, low := strings.IndexByte(digits, w[i]), strings.IndexByte(digits, w[i+1])
		if high < 0 || low < 0 {
			return "", false
		}
		b = append(b, byte(high<<4|low))
	}
	return string(b), true
}

// fastWord is the word that tells which pages are fast.
func fastWord(fast []bool) string {
	b := make([]byte, len(fast))
	for i, is := range fast {
		b[i] = '0'
		if is {
			b[i] = '1'
		}
	}
	return string(b)
}

// readFast is which pages are fast, by a word. One of more pages than there can be is none: no script has it.
func readFast(w string) ([]bool, bool) {
	if w == "" || len(w) > api.MaxPages {
		return nil, false
	}
	fast := make([]bool, len(w))
	for i := range len(w) {
		if w[i] != '0' && w[i] != '1' {
			return nil, false
		}
		fast[i] = w[i] == '1'
	}
	return fast, true
}
