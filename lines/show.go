package lines

import (
	"strconv"
	"strings"

	"reredos/api"
	"reredos/label"
)

// digits of a text's bytes, by their worth.
const digits = "0123456789abcdef"

// Show acts as lines; the place of the act that is wrong.
func Show(c api.Config, l []api.Act) (string, int, api.Errno) {
	if e := label.Check(c); e != api.OK {
		return "", 0, e
	}
	if len(l) > api.MaxActs {
		return "", 0, api.ErrSize
	}
	var text strings.Builder
	for place, a := range l {
		if e := Check(c, a); e != api.OK {
			return "", place, e
		}
		text.WriteString(strings.Join(actAsWords(a), " "))
		text.WriteString("\n")
	}
	return text.String(), 0, api.OK
}

// actAsWords, of an act that may be.
func actAsWords(a api.Act) []string {
	words := []string{actWords[a.Kind]}
	has, parts := actHas[a.Kind], actParts(a)
	words = appendNumbers(words, has[:numberCount], parts[:numberCount])
	for _, n := range a.Keep {
		words = append(words, strconv.Itoa(n))
	}
	if has[partCall] {
		words = appendCall(words, a.Call)
	}
	if has[partLine] {
		words = append(words, textAsWord(a.Line))
	}
	return words
}

func appendCall(words []string, x api.Call) []string {
	has, parts := callHas[x.Kind], callParts(x)
	return appendNumbers(append(words, callWords[x.Kind]), has[:], parts[:])
}

// appendNumbers: those that there are.
func appendNumbers(words []string, has []bool, parts []int) []string {
	for i, n := range parts {
		if has[i] {
			words = append(words, strconv.Itoa(n))
		}
	}
	return words
}

// textAsWord: by its digits, for its bytes may be blanks and ends of lines; the dot makes a word of an empty one.
func textAsWord(s string) string {
	b := []byte{'.'}
	for i := range len(s) {
		b = append(b, digits[s[i]>>4], digits[s[i]&15])
	}
	return string(b)
}
