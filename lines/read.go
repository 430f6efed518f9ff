package lines

import (
	"strconv"
	"strings"

	"wherry/api"
)

// reader of a line, word by word. Behind the last word all are empty, and an empty word is nothing in form.
type reader struct {
	rest  string
	ended bool
}

func (r *reader) word() string {
	word, rest, more := strings.Cut(r.rest, blank)
	r.rest, r.ended = rest, !more
	return word
}

// readLine: the act that it tells, if it is in form; whether that may be is not asked here.
func readLine(line string) (a api.Act, inForm bool) {
	r := reader{rest: line}
	a.Kind = kindOf(r.word())
	for _, n := range numbersOf(&a) {
		if *n, inForm = readNumber(r.word()); !inForm {
			return api.Act{}, false
		}
	}
	for a.Kind == api.Type && !r.ended {
		p, ok := readPart(r.word())
		if !ok {
			return api.Act{}, false
		}
		if len(a.Op) <= api.MaxParts { // one part too many is refused as any more are, and these need no room
			a.Op = append(a.Op, p)
		}
	}
	return a, a.Kind != noKind && r.ended
}

func readPart(word string) (p api.Part, inForm bool) {
	if word == "" {
		return p, false
	}
	switch letter, rest := word[0], word[1:]; letter {
	case keepLetter:
		p.Kind = api.Keep
		p.N, inForm = readNumber(rest)
	case deleteLetter:
		p.Kind = api.Delete
		p.N, inForm = readNumber(rest)
	case insertLetter:
		p.Kind = api.Insert
		p.Text, inForm = readText(rest)
	}
	return p, inForm
}

// readNumber: only as it would be written, without noughts or a plus ahead.
func readNumber(word string) (n int, inForm bool) {
	n, e := strconv.Atoi(word)
	return n, e == nil && strconv.Itoa(n) == word
}

func readText(word string) (s string, inForm bool) {
	if len(word)%2 != 0 {
		return "", false
	}
	b := make([]byte, 0, len(word)/2)
	for i := 0; i < len(word); i += 2 {
		high, low := strings.IndexByte(digits, word[i]), strings.IndexByte(digits, word[i+1])
		if high < 0 || low < 0 {
			return "", false
		}
		b = append(b, byte(high<<digitBits|low))
	}
	return string(b), true
}
