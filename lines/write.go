package lines

import (
	"strconv"
	"strings"

	"wherry/api"
)

const (
	blank   = " "  // between each two words
	lineEnd = "\n" // behind each line
)

// Letters of the kinds of parts.
const (
	keepLetter   = 'k'
	insertLetter = 'i'
	deleteLetter = 'd'
)

// A byte of a text has two digits, of four bits each.
const (
	digits    = "0123456789abcdef"
	digitBits = 4
)

func writeLine(out *strings.Builder, a api.Act) {
	out.WriteString(words[a.Kind])
	for _, n := range numbersOf(&a) {
		out.WriteString(blank)
		out.WriteString(strconv.Itoa(*n))
	}
	for _, p := range a.Op {
		out.WriteString(blank)
		writePart(out, p)
	}
	out.WriteString(lineEnd)
}

func writePart(out *strings.Builder, p api.Part) {
	switch p.Kind {
	case api.Keep:
		out.WriteByte(keepLetter)
		out.WriteString(strconv.Itoa(p.N))
	case api.Delete:
		out.WriteByte(deleteLetter)
		out.WriteString(strconv.Itoa(p.N))
	case api.Insert:
		out.WriteByte(insertLetter)
		writeText(out, p.Text)
	}
}

func writeText(out *strings.Builder, s string) {
	for _, b := range []byte(s) {
		out.WriteByte(digits[b>>digitBits])
		out.WriteByte(digits[b%(1<<digitBits)])
	}
}
