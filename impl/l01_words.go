package impl

import (
	"strconv"
	"strings"
)

const (
	MaxText   = 20000
	MaxNumber = 1000000000
	MaxWords  = 600
	MaxParts  = 10
)

const hexFigures = "0123456789abcdef"

// As many figures as MaxNumber has: a longer text can't be the Decimal of a
// number within the limit, and what is no longer can't pass the end of an int.
const mostFigures = 10

func VarText(n int) (string, bool) {
	if n < 0 || n > MaxNumber {
		return "", false
	}
	var out []byte
	for n > 127 {
		out = append(out, byte(n%128+128))
		n /= 128
	}
	return string(append(out, byte(n))), true
}

func ReadVar(text string, at int) (int, int, bool) {
	if at < 0 || at > len(text) {
		return 0, 0, false
	}
	n, weight := 0, 1
	for i := at; i < len(text) && weight <= MaxNumber; i++ {
		b := int(text[i])
		n += b % 128 * weight
		weight *= 128
		if b < 128 {
			return endOfVar(n, i+1, b == 0 && i > at)
		}
	}
	return 0, 0, false
}

// A last byte 0 behind others adds nothing: the number has a shorter form,
// and that one alone is its VarText.
func endOfVar(n int, next int, longer bool) (int, int, bool) {
	if longer || n > MaxNumber {
		return 0, 0, false
	}
	return n, next, true
}

func ShortText(s string) (string, bool) {
	if len(s) > MaxText {
		return "", false
	}
	head, ok := VarText(len(s))
	if !ok {
		return "", false
	}
	return head + s, true
}

func ReadShort(text string, at int) (string, int, bool) {
	n, begin, ok := ReadVar(text, at)
	if !ok || n > MaxText || n > len(text)-begin {
		return "", 0, false
	}
	end := begin + n
	// A piece of text would share its memory; an answer is new memory.
	return strings.Clone(text[begin:end]), end, true
}

func Hex(text string) (string, bool) {
	if len(text) > MaxText {
		return "", false
	}
	out := make([]byte, 0, 2*len(text))
	for i := 0; i < len(text); i++ {
		out = append(out, hexFigures[text[i]/16], hexFigures[text[i]%16])
	}
	return string(out), true
}

func Unhex(text string) (string, bool) {
	if len(text)%2 != 0 || len(text) > 2*MaxText {
		return "", false
	}
	values, ok := figuresIn(text, 16)
	if !ok {
		return "", false
	}
	out := make([]byte, len(text)/2)
	for i := range out {
		out[i] = byte(16*values[2*i] + values[2*i+1])
	}
	return string(out), true
}

// What counts as a figure is told here alone, for both bases (10 and 16).
func figuresIn(text string, base int) ([]int, bool) {
	values := make([]int, 0, len(text))
figures:
	for i := 0; i < len(text); i++ {
		b := text[i]
		switch {
		case b >= '0' && b <= '9':
			values = append(values, int(b-'0'))
		case base == 16 && b >= 'a' && b <= 'f':
			values = append(values, int(b-'a')+10)
		default:
			break figures
		}
	}
	if len(values) < len(text) {
		return nil, false
	}
	return values, true
}

func Decimal(n int) string {
	return strconv.Itoa(n)
}

func ReadDecimal(text string) (int, bool) {
	if text == "" || len(text) > mostFigures || len(text) > 1 && text[0] == '0' {
		return 0, false
	}
	values, ok := figuresIn(text, 10)
	if !ok {
		return 0, false
	}
	n := 0
	for _, v := range values {
		n = 10*n + v
	}
	if n > MaxNumber {
		return 0, false
	}
	return n, true
}

func PartsOf(line string) ([]string, bool) {
	if len(line) > MaxWords || !isPlain(line) {
		return nil, false
	}
	// Of the bytes that a plain line may have, the blank is the only one that
	// Fields parts at. The parts are pieces of a copy, not of the argument.
	parts := strings.Fields(strings.Clone(line))
	if len(parts) > MaxParts {
		return nil, false
	}
	return parts, true
}

func isPlain(line string) bool {
	for i := 0; i < len(line); i++ {
		if line[i] < 32 || line[i] > 126 {
			return false
		}
	}
	return true
}
