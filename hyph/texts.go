package hyph

import (
	"strings"

	"galley/api"
)

const (
	point  = '.'
	hyphen = '-'
	zero   = '0' // what stands where no digit does
)

func isLetter(c byte) bool { return c >= 'a' && c <= 'z' }

func isDigit(c byte) bool { return c >= '0' && c <= '9' }

func isWord(text string) bool {
	if len(text) < 1 || len(text) > api.MaxWord {
		return false
	}
	for i := range len(text) {
		if !isLetter(text[i]) {
			return false
		}
	}
	return true
}

// pattern: its signs, and a digit ahead of each of them and behind the last one.
type pattern struct {
	signs, values string
}

// readPattern: the one that a text is; false, if it is none.
func readPattern(text string) (pattern, bool) {
	var signs, values []byte
	digit, held := byte(zero), false
	for i := range len(text) {
		c := text[i]
		if isDigit(c) {
			if held {
				return pattern{}, false
			}
			digit, held = c, true
			continue
		}
		if len(signs) == api.MaxWord {
			return pattern{}, false
		}
		signs, values = append(signs, c), append(values, digit)
		digit, held = zero, false
	}
	p := pattern{signs: string(signs), values: string(append(values, digit))}
	return p.bare(), p.right()
}

// right: are the signs letters, with a point at either end at most?
func (p pattern) right() bool {
	return isWord(strings.TrimSuffix(strings.TrimPrefix(p.signs, string(point)), string(point)))
}

// bare: without the digits beyond its points, which no word has a place for.
func (p pattern) bare() pattern {
	values := []byte(p.values)
	if strings.HasPrefix(p.signs, string(point)) {
		values[0] = zero
	}
	if strings.HasSuffix(p.signs, string(point)) {
		values[len(values)-1] = zero
	}
	p.values = string(values)
	return p
}

func (p pattern) text() string {
	var text []byte
	for i, digit := range []byte(p.values) {
		if digit != zero {
			text = append(text, digit)
		}
		if i < len(p.signs) {
			text = append(text, p.signs[i])
		}
	}
	return string(text)
}

// places: of a word, by how many letters stand ahead of each. (A word has less than 64.)
type places uint64

func (p places) has(at int) bool { return p>>at&1 == 1 }

func (p places) with(at int) places { return p | 1<<at }

// exception: a word, and where its hyphens stand.
type exception struct {
	letters string
	hyphens places
}

// readException: the one that a text is; false, if it is none.
func readException(text string) (exception, bool) {
	var letters []byte
	var hyphens places
	for i := range len(text) {
		switch {
		case text[i] != hyphen && len(letters) < api.MaxWord:
			letters = append(letters, text[i])
		case text[i] == hyphen && len(letters) > 0 && !hyphens.has(len(letters)):
			hyphens = hyphens.with(len(letters))
		default:
			return exception{}, false
		}
	}
	x := exception{letters: string(letters), hyphens: hyphens}
	if !isWord(x.letters) || hyphens.has(len(letters)) {
		return exception{}, false
	}
	return x, true
}

func (x exception) text() string {
	var text []byte
	for i := range len(x.letters) {
		if i > 0 && x.hyphens.has(i) {
			text = append(text, hyphen)
		}
		text = append(text, x.letters[i])
	}
	return string(text)
}
