package hyph_test

import (
	"cmp"
	"maps"
	"regexp"
	"slices"
	"strings"

	"galley/api"
)

// What the chapter's words say, done word for word: what the program answers is held against it.

// plain: by their signs the values of patterns; by their letters the texts of exceptions.
type plain struct {
	values map[string][]int
	words  map[string]string
}

var (
	patterned = regexp.MustCompile(`^([0-9]?\.)?([0-9]?[a-z])+([0-9]?\.)?[0-9]?$`)
	excepted  = regexp.MustCompile(`^[a-z](-?[a-z])*$`)
	digit     = regexp.MustCompile(`[0-9]`)
)

func plainly(texts ...string) plain {
	p := plain{map[string][]int{}, map[string]string{}}
	for _, text := range texts {
		if word, found := strings.CutPrefix(text, "*"); found || strings.Contains(text, "-") {
			p.except(word)
		} else {
			p.pattern(text)
		}
	}
	return p
}

func (p plain) pattern(text string) api.Errno {
	signs := digit.ReplaceAllString(text, "")
	switch {
	case !patterned.MatchString(text) || len(signs) > 63:
		return api.ErrPattern
	case p.values[signs] != nil:
		return api.ErrRange
	case len(p.values) == 5000:
		return api.ErrSize
	}
	for range len(signs) + 1 {
		value := 0
		if text != "" && text[0] <= '9' && text[0] >= '0' {
			value, text = int(text[0]-'0'), text[1:]
		}
		p.values[signs] = append(p.values[signs], value)
		text = text[min(1, len(text)):]
	}
	return api.OK
}

func (p plain) except(text string) api.Errno {
	letters := strings.ReplaceAll(text, "-", "")
	switch {
	case !excepted.MatchString(text) || len(letters) > 63:
		return api.ErrPattern
	case p.words[letters] == "" && len(p.words) == 1000:
		return api.ErrSize
	}
	p.words[letters] = text
	return api.OK
}

// between: the greatest values, behind each number of letters but none and all.
func (p plain) between(word string) []int {
	var values []int
	edged := "." + word + "."
	for behind := 1; behind < len(word); behind++ {
		value := 0
		for signs, digits := range p.values {
			for i, digit := range digits {
				// The value with the number i stands ahead of the sign with that number.
				if at := 1 + behind - i; at >= 0 && at <= len(edged) && strings.HasPrefix(edged[at:], signs) {
					value = max(value, digit)
				}
			}
		}
		values = append(values, value)
	}
	return values
}

func (p plain) points(word string, left, right int) []int {
	var points []int
	text := p.words[word]
	for i, value := range p.between(word) {
		may := value == 1 || value == 3 || value == 5 || value == 7 || value == 9
		if text != "" {
			may = strings.HasPrefix(text[strings.IndexFunc(text, ahead(i+1)):], "-")
		}
		if i+1 >= left && len(word)-(i+1) >= right && may {
			points = append(points, i+1)
		}
	}
	return points
}

// ahead: of the first sign of an exception that so many letters stand ahead of.
func ahead(letters int) func(rune) bool {
	return func(c rune) bool {
		if letters == 0 {
			return true
		}
		if c != '-' {
			letters--
		}
		return false
	}
}

func (p plain) size() int {
	beginnings := map[string]bool{"": true}
	for signs := range p.values {
		for i := range len(signs) + 1 {
			beginnings[signs[:i]] = true
		}
	}
	return len(beginnings)
}

func (p plain) patterns() []string {
	var texts []string
	for _, signs := range slices.Sorted(maps.Keys(p.values)) {
		text := ""
		for i, value := range p.values[signs] {
			beyond := i == 0 && signs[0] == '.' || i == len(signs) && signs[i-1] == '.'
			if value > 0 && !beyond {
				text += string(rune('0' + value))
			}
			text += signs[i:min(i+1, len(signs))]
		}
		texts = append(texts, text)
	}
	return texts
}

func (p plain) exceptions() []string {
	return slices.SortedFunc(maps.Values(p.words), func(a, b string) int {
		return cmp.Compare(strings.ReplaceAll(a, "-", ""), strings.ReplaceAll(b, "-", ""))
	})
}

// asked: as of a Hyph.
func (p plain) asked(words ...string) answers {
	a := answers{size: p.size(), patterns: p.patterns(), exceptions: p.exceptions()}
	for _, word := range words {
		a.values, a.points = append(a.values, p.between(word)), append(a.points, p.points(word, 1, 1))
	}
	return a
}

// texts: all of so many signs at most, out of these.
func texts(signs string, most int) []string {
	all, last := []string{""}, []string{""}
	for range most {
		var longer []string
		for _, text := range last {
			for i := range len(signs) {
				longer = append(longer, text+signs[i:i+1])
			}
		}
		all, last = append(all, longer...), longer
	}
	return all
}
