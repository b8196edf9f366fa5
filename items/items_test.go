package items_test

import (
	"slices"
	"strings"
	"testing"

	"galley/api"
	"galley/items"
	"galley/nodes"
)

// kinds: of a list's text, letter by letter.
const kinds = ".alrhv.gkpd|misnfj"

func list(text string) []api.Node {
	var l []api.Node
	for i := range len(text) {
		l = append(l, api.Node{Kind: strings.LastIndexByte(kinds, text[i])})
		if text[i] == 'l' {
			l[i].Text = "fi"
		}
	}
	return l
}

func told(l []api.Node) string {
	var b strings.Builder
	for _, n := range l {
		b.WriteByte(kinds[n.Kind])
	}
	return b.String()
}

func TestOf(t *testing.T) {
	for _, want := range []string{
		"", "a", "a l r", "h.", "h. v. d||. i. j.", "a h. a", "hv.a. a", "hha.ha.. g", "da|hv..|a. k p m s n f", "ija.. v.", "h. h.",
	} {
		l := list(strings.ReplaceAll(want, " ", ""))
		if e := nodes.Check(l); e != api.OK {
			t.Fatalf("%q: %d", want, e)
		}
		var all []string
		next := 0
		for at, item := range items.Of(l) {
			end, e := nodes.Item(l, at)
			if at != next || end != at+len(item) || e != api.OK || cap(item) != len(item) || &item[0] != &l[at] {
				t.Errorf("%q at %d: %q, %d, %d", want, at, told(item), end, e)
			}
			all, next = append(all, told(item)), end
		}
		if got := strings.Join(all, " "); got != want {
			t.Errorf("%q; want %q", got, want)
		}
	}
}

func TestOfPieces(t *testing.T) {
	var all []string
	for _, item := range items.Of(list("aha.|h.h.|")) {
		all = append(all, told(item))
	}
	if want := []string{"a", "ha.", "|", "h.", "h.", "|"}; !slices.Equal(all, want) {
		t.Errorf("%q", all)
	}
}

func TestOfLeft(t *testing.T) {
	l, many := list("ah.ah."), 0
	for at := range items.Of(l) {
		many++
		if at == 1 {
			break
		}
	}
	if many != 2 {
		t.Errorf("%d items", many)
	}
}

func TestUpright(t *testing.T) {
	for _, text := range []string{"", "r", "h.", "v.", "g", "k", "p", "m", "s", "i.", "rh.v.gkpmsi.", "had||.nfj..", "va.", "ia."} {
		if l := list(text); !items.Upright(l) || nodes.Check(l) != api.OK {
			t.Errorf("%q", text)
		}
	}
	for _, item := range []string{"a", "l", "d||.", "n", "f", "j."} {
		for _, text := range []string{item, item + "h.", "h." + item, "gk" + item + "p"} {
			if l := list(text); items.Upright(l) || nodes.Check(l) != api.OK {
				t.Errorf("%q", text)
			}
		}
	}
}
