package pack

import (
	"galley/api"
	"galley/glue"
	"galley/items"
	"galley/nodes"
)

// Places: where the items of the box at a place begin.
func Places(l []api.Node, at int) ([]int, api.Errno) {
	end, e := nodes.Item(l, at)
	if e != api.OK {
		return nil, e
	}
	size := along
	switch l[at].Kind {
	case api.HBox:
	case api.VBox:
		size = down
	default:
		return nil, api.ErrNone
	}
	contents := l[at+1 : end-1]
	skips, e := skipSizes(contents, l[at])
	if e != api.OK {
		return nil, e
	}
	begin := beginnings(size, skips)
	var places []int
	for _, item := range items.Of(contents) {
		places = append(places, begin(item))
	}
	return places, api.OK
}

// skipSizes: of a box's Skips, which are set together, so that what one loses the next ones win again.
func skipSizes(contents []api.Node, box api.Node) ([]int, api.Errno) {
	var skips []api.Glue
	for _, item := range items.Of(contents) {
		if item[0].Kind == api.Skip {
			skips = append(skips, item[0].Glue)
		}
	}
	if skips == nil {
		return nil, api.OK // a box without glue stands as it is, whatever its fraction
	}
	return glue.Sizes(skips, box.Sign, box.Order, box.Num, box.Den)
}

// beginnings: asked for a box's items, one after the other, it says where each begins.
func beginnings(size func([]api.Node) int, skips []int) func([]api.Node) int {
	end := 0
	return func(item []api.Node) int {
		begin := end
		if item[0].Kind == api.Skip {
			end += skips[0]
			skips = skips[1:]
		} else {
			end += size(item)
		}
		return begin
	}
}

// along: what an item takes of a row. (What a Rule leaves to the box, it has as 0.)
func along(item []api.Node) int {
	switch item[0].Kind {
	case api.Char, api.Lig, api.Rule, api.HBox, api.VBox, api.Kern, api.MathOn, api.MathOff:
		return item[0].W
	case api.Disc:
		return unbroken(item)
	}
	return 0
}

// unbroken: what a Disc takes of a row in which no line ends there.
func unbroken(disc []api.Node) int {
	width := 0
	for _, item := range items.Of(disc[1 : len(disc)-1]) {
		if item[0].Kind == api.Sep {
			width = 0 // only the last of its lists is there
		} else {
			width += along(item)
		}
	}
	return width
}

// down: what an item takes of a column.
func down(item []api.Node) int {
	switch item[0].Kind {
	case api.Rule, api.HBox, api.VBox:
		return item[0].H + item[0].D
	case api.Kern:
		return item[0].W
	}
	return 0
}
