package pack

import (
	"galley/api"
	"galley/items"
)

// parted: what stays in a row, and what leaves it for the column around it.
func parted(l []api.Node) (stays, leaves []api.Node) {
	stays = make([]api.Node, 0, len(l)) // most rows stay whole
	for _, item := range items.Of(l) {
		switch item[0].Kind {
		case api.Adjust:
			item = item[1 : len(item)-1] // it is there only for the sake of its contents
			fallthrough
		case api.Ins, api.Mark:
			leaves = append(leaves, item...)
		default:
			stays = append(stays, item...)
		}
	}
	return stays, leaves
}
