package heap

import (
	"maps"
	"slices"

	"facsimile/api"
)

// Reach returns, in increasing order, the ids of the cells that are reached from roots; a weak cell does not lead to its target.
func (h *Heap) Reach(roots []api.Value) []int {
	return h.visited(roots, func(c *api.Cell) bool { return c.Kind != api.Weak })
}

// Visible returns, in increasing order, the ids of the cells that can be asked for from roots on, also through weak cells.
func (h *Heap) Visible(roots []api.Value) []int {
	return h.visited(roots, func(c *api.Cell) bool { return true })
}

// visited returns, in increasing order, the ids of the cells that are visited from roots on; leads tells which cells lead to their items.
func (h *Heap) visited(roots []api.Value, leads func(c *api.Cell) bool) []int {
	seen := map[int]bool{}
	var visit func(l []api.Value)
	visit = func(l []api.Value) {
		for _, v := range l {
			c := h.denoted(v)
			if c == nil || seen[v.N] {
				continue
			}
			seen[v.N] = true
			if leads(c) {
				visit(c.Items)
			}
		}
	}
	visit(roots)
	return slices.Sorted(maps.Keys(seen))
}

// Keep removes all cells whose ids are not among ids, and returns their ids in increasing order.
func (h *Heap) Keep(ids []int) []int {
	stays := map[int]bool{}
	for _, id := range ids {
		if h.cell(id) != nil {
			stays[id] = true
		}
	}
	var removed []int
	for _, id := range h.ids() {
		if !stays[id] {
			removed = append(removed, id)
		}
	}
	h.remove(removed)
	return removed
}

// remove removes the cells with these ids, which increase; weak cells lose them as targets.
func (h *Heap) remove(ids []int) {
	for _, id := range ids {
		delete(h.cells, id)
	}
	if len(ids) == 0 {
		return
	}
	for _, c := range h.cells {
		if c.Kind != api.Weak || c.Items[0].Kind != api.Ref {
			continue
		}
		if _, gone := slices.BinarySearch(ids, c.Items[0].N); gone {
			c.Items[0] = api.Value{Kind: api.Nil}
		}
	}
}
