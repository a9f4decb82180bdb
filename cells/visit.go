package cells

import (
	"iter"
	"maps"
	"slices"

	"facsimile/api"
)

// cell returns the store's own cell with this id, or nil.
func (s *Store) cell(id int) cell {
	if s == nil {
		return nil
	}
	return s.cells[id]
}

// all goes through the store's own cells by increasing ids.
func (s *Store) all() iter.Seq2[int, cell] {
	return func(yield func(int, cell) bool) {
		if s == nil {
			return
		}
		for _, id := range slices.Sorted(maps.Keys(s.cells)) {
			if !yield(id, s.cells[id]) {
				return
			}
		}
	}
}

// Waiting returns, in increasing order, the ids of all objects whose shape is an alias.
func (s *Store) Waiting() []int {
	var ids []int
	for id, c := range s.all() {
		if o, _ := apart(c); o != nil && o.waits(s.tree) {
			ids = append(ids, id)
		}
	}
	return ids
}

// Keep removes all cells whose ids are not among ids, and returns their ids in increasing order.
func (s *Store) Keep(ids []int) []int {
	stays := map[int]bool{}
	for _, id := range ids {
		stays[id] = true
	}
	var removed []int
	for id := range s.all() {
		if !stays[id] {
			removed = append(removed, id)
			delete(s.cells, id)
		}
	}
	for _, c := range s.all() {
		if _, p := apart(c); p != nil {
			p.forget(removed)
		}
	}
	return removed
}

// forget makes the target of a weak cell nil, if its id is among these, which increase.
func (p *plain) forget(ids []int) {
	if p.Kind != api.Weak || p.Items[0].Kind != api.Ref {
		return
	}
	if _, gone := slices.BinarySearch(ids, p.Items[0].N); gone {
		p.Items[0] = api.Value{Kind: api.Nil}
	}
}
