// Package region is layer 29: see shared/doc/29-region.md.
package region

import (
	"facsimile/api"
)

type Heap struct{}

func New(regions, words int) (*Heap, api.Errno) { return nil, api.OK }

func Load(l []api.Entry, next, regions, words int) (*Heap, api.Errno) { return nil, api.OK }

func (h *Heap) Alloc(c api.Cell) (int, api.Errno) { return 0, api.OK }

func (h *Heap) Cell(id int) (api.Cell, bool) { return api.Cell{}, false }

func (h *Heap) Put(id int, c api.Cell) api.Errno { return api.OK }

func (h *Heap) Addr(id int) (int, bool) { return 0, false }

func (h *Heap) Keep(ids []int) []int { return nil }

func (h *Heap) Minor(roots []api.Value) int { return 0 }

func (h *Heap) Evacuate(region int) (int, api.Errno) { return 0, api.OK }

func (h *Heap) Compact(roots []api.Value) int { return 0 }

func (h *Heap) Entries() []api.Entry { return nil }

func (h *Heap) Free() int { return 0 }
