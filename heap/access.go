package heap

import (
	"slices"

	"facsimile/api"
)

// Faults of functions.
const (
	faultUnset  = "unset"
	faultType   = "type"
	faultField  = "field"
	faultRange  = "range"
	faultBounds = "bounds"
)

// Get returns the item of an object that has this name, or the name of a fault.
func (h *Heap) Get(v api.Value, name string) (api.Value, string) {
	c, fault := h.operand(api.Object, v)
	if fault != "" {
		return api.Value{}, fault
	}
	at := slices.Index(c.Names, name)
	if at < 0 {
		return api.Value{}, faultField
	}
	return c.Items[at], ""
}

// Set makes x the item of an object that has this name, and returns whether the name is new, or the name of a fault.
func (h *Heap) Set(v api.Value, name string, x api.Value) (bool, string) {
	c, fault := h.operand(api.Object, v, x)
	if fault != "" {
		return false, fault
	}
	if at := slices.Index(c.Names, name); at >= 0 {
		c.Items[at] = x
		return false, ""
	}
	if name == "" || len(c.Items) >= api.MaxItems {
		return false, faultRange
	}
	c.Names = append(c.Names, name)
	c.Items = append(c.Items, x)
	return true, ""
}

// At returns the item of an array that has this index, or the name of a fault.
func (h *Heap) At(v, index api.Value) (api.Value, string) {
	item, fault := h.element(v, index)
	if fault != "" {
		return api.Value{}, fault
	}
	return *item, ""
}

// Put makes x the item of an array that has this index, or returns the name of a fault.
func (h *Heap) Put(v, index, x api.Value) string {
	item, fault := h.element(v, index, x)
	if fault == "" {
		*item = x
	}
	return fault
}

// Len returns how many items an array has, or how many bytes a string, or the name of a fault.
func (h *Heap) Len(v api.Value) (api.Value, string) {
	if v.Kind == api.Str {
		return number(len(v.S)), ""
	}
	c, fault := h.operand(api.Array, v)
	if fault != "" {
		return api.Value{}, fault
	}
	return number(len(c.Items)), ""
}

// Deref returns the item of a weak cell, or the name of a fault.
func (h *Heap) Deref(v api.Value) (api.Value, string) {
	c, fault := h.operand(api.Weak, v)
	if fault != "" {
		return api.Value{}, fault
	}
	return c.Items[0], ""
}

// operand returns the heap's own cell of this kind that v denotes, or the name of a fault; the others are the further operands, none of which may be unset.
func (h *Heap) operand(kind int, v api.Value, others ...api.Value) (*api.Cell, string) {
	unset := func(v api.Value) bool { return v.Kind == api.Unset }
	if unset(v) || slices.ContainsFunc(others, unset) {
		return nil, faultUnset
	}
	c := h.denoted(v)
	if c == nil || c.Kind != kind {
		return nil, faultType
	}
	return c, ""
}

// element returns the heap's own item of the array that v denotes, or the name of a fault.
func (h *Heap) element(v, index api.Value, others ...api.Value) (*api.Value, string) {
	c, fault := h.operand(api.Array, v, append(others, index)...)
	if fault != "" {
		return nil, fault
	}
	if index.Kind != api.Int {
		return nil, faultType
	}
	if index.N < 0 || index.N >= len(c.Items) {
		return nil, faultBounds
	}
	return &c.Items[index.N], ""
}

func number(n int) api.Value { return api.Value{Kind: api.Int, N: n} }
