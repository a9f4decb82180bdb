package cells

import "facsimile/api"

// Faults of functions.
const (
	faultUnset = "unset"
	faultType  = "type"
	faultField = "field"
	faultRange = "range"
)

// Shape returns the shape of the object with this id, which migrates, and whether there is such an object.
func (s *Store) Shape(id int) (int, bool) {
	o := s.object(id)
	if o == nil {
		return 0, false
	}
	return o.shape, true
}

// Slot returns an item of the object with this id, which migrates, and whether there is one.
func (s *Store) Slot(id, slot int) (api.Value, bool) {
	o := s.object(id)
	if o == nil {
		return api.Value{}, false
	}
	item := o.item(slot)
	if item == nil {
		return api.Value{}, false
	}
	return *item, true
}

// SetSlot makes v an item of the object with this id, which migrates, and returns whether this was possible.
func (s *Store) SetSlot(id, slot int, v api.Value) bool {
	o := s.object(id)
	if o == nil {
		return false
	}
	item := o.item(slot)
	if item == nil || v.Kind == api.Unset {
		return false
	}
	*item = v
	return true
}

// Get returns the item of an object that has this name, or the name of a fault.
func (s *Store) Get(v api.Value, name string) (api.Value, string) {
	o, fault := s.operand(v)
	if fault != "" {
		return api.Value{}, fault
	}
	item := o.item(o.slot(s.tree, name))
	if item == nil {
		return api.Value{}, faultField
	}
	return *item, ""
}

// Set makes x the item of an object that has this name, and returns whether the name is new, or the name of a fault.
func (s *Store) Set(v api.Value, name string, x api.Value) (bool, string) {
	if x.Kind == api.Unset {
		return false, faultUnset
	}
	o, fault := s.operand(v)
	if fault != "" {
		return false, fault
	}
	if item := o.item(o.slot(s.tree, name)); item != nil {
		*item = x
		return false, ""
	}
	if name == "" || len(o.Items) >= api.MaxItems {
		return false, faultRange
	}
	o.add(s.tree, name, x)
	return true, ""
}

// operand returns the store's own object that v denotes, which migrates, or the name of a fault.
func (s *Store) operand(v api.Value) (*object, string) {
	if v.Kind == api.Unset {
		return nil, faultUnset
	}
	if v.Kind != api.Ref {
		return nil, faultType
	}
	o := s.object(v.N)
	if o == nil {
		return nil, faultType
	}
	return o, ""
}

// object returns the store's own object with this id, which migrates, or nil.
func (s *Store) object(id int) *object {
	o, _ := apart(s.cell(id))
	if o != nil {
		o.migrate(s.tree)
	}
	return o
}
