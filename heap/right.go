package heap

import (
	"facsimile/api"
	"facsimile/value"
)

// What each item takes, and a cell without items.
const (
	cellSize = 16
	itemSize = 8
)

// form says what the fields of the right cells of a kind are.
type form struct {
	class func(n int) bool
	fun   func(n int) bool
	names func(names []string, items int) bool
	items func(items []api.Value) bool
}

// formOf returns the form of a kind of cells, and whether there is such a kind.
func formOf(kind int) (form, bool) {
	forms := [...]form{
		api.Object:  {class: natural, fun: zero, names: eachNamed, items: storable},
		api.Array:   {class: zero, fun: zero, names: noneNamed, items: storable},
		api.Closure: {class: zero, fun: natural, names: noneNamed, items: storable},
		api.Weak:    {class: zero, fun: zero, names: noneNamed, items: target},
	}
	if kind < api.Object || kind >= len(forms) {
		return form{}, false
	}
	return forms[kind], true
}

// Right reports whether c is right.
func Right(c api.Cell) bool {
	f, known := formOf(c.Kind)
	return known && 0 <= c.Tenant && c.Tenant < api.MaxTenants &&
		f.class(c.Class) && f.fun(c.Fun) && f.items(c.Items) && f.names(c.Names, len(c.Items))
}

// Size returns how many bytes c takes.
func Size(c api.Cell) int { return cellSize + itemSize*len(c.Items) }

func zero(n int) bool { return n == 0 }

func natural(n int) bool { return n >= 0 }

// storable reports whether these may be the items of a cell.
func storable(items []api.Value) bool {
	if len(items) > api.MaxItems {
		return false
	}
	for _, v := range items {
		if v.Kind == api.Unset || !value.Right(v) {
			return false
		}
	}
	return true
}

// target reports whether these may be the items of a weak cell.
func target(items []api.Value) bool {
	return len(items) == 1 && (items[0].Kind == api.Nil || items[0].Kind == api.Ref) && storable(items)
}

func noneNamed(names []string, items int) bool { return len(names) == 0 }

// eachNamed reports whether each item has a name of its own.
func eachNamed(names []string, items int) bool {
	if len(names) != items {
		return false
	}
	taken := map[string]bool{"": true}
	for _, name := range names {
		if taken[name] {
			return false
		}
		taken[name] = true
	}
	return true
}
