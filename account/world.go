package account

import (
	"facsimile/api"
	"facsimile/value"
)

// Limits of worlds that package api does not have.
const (
	maxTaken  = 1000       // inputs, readings, and choices
	maxChoice = 1000000000 // the least choice is -maxChoice
	maxEpoch  = 1000000000
)

// bounds are the least and the greatest int that is permitted.
type bounds struct{ least, most int }

func (b bounds) permit(n int) bool { return b.least <= n && n <= b.most }

// Right reports whether w is right.
func Right(w api.World) bool {
	taken := bounds{0, maxTaken}
	tenants := bounds{1, api.MaxTenants}
	asMany := bounds{len(w.Fuel), len(w.Fuel)}
	return limited(w.Inputs, taken, isInput) &&
		limited(w.Clocks, taken, bounds{-api.MaxInt, api.MaxInt}.permit) &&
		limited(w.Choices, taken, bounds{-maxChoice, maxChoice}.permit) &&
		limited(w.Fuel, tenants, bounds{0, api.MaxInt}.permit) &&
		limited(w.Limit, asMany, bounds{0, api.MaxLimit}.permit) &&
		bounds{0, maxEpoch}.permit(w.Epoch)
}

// limited reports whether a list has a permitted number of elements, and only permitted ones.
func limited[T any](list []T, number bounds, permit func(T) bool) bool {
	if !number.permit(len(list)) {
		return false
	}
	for _, x := range list {
		if !permit(x) {
			return false
		}
	}
	return true
}

// isInput reports whether v may be an input.
func isInput(v api.Value) bool {
	switch v.Kind {
	case api.Nil, api.Bool, api.Int, api.Str:
		return value.Right(v)
	}
	return false
}
