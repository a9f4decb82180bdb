package interp

import (
	"reflect"
	"testing"

	"facsimile/api"
)

// On a nil or zero Machine there is nothing.
func TestNothing(t *testing.T) {
	for what, m := range map[string]*Machine{"nil": nil, "zero": {}} {
		for range 2 {
			if m.Step() {
				t.Errorf("%s: Step returns true", what)
			}
			for _, n := range []int{-1, 0, 1, 1 << 62} {
				if steps := m.Run(n); steps != 0 {
					t.Errorf("%s: Run(%d) returns %d", what, n, steps)
				}
			}
			if image := m.Image(); !reflect.DeepEqual(image, api.Image{}) {
				t.Errorf("%s: Image returns %+v", what, image)
			}
			if events := m.Events(); len(events) > 0 {
				t.Errorf("%s: Events returns %v", what, events)
			}
			for _, at := range []api.Place{{}, {Fun: -1, Line: 3}, {Fun: 1 << 62, Line: -1 << 63}} {
				if heat := m.Heat(at); heat != 0 {
					t.Errorf("%s: Heat returns %d", what, heat)
				}
			}
			hasHits(t, what, m, 0, 0)
			if e := m.Merge(0, 0); e != api.ErrArg {
				t.Errorf("%s: Merge returns %d", what, e)
			}
			if split, e := m.Split(0); split != 0 || e != api.ErrArg {
				t.Errorf("%s: Split returns %d, %d", what, split, e)
			}
		}
	}
}
