package live

import "facsimile/api"

// clearer clears frames of a program that check.Check accepts, with its Info; known has what is live in the functions whose frames it has met, so that each is looked through once.
type clearer struct {
	program api.Program
	info    api.Info
	known   map[int]liveness
}

// liveness has the slots that are live before the lines of a function and its end, and across its lines.
type liveness struct{ before, across []set }

func newClearer(p api.Program, i api.Info) clearer { return clearer{p, i, map[int]liveness{}} }

// clearThreads makes the variables unset that are not live.
func (c clearer) clearThreads(threads []api.Thread) {
	for _, t := range threads {
		for n, f := range t.Frames {
			c.clearFrame(f, n == len(t.Frames)-1)
		}
	}
}

func (c clearer) clearFrame(f api.Frame, last bool) {
	live, ok := c.live(f, last)
	if !ok {
		return
	}
	for slot := range f.Vars {
		if !live[slot] {
			f.Vars[slot] = api.Value{}
		}
	}
}

// live returns the slots of a frame that are live, and whether Fun, Vars and Line are right.
func (c clearer) live(f api.Frame, last bool) (set, bool) {
	if !numbers(c.program, f.Fun) || len(f.Vars) != len(c.info.Slots[f.Fun]) {
		return set{}, false
	}
	// The last frame may be at the end of its function, which has a set here; the others wait at a line.
	sets := c.liveness(f.Fun).across
	if last {
		sets = c.liveness(f.Fun).before
	}
	if f.Line < 0 || f.Line >= len(sets) {
		return set{}, false
	}
	return sets[f.Line], true
}

func (c clearer) liveness(fun int) liveness {
	l, ok := c.known[fun]
	if !ok {
		f := function{c.program, c.info, fun}
		before := f.before()
		l = liveness{before, f.across(before)}
		c.known[fun] = l
	}
	return l
}
