package verify

import "facsimile/api"

// targets has the targets of handlers, so that those for an instruction are found without a look at all handlers. It is a tree: the instruction n is the leaf n + the number of instructions, and the node n/2 is above the node n. The target of a handler is at nodes whose leaves are the instructions from From to To - 1.
type targets [][]int

func targetsOf(f api.CodeFunc) targets {
	size := len(f.Ins)
	t := make(targets, 2*size)
	for _, h := range f.Handlers {
		from, to := within(h.From, size)+size, within(h.To, size)+size
		for from < to {
			if from%2 == 1 {
				t[from] = append(t[from], h.Target)
				from++
			}
			if to%2 == 1 {
				to--
				t[to] = append(t[to], h.Target)
			}
			from, to = from/2, to/2
		}
	}
	return t
}

// within returns the number from 0 to size that is next to n.
func within(n, size int) int { return min(max(n, 0), size) }

// take returns the targets of the handlers for an instruction, and removes them where it finds them: a target is needed once.
func (t targets) take(instruction int) []int {
	var all []int
	for n := instruction + len(t)/2; n > 0; n /= 2 {
		all = append(all, t[n]...)
		t[n] = nil
	}
	return all
}
