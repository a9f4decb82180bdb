package profile

// Tiers of a place.
const (
	givenUp   = -1
	bytecode  = 0
	recording = 1
	optimised = 2
)

const mostFailures = 3

// loop is what was counted for a place.
type loop struct {
	tier, calls, count, failures int
	exits                        map[int]int // how often each one was left since the place was set back
	decide                       func(tier int, reason string)
}

// setBack counts a failure, and decides that the place goes back to a tier, or is given up.
func (l *loop) setBack(tier int, reason string) {
	l.failures++
	if l.failures == mostFailures {
		tier, reason = givenUp, reason+", given up"
	}
	l.exits = map[int]int{}
	l.decide(tier, reason)
}
