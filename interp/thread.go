package interp

import (
	"slices"

	"facsimile/api"
)

// thread is a thread; the last frame is the top one. One without frames has ended.
type thread struct {
	id, tenant int
	frames     []*activation
}

// frame is where control is in a function, and what is pending there.
type frame struct {
	position
	function *function
	pend     []api.Pending
}

// activation is a frame with its registers, the values of its slots.
type activation struct {
	frame
	registers []api.Value
}

func (t *thread) ended() bool { return len(t.frames) == 0 }

func (t *thread) top() *activation { return t.frames[len(t.frames)-1] }

// pop removes the top frame.
func (t *thread) pop() { t.frames = t.frames[:len(t.frames)-1] }

// clear makes the registers unset that are not live.
func (t *thread) clear() {
	for n, f := range t.frames {
		live := f.function.across
		if n == len(t.frames)-1 {
			live = f.function.before
		}
		for slot, keeps := range live[f.line()] {
			if !keeps {
				f.registers[slot] = api.Value{}
			}
		}
	}
}

// image returns the thread as it is in an image.
func (t *thread) image() api.Thread {
	image := api.Thread{Id: t.id, Tenant: t.tenant}
	for _, f := range t.frames {
		at := f.place()
		image.Frames = append(image.Frames, api.Frame{Fun: at.Fun, Line: at.Line, Vars: slices.Clone(f.registers), Pend: slices.Clone(f.pend)})
	}
	return image
}

func (f *frame) line() int { return f.function.line(f.position) }

func (f *frame) place() api.Place { return api.Place{Fun: f.function.number, Line: f.line()} }

func (f *frame) atEnd() bool { return f.pc == len(f.function.Ins) }

// end returns the place of the end of the function.
func (f *frame) end() api.Place {
	return api.Place{Fun: f.function.number, Line: f.function.lines()}
}

// instruction returns what is carried out with the line: with an idle line before the last one of an instruction, nothing.
func (f *frame) instruction() api.Instr {
	ins := f.function.Ins[f.pc]
	if f.k+1 < len(ins.Lines) {
		return api.Instr{Op: api.BNop, A: none, B: none, C: none}
	}
	return ins
}

// divert lets control go on where a handler leads to, and leaves the finally parts that do not contain this catch or finally.
func (f *frame) divert(h api.Handler) {
	f.position = f.function.start(h.Target)
	f.pend = f.pend[:f.function.finals[f.line()-1]]
}
