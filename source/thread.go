package source

import (
	"slices"

	"facsimile/api"
)

// thread is a thread; the last frame is the top one. One without frames has ended.
type thread struct {
	id, tenant int
	frames     []*activation
}

// activation runs a frame.
type activation struct {
	api.Frame
	function *function
}

func (t *thread) ended() bool { return len(t.frames) == 0 }

func (t *thread) top() *activation { return t.frames[len(t.frames)-1] }

// pop removes the top frame, and returns it.
func (t *thread) pop() *activation {
	f := t.top()
	t.frames = t.frames[:len(t.frames)-1]
	return f
}

// clear makes the variables unset that are not live.
func (t *thread) clear() {
	for n, f := range t.frames {
		live := f.function.across
		if n == len(t.frames)-1 {
			live = f.function.before
		}
		for slot, keeps := range live[f.Line] {
			if !keeps {
				f.Vars[slot] = api.Value{}
			}
		}
	}
}

// image returns the thread as it is in an image.
func (t *thread) image() api.Thread {
	image := api.Thread{Id: t.id, Tenant: t.tenant}
	for _, f := range t.frames {
		image.Frames = append(image.Frames, copyFrame(f.Frame))
	}
	return image
}

func (f *activation) place() api.Place { return api.Place{Fun: f.Fun, Line: f.Line} }

func (f *activation) line() api.Line { return f.function.lines[f.Line] }

func (f *activation) atEnd() bool { return f.Line == len(f.function.lines) }

// end returns the place of the end of the function.
func (f *activation) end() api.Place { return api.Place{Fun: f.Fun, Line: len(f.function.lines)} }

// variable returns the value of a variable.
func (f *activation) variable(name string) api.Value {
	return f.Vars[slices.Index(f.function.slots, name)]
}

// assign makes v the value of a variable.
func (f *activation) assign(name string, v api.Value) {
	f.Vars[slices.Index(f.function.slots, name)] = v
}

// divert lets control go on at the line after a catch or a finally, and leaves the finally parts that do not contain that one.
func (f *activation) divert(line int) {
	f.Line = line
	f.Pend = f.Pend[:f.function.finals(line-1)]
}

// valuesOf returns the values of a frame.
func valuesOf(f api.Frame) []api.Value {
	l := slices.Clone(f.Vars)
	for _, d := range f.Pend {
		l = append(l, d.Value)
	}
	return l
}
