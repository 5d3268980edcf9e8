package frame

import (
	"slices"

	"railhead/api"
	"railhead/compute"
	"railhead/opcode"
	"railhead/stack"
)

// runner does steps of one code. What is made for one step serves those behind it, too.
type runner struct {
	deeds map[byte]deed
	jumps []int
}

func newRunner() *runner { return &runner{deeds: deeds()} }

// step is a frame behind one opcode; as it was, beside an error. It is in new memory.
func (r *runner) step(f api.Frame) (api.Frame, api.Errno) {
	switch {
	case !Right(f):
		return own(f), api.ErrArg
	case f.Status != api.Running:
		return own(f), api.ErrDone
	case f.PC >= len(f.Code):
		f.Status = api.Stopped
		return own(f), api.OK
	}
	does, is := r.look(f.Code[f.PC])
	if !is {
		return own(f), api.ErrWorld
	}
	next, e := r.moved(f, does)
	if e != api.OK {
		return failed(own(f), e), api.OK
	}
	return next, api.OK
}

// look is what an opcode does; false: it asks for more than a frame has.
func (r *runner) look(op byte) (deed, bool) {
	_, is := opcode.Info(op)
	switch {
	case !is:
		return (*move).none, true
	case compute.Is(op):
		return (*move).compute, true
	case opPush0 <= op && op <= opPush32:
		return (*move).pushCode, true
	}
	does, is := r.deeds[op]
	return does, is
}

// moved is a frame behind what the opcode at its place does; or why it fails. What is no opcode takes, puts and costs nothing, so that it comes to its own error.
func (r *runner) moved(f api.Frame, does deed) (api.Frame, api.Errno) {
	op := f.Code[f.PC]
	about, _ := opcode.Info(op)
	rest, taken, e := stack.Pop(f.Stack, about.Pops)
	switch {
	case e != api.OK:
		return f, e
	case len(rest)+about.Pushes > api.MaxStack:
		return f, api.ErrOver
	}
	m := move{Frame: f, was: f, op: op, taken: taken, runner: r}
	m.PC, m.Stack = f.PC+1, rest
	if !m.paid(about.Gas) {
		return f, api.ErrGas
	}
	e = does(&m)
	return m.Frame, e
}

// failed is a frame that fails.
func failed(f api.Frame, e api.Errno) api.Frame {
	f.Status, f.Errno, f.Gas = api.Failed, e, 0
	return f
}

// mayJump tells whether one may jump to a place of a code, which is always the same one. (A code without such places fails when it is asked for the first time.)
func (r *runner) mayJump(code string, to int) bool {
	if len(r.jumps) == 0 {
		r.jumps = opcode.Jumps(code)
	}
	_, is := slices.BinarySearch(r.jumps, to)
	return is
}
