// Package host is the host of a run, for whatever carries a run out: see P9.3 in shared/doc/09-wsem.md.
package host

import (
	"slices"

	"oubliette/api"
	"oubliette/label"
	"oubliette/linmem"
	"oubliette/word"
)

// Host gives a script's answers, one call behind the other.
type Host struct {
	answers []api.Answer // those that are not given yet
	calls   []api.HostCall
}

// New is the host of the run x, ahead of its first call.
func New(x api.Script) *Host { return &Host{answers: x.Answers} }

// Calls are those that were made, and the one that ended the run, too.
func (h *Host) Calls() []api.HostCall { return h.calls }

// Ask calls the host function n, that brings results: what the call brings (0, if nothing), and the memories behind it; false, if it ends the run by TrapScript.
func (h *Host) Ask(n int, results, args []int, mems [2]string) (v int, behind [2]string, ok bool) {
	h.calls = append(h.calls, api.HostCall{Func: n, Args: slices.Clone(args)})
	if len(h.answers) == 0 || len(h.calls) > api.MaxHost {
		return 0, [2]string{}, false
	}
	a := h.answers[0]
	h.answers = h.answers[1:]
	if !mayBring(results, a.V) {
		return 0, [2]string{}, false
	}
	behind, ok = linmem.Apply(mems, a.Writes)
	if !ok {
		return 0, [2]string{}, false
	}
	return a.V, behind, true
}

// mayBring: whether v may be the answer of a host function that brings results.
func mayBring(results []int, v int) bool {
	if len(results) == 0 {
		return v == 0
	}
	return word.Trim(label.Wide(results[0]), v) == v
}
