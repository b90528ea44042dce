package vm

import (
	"slices"

	"scoria/api"
	"scoria/hash"
	"scoria/wire"
)

// copyOf returns a state that shares no memory with another one.
func copyOf(s api.State) api.State {
	t := api.State{Steps: s.Steps}
	for _, p := range s.Procs {
		var q api.Proc
		for _, f := range p.Frames {
			f.Words, f.Stack, f.Tries = slices.Clone(f.Words), slices.Clone(f.Stack), slices.Clone(f.Tries)
			q.Frames = append(q.Frames, f)
		}
		t.Procs = append(t.Procs, q)
	}
	for _, words := range s.Chans {
		t.Chans = append(t.Chans, slices.Clone(words))
	}
	return t
}

// sameFrame reports whether two frames are equal.
func sameFrame(f, g api.Frame) bool {
	return f.Fun == g.Fun && f.At == g.At && slices.Equal(f.Words, g.Words) && slices.Equal(f.Stack, g.Stack) && slices.Equal(f.Tries, g.Tries)
}

// sameProc reports whether two processes are equal.
func sameProc(p, q api.Proc) bool {
	return slices.EqualFunc(p.Frames, q.Frames, sameFrame)
}

// Same reports whether two states are equal but for their Steps.
func Same(a, b api.State) bool {
	return slices.EqualFunc(a.Procs, b.Procs, sameProc) && slices.EqualFunc(a.Chans, b.Chans, slices.Equal[[]int])
}

// encode returns the encoding of a state.
func encode(s api.State) []byte {
	out := wire.Int(len(s.Procs))
	for _, p := range s.Procs {
		out = append(out, wire.Int(len(p.Frames))...)
		for _, f := range p.Frames {
			var tries []int
			for _, t := range f.Tries {
				tries = append(tries, t.At, t.Word, t.Height)
			}
			for _, l := range [][]int{{f.Fun, f.At}, f.Words, f.Stack, tries} {
				out = append(out, wire.Ints(l)...)
			}
		}
	}
	out = append(out, wire.Int(len(s.Chans))...)
	for _, words := range s.Chans {
		out = append(out, wire.Ints(words)...)
	}
	return out
}

// Digest returns the digest of a state without its Steps.
func Digest(s api.State) api.Digest {
	return hash.Of(api.TagState, string(encode(s)))
}
