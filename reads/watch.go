package reads

import (
	"slices"

	"scoria/api"
	"scoria/vm"
)

// place is an instruction: its function, and its index.
type place struct {
	fun int
	at  int
}

// collect returns what is asked for in moments. A function is given that calls another one for each of them.
func collect(c api.Code, watch func(look func(s api.State))) Reads {
	asked := map[place]bool{}
	watch(func(s api.State) {
		for _, p := range s.Procs {
			if len(p.Frames) > 0 {
				f := p.Frames[len(p.Frames)-1]
				asked[place{f.Fun, f.At}] = true
			}
		}
	})
	r := Reads{Funs: make([][]int, len(c.Funs))}
	for p := range asked {
		r.Funs[p.fun] = append(r.Funs[p.fun], p.at)
	}
	for _, indices := range r.Funs {
		slices.Sort(indices)
	}
	return r
}

// watcher lets the machine execute one instruction after the other.
type watcher struct {
	code api.Code
	fuel int
	look func(s api.State) // is called for each moment
}

// begin returns the state with which vm.New stops.
func (w watcher) begin(args []int) api.State {
	s, _, e := vm.New(w.code, args, 0)
	w.look(s)
	if e == api.OK {
		return s
	}
	// What is left is like a turn that has been begun.
	return w.turn(s, 0)
}

// turn returns the state with which a turn of a process stops. The state before it has been looked at already.
func (w watcher) turn(s api.State, proc int) api.State {
	from := s
	for fuel := s.Steps + 1; fuel <= w.fuel; fuel++ {
		var e api.Errno
		s, _, e = vm.Turn(w.code, from, proc, fuel)
		w.look(s)
		if e == api.OK {
			break
		}
		// The turn can go on from here, which saves doing it again from its beginning; but not after the start of a process: a turn from here would not let that one go on.
		if len(s.Procs) == len(from.Procs) {
			from = s
		}
	}
	return s
}
