package run

import (
	"cmp"
	"slices"

	"scoria/api"
)

// event is an event, with the numbers by which events are ordered.
type event api.Event

func (e event) proc() int { return e.Proc }

func (e event) kind() int { return e.Kind }

func (e event) number() int { return e.N }

// outcome is an outcome, with the numbers by which outcomes are ordered whose events do not differ.
type outcome api.Outcome

func (o outcome) length() int { return len(o.Events) }

func (o outcome) end() int { return o.End }

// compareBy orders two values by numbers that they have: by the first number in which they differ.
func compareBy[T any](a, b T, numbers ...func(T) int) int {
	for _, number := range numbers {
		if c := cmp.Compare(number(a), number(b)); c != 0 {
			return c
		}
	}
	return 0
}

// common returns how many events are the same in two outcomes, up to the first ones that differ.
func common(a, b api.Outcome) int {
	shorter := min(len(a.Events), len(b.Events))
	for i := range shorter {
		if a.Events[i] != b.Events[i] {
			return i
		}
	}
	return shorter
}

// Same reports whether two outcomes are equal.
func Same(a, b api.Outcome) bool {
	return a.End == b.End && slices.Equal(a.Events, b.Events)
}

// First returns the index of the first event in which two outcomes differ; the number of events, if only their ends do; -1, if they are equal.
func First(a, b api.Outcome) int {
	if Same(a, b) {
		return -1
	}
	return common(a, b)
}

// Compare orders outcomes.
func Compare(a, b api.Outcome) int {
	i := common(a, b)
	if i < min(len(a.Events), len(b.Events)) {
		return compareBy(event(a.Events[i]), event(b.Events[i]), event.proc, event.kind, event.number)
	}
	return compareBy(outcome(a), outcome(b), outcome.length, outcome.end)
}
