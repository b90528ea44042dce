package code_test

import (
	"bytes"
	"math/rand"
	"reflect"
	"slices"
	"testing"

	"scoria/api"
	"scoria/code"
)

// mark is an instruction that no code of the tests has.
func mark() api.Instr { return in(-777, -777, -777) }

// roomy is c with room behind all of its lists, where a careless append would leave its traces.
func roomy(c api.Code) api.Code {
	d := api.Code{Chans: c.Chans, Funs: make([]api.FunCode, 0, len(c.Funs)+2)}
	for _, f := range c.Funs {
		f.Body = append(make([]api.Instr, 0, len(f.Body)+3), f.Body...)
		f.From = append(make([]int, 0, len(f.From)+3), f.From...)
		d.Funs = append(d.Funs, f)
	}
	return d
}

// withRoom is c with all that lies in the room behind its lists.
func withRoom(c api.Code) api.Code {
	d := api.Code{Chans: c.Chans}
	for _, f := range c.Funs[:cap(c.Funs)] {
		f.Body, f.From = slices.Clone(f.Body[:cap(f.Body)]), slices.Clone(f.From[:cap(f.From)])
		d.Funs = append(d.Funs, f)
	}
	return d
}

// spoil changes all that can be changed of code, also the room behind its lists.
func spoil(c api.Code) {
	all := c.Funs[:cap(c.Funs)]
	for i, f := range all {
		for j := range f.Body[:cap(f.Body)] {
			f.Body[:cap(f.Body)][j] = mark()
		}
		for j := range f.From[:cap(f.From)] {
			f.From[:cap(f.From)][j] = -777
		}
		all[i] = api.FunCode{Params: -777, Words: -777}
	}
}

// Rules: arguments are not changed.
func TestArgumentsStay(t *testing.T) {
	r := rand.New(rand.NewSource(801))
	for _, c := range someCode(r) {
		c = roomy(c)
		d := roomy(anyCode(r))
		before, beforeD := withRoom(c), withRoom(d)
		code.Valid(c)
		for i := range len(c.Funs) + 1 {
			code.Heights(c, i)
		}
		code.Same(c, d)
		code.Same(c, c)
		code.Encode(c)
		code.Digest(c)
		if !reflect.DeepEqual(withRoom(c), before) || !reflect.DeepEqual(withRoom(d), beforeD) {
			t.Fatalf("Rules: the code %v has changed", c)
		}
		b := append(make([]byte, 0, 5000), code.Encode(c)...)
		room := slices.Clone(b[:cap(b)])
		code.Decode(b)
		code.Decode(b[:len(b)/2])
		if !bytes.Equal(b[:cap(b)], room) {
			t.Fatalf("Rules: the bytes of %v have changed", c)
		}
	}
}

// Rules: results share no memory with arguments or with each other.
func TestResultsShareNothing(t *testing.T) {
	r := rand.New(rand.NewSource(802))
	for _, c := range someCode(r) {
		c = roomy(c)
		before := withRoom(c)
		for i := range c.Funs {
			want := plainHeights(c, i)
			one, two := code.Heights(c, i), code.Heights(c, i)
			for j := range one[:cap(one)] {
				one[:cap(one)][j] = -777
			}
			if !slices.Equal(two, want) || !slices.Equal(code.Heights(c, i), want) || !reflect.DeepEqual(withRoom(c), before) {
				t.Fatalf("Rules: heights of %v share memory", c)
			}
		}
		want := plainEncode(c)
		one, two := code.Encode(c), code.Encode(c)
		for i := range one[:cap(one)] {
			one[:cap(one)][i] = 77
		}
		if !bytes.Equal(two, want) || !bytes.Equal(code.Encode(c), want) || !reflect.DeepEqual(withRoom(c), before) {
			t.Fatalf("Rules: encodings of %v share memory", c)
		}
		sharesNothing(t, two)
	}
}

// sharesNothing is about Decode of an encoding. Each function of a result is changed alone, with all room behind it.
func sharesNothing(t *testing.T, b []byte) {
	t.Helper()
	kept := slices.Clone(b)
	one, _, _ := code.Decode(b)
	two, _, _ := code.Decode(b)
	want := copyOf(two)
	for i := range one.Funs {
		three := copyOf(one)
		spoil(api.Code{Funs: one.Funs[i : i+1 : i+1]})
		if !reflect.DeepEqual(copyOf(one).Funs[i+1:], three.Funs[i+1:]) {
			t.Fatalf("Rules: the functions of decoded code share memory")
		}
	}
	spoil(one)
	if !bytes.Equal(b, kept) || !reflect.DeepEqual(copyOf(two), want) {
		t.Fatalf("Rules: decoded code shares memory with the bytes, or with other code")
	}
	for i := range b {
		b[i] = 77
	}
	if !reflect.DeepEqual(copyOf(two), want) {
		t.Fatalf("Rules: decoded code shares memory with the bytes")
	}
}

// P1, Rules: every function returns for any code and bytes; equal calls have equal results.
func TestAnyCode(t *testing.T) {
	r := rand.New(rand.NewSource(803))
	for range 3000 {
		c := wildCode(r)
		d := copyOf(c)
		expectPlain(t, c)
		for i := -2; i < len(c.Funs)+2; i++ {
			if !slices.Equal(code.Heights(c, i), code.Heights(d, i)) {
				t.Fatalf("Rules: equal calls have other results")
			}
		}
		if code.Valid(c) != code.Valid(d) || !code.Same(c, d) || !bytes.Equal(code.Encode(c), code.Encode(d)) || code.Digest(c) != code.Digest(d) {
			t.Fatalf("Rules: equal calls have other results")
		}
		b := make([]byte, r.Intn(40))
		r.Read(b)
		got, used, e := code.Decode(b)
		again, usedAgain, f := code.Decode(slices.Clone(b))
		if used != usedAgain || e != f || !reflect.DeepEqual(got, again) {
			t.Fatalf("Rules: equal calls have other results")
		}
	}
}
