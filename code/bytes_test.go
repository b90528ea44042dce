package code_test

import (
	"bytes"
	"crypto/sha256"
	"encoding/hex"
	"math"
	"math/rand"
	"reflect"
	"slices"
	"testing"

	"scoria/api"
	"scoria/code"
	"scoria/wire"
)

// plainEncode is the encoding of code, by the words of the chapter.
func plainEncode(c api.Code) []byte {
	var b bytes.Buffer
	b.Write(wire.Int(c.Chans))
	b.Write(wire.Int(len(c.Funs)))
	for _, f := range c.Funs {
		b.Write(wire.Int(2))
		b.Write(wire.Int(f.Params))
		b.Write(wire.Int(f.Words))
		b.Write(wire.Int(3 * len(f.Body)))
		for _, x := range f.Body {
			b.Write(wire.Int(x.Op))
			b.Write(wire.Int(x.A))
			b.Write(wire.Int(x.B))
		}
	}
	return b.Bytes()
}

// plainDigest is the digest of code.
func plainDigest(c api.Code) api.Digest {
	h := sha256.Sum256(slices.Concat([]byte{2}, wire.Bytes(string(plainEncode(c)))))
	return api.Digest(h[:16])
}

// plainSame is what Same has to return.
func plainSame(a, b api.Code) bool {
	return bytes.Equal(plainEncode(a), plainEncode(b))
}

// wildCode is code of any numbers.
func wildCode(r *rand.Rand) api.Code {
	numbers := []int{math.MinInt, math.MinInt + 1, -1 << 32, -257, -256, -129, -9, -8, -1, 0, 1, 2, 3, 4, 7, 8, 18, 19, 127, 128, 255, 256, 65536, 1 << 32, math.MaxInt}
	pick := func() int { return numbers[r.Intn(len(numbers))] }
	c := api.Code{Chans: pick()}
	for range r.Intn(5) {
		f := api.FunCode{Params: pick(), Words: pick()}
		for range r.Intn(6) {
			f.Body = append(f.Body, in(pick(), pick(), pick()))
		}
		for range r.Intn(4) {
			f.From = append(f.From, pick())
		}
		c.Funs = append(c.Funs, f)
	}
	return c
}

// someCode is code of many kinds.
func someCode(r *rand.Rand) []api.Code {
	l := []api.Code{{}, {Chans: -1, Funs: []api.FunCode{}}, {Funs: make([]api.FunCode, 3)}, {Funs: make([]api.FunCode, 200)}, scene(push, result), scene(), scene(nested(682, 682)...), scene(times(3000, throw)...)}
	for range 40 {
		l = append(l, anyCode(r), wildCode(r), wildCode(r))
	}
	return l
}

// withoutFrom is c as Decode returns it.
func withoutFrom(c api.Code) api.Code {
	d := copyOf(c)
	for i := range d.Funs {
		d.Funs[i].From = nil
	}
	return d
}

// expectDecoded is about bytes that begin with the encoding of code.
func expectDecoded(t *testing.T, b []byte, c api.Code, size int) {
	t.Helper()
	got, used, e := code.Decode(b)
	if e != api.OK || used != size || !reflect.DeepEqual(copyOf(got), withoutFrom(c)) {
		t.Fatalf("P8.4: Decode returns %v, %d, %d for %d bytes of %v", got, used, e, size, c)
	}
}

// expectRefused is about bytes that begin with no encoding.
func expectRefused(t *testing.T, name string, b []byte) {
	t.Helper()
	if got, used, e := code.Decode(b); e != api.ErrForm || used != 0 || !reflect.DeepEqual(got, api.Code{}) {
		t.Errorf("P8.4: %s: Decode returns %v, %d, %d", name, got, used, e)
	}
}

// P8.4: Encode and Digest.
func TestEncode(t *testing.T) {
	for _, c := range someCode(rand.New(rand.NewSource(84))) {
		if got, want := code.Encode(c), plainEncode(c); !bytes.Equal(got, want) {
			t.Fatalf("P8.4: the encoding is %v and not %v", got, want)
		}
		if got, want := code.Digest(c), plainDigest(c); got != want {
			t.Fatalf("P8.4: the digest is %x and not %x", got, want)
		}
		d := withoutFrom(c)
		if !bytes.Equal(code.Encode(d), code.Encode(c)) || code.Digest(d) != code.Digest(c) || !code.Same(c, d) {
			t.Fatalf("P8.3, P8.4: From matters in %v", c)
		}
	}
}

// P8.4: an encoding and a digest, byte by byte; the digest was computed outside of the project.
func TestEncodedExample(t *testing.T) {
	c := api.Code{Chans: 1, Funs: []api.FunCode{{Params: 1, Words: 2, Body: body(in(api.IPush, -1, 0), result), From: []int{5, 6}}}}
	if got, want := code.Encode(c), []byte{129, 1, 129, 1, 129, 2, 129, 1, 129, 2, 129, 6, 128, 127, 128, 129, 10, 128, 128}; !bytes.Equal(got, want) {
		t.Errorf("P8.4: the encoding is %v", got)
	}
	if got := code.Encode(api.Code{}); !bytes.Equal(got, []byte{128, 128}) {
		t.Errorf("P8.4: the encoding of nothing is %v", got)
	}
	digest := code.Digest(c)
	if got := hex.EncodeToString(digest[:]); got != "236d671dc20f8caa9505d0c6f4b3a065" {
		t.Errorf("P8.4: the digest is %s", got)
	}
}

// P8.4, P8.7: Decode of encodings with anything after them, and of their proper beginnings.
func TestDecode(t *testing.T) {
	r := rand.New(rand.NewSource(87))
	for _, c := range someCode(r) {
		b := code.Encode(c)
		expectDecoded(t, b, c, len(b))
		for _, more := range [][]byte{{0}, {128}, {255, 255}, b, bytes.Repeat([]byte{136}, 20), {129, 1, 129, 2, 128, 128, 128}} {
			expectDecoded(t, slices.Concat(b, more), c, len(b))
		}
		// All proper beginnings of short encodings, and some of each long one.
		step := 1 + len(b)/400
		for i := 0; i < len(b); i += step {
			expectRefused(t, "a proper beginning", b[:i])
		}
		expectRefused(t, "all but the last byte", b[:len(b)-1])
	}
}

// join has the parts one after the other.
func join(parts ...[]byte) []byte { return slices.Concat(parts...) }

// P8.4: what is no encoding.
func TestDecodeRefuses(t *testing.T) {
	zero, one, head := wire.Int(0), wire.Int(1), wire.Ints([]int{0, 0})
	two, none := wire.Int(2), wire.Ints(nil)
	three := wire.Ints([]int{api.IPush, 1, 0})
	expectRefused(t, "no bytes", nil)
	expectRefused(t, "no bytes", []byte{})
	expectDecoded(t, join(zero, zero), api.Code{}, 2)
	expectDecoded(t, join(zero, one, head, none), api.Code{Funs: make([]api.FunCode, 1)}, 8)
	expectDecoded(t, join(zero, one, head, three), api.Code{Funs: []api.FunCode{{Body: body(push)}}}, 13)
	for _, n := range []int{math.MinInt, math.MinInt + 1, -1 << 32, -256, -3, -2, -1, 1, 2, 3, 255, 256, 1 << 16, 1 << 31, 1 << 32, 1 << 61, 1 << 62, 1<<62 + 1, math.MaxInt / 3, math.MaxInt - 1, math.MaxInt} {
		expectRefused(t, "a number of functions without functions", join(zero, wire.Int(n)))
		if n < 0 || n > 2 {
			expectRefused(t, "a number of functions", join(zero, wire.Int(n), head, none, head, three))
		}
		if n < 0 || n > 3 {
			expectRefused(t, "a number of numbers of instructions", join(zero, one, head, wire.Int(n), zero, zero, zero))
		}
		if n != 2 {
			expectRefused(t, "a number of Params and Words", join(zero, one, wire.Int(n), zero, zero, none, none, none))
		}
	}
	expectRefused(t, "a function less than the number says", join(zero, two, head, three))
	for n := range 20 {
		l := wire.Ints(make([]int, n))
		b := join(zero, one, head, l)
		if n%3 == 0 {
			expectDecoded(t, b, api.Code{Funs: []api.FunCode{{Body: make([]api.Instr, n/3)}}}, len(b))
		} else {
			expectRefused(t, "a list that is no whole number of instructions", b)
			expectRefused(t, "the same, with bytes behind it", join(b, zero, zero, zero, none, head, none))
			expectRefused(t, "the same, in the second function", join(zero, two, head, three, head, l))
		}
		if n != 2 {
			expectRefused(t, "not two numbers ahead", join(zero, one, l, none))
			expectRefused(t, "not two numbers ahead of the second function", join(zero, two, head, none, l, none))
		}
	}
	long := []byte{130, 0, 1}
	expectRefused(t, "a leading zero in Chans", join(long, zero))
	expectRefused(t, "a leading zero in the number of functions", join(zero, long, head, none))
	expectRefused(t, "a leading zero in Params", join(zero, one, two, long, zero, none))
	expectRefused(t, "a leading zero in the number of numbers", join(zero, one, head, []byte{130, 0, 3}, zero, zero, zero))
	expectRefused(t, "a leading zero in an instruction", join(zero, one, head, wire.Int(3), long, zero, zero))
	expectRefused(t, "a number that is too large", join([]byte{136, 128, 0, 0, 0, 0, 0, 0, 0}, zero))
	expectRefused(t, "a number that is too small", join([]byte{119, 127, 0, 0, 0, 0, 0, 0, 0}, zero))
	for first := range 256 {
		if first < 119 || first > 136 {
			expectRefused(t, "a first byte that no integer has", join([]byte{byte(first)}, bytes.Repeat([]byte{128}, 200)))
		}
	}
}

// P8.4: each byte of encodings changed: what is accepted is an encoding.
func TestDecodeChangedBytes(t *testing.T) {
	accepted, refused := 0, 0
	for _, c := range []api.Code{{}, scene(push, result), scene(in(api.IPush, -8, 0), in(-1, 256, -257), throw), {Chans: -1, Funs: make([]api.FunCode, 3)}} {
		b := code.Encode(c)
		for i := range b {
			for n := range 256 {
				d := slices.Clone(b)
				d[i] = byte(n)
				got, used, e := code.Decode(d)
				if e == api.OK {
					accepted++
					if used > len(d) || !bytes.Equal(plainEncode(got), d[:used]) {
						t.Fatalf("P8.4: %v is no encoding, but Decode returns %v, %d", d, got, used)
					}
					continue
				}
				refused++
				if e != api.ErrForm || used != 0 || !reflect.DeepEqual(got, api.Code{}) {
					t.Fatalf("P8.4: Decode returns %v, %d, %d", got, used, e)
				}
			}
		}
	}
	if accepted < 1000 || refused < 1000 {
		t.Errorf("%d encodings, %d others", accepted, refused)
	}
}

// P8.4: short sequences of the bytes that matter most, all of them.
func TestDecodeShort(t *testing.T) {
	some := []byte{126, 127, 128, 129, 130, 0, 1, 2, 3}
	accepted := 0
	var try func(b []byte, more int)
	try = func(b []byte, more int) {
		got, used, e := code.Decode(b)
		switch {
		case e == api.OK && !bytes.Equal(plainEncode(got), b[:used]):
			t.Fatalf("P8.4: %v is no encoding, but Decode returns %v, %d", b, got, used)
		case e == api.OK:
			accepted++
		case e != api.ErrForm || used != 0 || !reflect.DeepEqual(got, api.Code{}):
			t.Fatalf("P8.4: Decode returns %v, %d, %d", got, used, e)
		}
		for _, x := range some {
			if more > 0 {
				try(append(slices.Clone(b), x), more-1)
			}
		}
	}
	try(nil, 5)
	if accepted < 100 {
		t.Errorf("only %d encodings", accepted)
	}
}

// expectSame compares Same with what it has to return, in both orders; and, for P8.7, with the encodings and digests.
func expectSame(t *testing.T, name string, want bool, a, b api.Code) {
	t.Helper()
	if code.Same(a, b) != want || code.Same(b, a) != want {
		t.Errorf("P8.3: %s: Same is not %v for %v and %v", name, want, a, b)
	}
	if bytes.Equal(code.Encode(a), code.Encode(b)) != want || (code.Digest(a) == code.Digest(b)) != want {
		t.Errorf("P8.7: %s: the encodings of %v and %v", name, a, b)
	}
}

// P8.3: code that differs in one place.
func TestSame(t *testing.T) {
	c := scene(push, in(api.IElem, 1, 2), result)
	d := copyOf(c)
	d.Funs[0].From, d.Funs[2].From = []int{1, 2, 3}, []int{}
	expectSame(t, "From", true, c, d)
	expectSame(t, "itself", true, c, c)
	change := func(name string, do func(d *api.Code)) {
		t.Helper()
		d := copyOf(c)
		do(&d)
		expectSame(t, name, false, c, d)
	}
	for f := range c.Funs {
		change("Params", func(d *api.Code) { d.Funs[f].Params++ })
		change("Words", func(d *api.Code) { d.Funs[f].Words-- })
		change("Params and Words", func(d *api.Code) { d.Funs[f].Params, d.Funs[f].Words = d.Funs[f].Words+1, d.Funs[f].Params-1 })
		change("an instruction more", func(d *api.Code) { d.Funs[f].Body = append(d.Funs[f].Body, in(0, 0, 0)) })
		change("an instruction less", func(d *api.Code) { d.Funs[f].Body = d.Funs[f].Body[1:] })
		change("the last instruction less", func(d *api.Code) { d.Funs[f].Body = d.Funs[f].Body[:len(d.Funs[f].Body)-1] })
		change("no instructions", func(d *api.Code) { d.Funs[f].Body = nil })
		change("a function less", func(d *api.Code) { d.Funs = slices.Delete(d.Funs, f, f+1) })
		change("a function twice", func(d *api.Code) { d.Funs = slices.Insert(d.Funs, f, d.Funs[f]) })
		for i := range c.Funs[f].Body {
			for _, by := range []int{-1, 1, 256, 1 << 32, math.MinInt} {
				change("Op", func(d *api.Code) { d.Funs[f].Body[i].Op += by })
				change("A", func(d *api.Code) { d.Funs[f].Body[i].A += by })
				change("B", func(d *api.Code) { d.Funs[f].Body[i].B += by })
			}
		}
	}
	change("Chans", func(d *api.Code) { d.Chans++ })
	change("Chans", func(d *api.Code) { d.Chans = -d.Chans })
	change("the order of functions", func(d *api.Code) { d.Funs[0], d.Funs[1] = d.Funs[1], d.Funs[0] })
	change("the order of instructions", func(d *api.Code) { slices.Reverse(d.Funs[0].Body) })
	change("a function without anything", func(d *api.Code) { d.Funs = append(d.Funs, api.FunCode{}) })
	change("no functions", func(d *api.Code) { d.Funs = nil })
	change("nothing", func(d *api.Code) { *d = api.Code{} })
	expectSame(t, "nothing", true, api.Code{}, api.Code{Funs: []api.FunCode{}})
	expectSame(t, "no instructions", true, api.Code{Funs: make([]api.FunCode, 1)}, api.Code{Funs: []api.FunCode{{Body: body(), From: []int{}}}})
	expectSame(t, "no functions, and one without anything", false, api.Code{}, api.Code{Funs: make([]api.FunCode, 1)})
}

// P8.3, P8.7: pairs of any codes. Two codes are the same exactly if their encodings are equal.
func TestSamePairs(t *testing.T) {
	r := rand.New(rand.NewSource(83))
	for range 300 {
		c, d := wildCode(r), wildCode(r)
		expectSame(t, "any two", plainSame(c, d), c, d)
		expectSame(t, "a copy", true, c, copyOf(c))
		c = anyCode(r)
		d = changed(r, c)
		expectSame(t, "a change", plainSame(c, d), c, d)
	}
	// Small codes, all with all.
	var all []api.Code
	for n := range 243 {
		digit := func() int { d := n % 3; n /= 3; return d }
		c := api.Code{Chans: digit() - 1}
		for range digit() {
			f := api.FunCode{Params: digit()}
			for range digit() {
				f.Body = append(f.Body, in(digit(), 0, 0))
			}
			c.Funs = append(c.Funs, f)
		}
		all = append(all, c)
	}
	for _, c := range all {
		for _, d := range all {
			if want := plainSame(c, d); code.Same(c, d) != want {
				t.Fatalf("P8.3: Same is not %v for %v and %v", want, c, d)
			}
		}
	}
}
