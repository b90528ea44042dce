package wire_test

import (
	"bytes"
	"math"
	"math/big"
	"math/rand"
	"runtime"
	"slices"
	"testing"

	"scoria/api"
	"scoria/wire"
)

// codec is a kind of values, in a form in which one test can cover all kinds.
type codec struct {
	name string
	// decode returns the encoding of the value that it decodes (nil if there is none), whether the value is a zero one (an empty list), and the other two results.
	decode func(b []byte) (again []byte, zero bool, used int, e api.Errno)
}

func codecs() []codec {
	return []codec{
		{"Int", func(b []byte) ([]byte, bool, int, api.Errno) {
			n, used, e := wire.GetInt(b)
			return wire.Int(n), n == 0, used, e
		}},
		{"Bytes", func(b []byte) ([]byte, bool, int, api.Errno) {
			s, used, e := wire.GetBytes(b)
			return wire.Bytes(s), s == "", used, e
		}},
		{"Ints", func(b []byte) ([]byte, bool, int, api.Errno) {
			l, used, e := wire.GetInts(b)
			return wire.Ints(l), len(l) == 0, used, e
		}},
		{"Strings", func(b []byte) ([]byte, bool, int, api.Errno) {
			l, used, e := wire.GetStrings(b)
			return wire.Strings(l), len(l) == 0, used, e
		}},
		{"Digests", func(b []byte) ([]byte, bool, int, api.Errno) {
			l, used, e := wire.GetDigests(b)
			return wire.Digests(l), len(l) == 0, used, e
		}},
	}
}

func codecNamed(name string) codec {
	for _, c := range codecs() {
		if c.name == name {
			return c
		}
	}
	panic("no codec " + name)
}

// expectError checks that decoding fails with e and that the other results are zero.
func expectError(t *testing.T, promise, name string, b []byte, want api.Errno) {
	t.Helper()
	_, zero, used, e := codecNamed(name).decode(b)
	if e != want || used != 0 || !zero {
		t.Errorf("%s: Get%s(%v): error %d, used %d, zero %v; want error %d and zero results", promise, name, b, e, used, zero, want)
	}
}

// edgeInts has the integers next to each change of the number of bytes, and the outermost ones.
func edgeInts() []int {
	l := []int{0, 1, 2, 127, 128, -1, -2, -128, -129, math.MaxInt, math.MaxInt - 1, math.MinInt, math.MinInt + 1}
	for k := 1; k < 8; k++ {
		p := 1 << (8 * k)
		l = append(l, p-1, p, p+1, -p+1, -p, -p-1, p<<7-1, -p<<7)
	}
	slices.Sort(l)
	return slices.Compact(l)
}

// randomInts has integers of all lengths, always the same ones.
func randomInts(many int) []int {
	r := rand.New(rand.NewSource(1))
	l := make([]int, many)
	for i := range l {
		l[i] = int(r.Uint64()) >> r.Intn(64)
	}
	return l
}

// plainInt is P1.1 word for word, with big numbers.
func plainInt(n int) []byte {
	m := big.NewInt(int64(n))
	if n >= 0 {
		digits := m.Bytes()
		return append([]byte{byte(128 + len(digits))}, digits...)
	}
	digits := m.Sub(big.NewInt(-1), m).Bytes()
	out := []byte{byte(127 - len(digits))}
	for _, d := range digits {
		out = append(out, 255-d)
	}
	return out
}

// concat lays byte sequences one after the other.
func concat(l ...[]byte) []byte {
	return slices.Concat(l...)
}

func sampleDigests() []api.Digest {
	return []api.Digest{{}, {1, 2, 3, 15: 9}, {0: 255, 15: 255}}
}

// encodings has encodings of edge values and of ordinary ones, by the name of their kind.
func encodings() map[string][][]byte {
	m := map[string][][]byte{}
	for _, n := range edgeInts() {
		m["Int"] = append(m["Int"], wire.Int(n))
	}
	long := string(bytes.Repeat([]byte{0, 128, 255}, 100))
	for _, s := range []string{"", "a", "ab", "\x00", "\xff\x00\x80", long} {
		m["Bytes"] = append(m["Bytes"], wire.Bytes(s))
	}
	for _, l := range [][]int{nil, {0}, {1, -1}, {math.MinInt, math.MaxInt, 0}, edgeInts(), make([]int, 300)} {
		m["Ints"] = append(m["Ints"], wire.Ints(l))
	}
	for _, l := range [][]string{nil, {""}, {"", "a"}, {"", "", ""}, {long, "", "x"}, make([]string, 300)} {
		m["Strings"] = append(m["Strings"], wire.Strings(l))
	}
	for _, l := range [][]api.Digest{nil, {{}}, sampleDigests(), make([]api.Digest, 300)} {
		m["Digests"] = append(m["Digests"], wire.Digests(l))
	}
	return m
}

// P1.1
func TestIntGivesTheEncodingsOfTheChapter(t *testing.T) {
	for _, x := range []struct {
		n    int
		want []byte
	}{
		{0, []byte{128}},
		{1, []byte{129, 1}},
		{255, []byte{129, 255}},
		{256, []byte{130, 1, 0}},
		{-1, []byte{127}},
		{-2, []byte{126, 254}},
		{-256, []byte{126, 0}},
		{-257, []byte{125, 254, 255}},
		{math.MaxInt, []byte{136, 127, 255, 255, 255, 255, 255, 255, 255}},
		{math.MinInt, []byte{119, 128, 0, 0, 0, 0, 0, 0, 0}},
	} {
		if b := wire.Int(x.n); !bytes.Equal(b, x.want) {
			t.Errorf("P1.1: Int(%d) is %v, want %v", x.n, b, x.want)
		}
	}
	for _, n := range append(edgeInts(), randomInts(2000)...) {
		if b := wire.Int(n); !bytes.Equal(b, plainInt(n)) {
			t.Errorf("P1.1: Int(%d) is %v, want %v", n, b, plainInt(n))
		}
	}
}

// P1.2
func TestGetIntDecodesWhatIntEncodes(t *testing.T) {
	for _, n := range append(edgeInts(), randomInts(2000)...) {
		b := plainInt(n)
		for _, after := range [][]byte{nil, {0}, {255, 7}, {128}} {
			got, used, e := wire.GetInt(concat(b, after))
			if got != n || used != len(b) || e != api.OK {
				t.Errorf("P1.2: GetInt of %d and %v: %d, %d, %d", n, after, got, used, e)
			}
		}
	}
}

// P1.2: the errors, in the order of the chapter.
func TestGetIntErrors(t *testing.T) {
	for _, x := range []struct {
		b    []byte
		want api.Errno
	}{
		{nil, api.ErrMore},
		{[]byte{}, api.ErrMore},
		// The first byte: also before bytes that are missing.
		{[]byte{118}, api.ErrForm},
		{[]byte{137}, api.ErrForm},
		{[]byte{0}, api.ErrForm},
		{[]byte{255}, api.ErrForm},
		{[]byte{137, 1, 2, 3, 4, 5, 6, 7, 8, 9}, api.ErrForm},
		{[]byte{118, 1, 2, 3, 4, 5, 6, 7, 8, 9}, api.ErrForm},
		// Bytes that are missing: also before a length that is not the least, and before a number that is too large.
		{[]byte{129}, api.ErrMore},
		{[]byte{130, 1}, api.ErrMore},
		{[]byte{126}, api.ErrMore},
		{[]byte{125, 7}, api.ErrMore},
		{[]byte{130, 0}, api.ErrMore},
		{[]byte{125, 255}, api.ErrMore},
		{[]byte{136, 128, 0, 0, 0, 0, 0, 0}, api.ErrMore},
		{[]byte{119, 127, 0, 0, 0, 0, 0, 0}, api.ErrMore},
		// Not the least length.
		{[]byte{129, 0}, api.ErrForm},
		{[]byte{126, 255}, api.ErrForm},
		{[]byte{130, 0, 255}, api.ErrForm},
		{[]byte{125, 255, 0}, api.ErrForm},
		{[]byte{136, 0, 127, 0, 0, 0, 0, 0, 0}, api.ErrForm},
		{[]byte{119, 255, 127, 0, 0, 0, 0, 0, 0}, api.ErrForm},
		// Too large.
		{[]byte{136, 128, 0, 0, 0, 0, 0, 0, 0}, api.ErrForm},
		{[]byte{136, 255, 255, 255, 255, 255, 255, 255, 255}, api.ErrForm},
		{[]byte{119, 127, 255, 255, 255, 255, 255, 255, 255}, api.ErrForm},
		{[]byte{119, 0, 0, 0, 0, 0, 0, 0, 0}, api.ErrForm},
	} {
		expectError(t, "P1.2", "Int", x.b, x.want)
	}
}

// P1.2: each first byte, with all the bytes that it may need.
func TestGetIntFirstBytes(t *testing.T) {
	for first := range 256 {
		b := append([]byte{byte(first)}, bytes.Repeat([]byte{77}, 20)...)
		_, used, e := wire.GetInt(b)
		switch {
		case first < 119 || first > 136:
			if e != api.ErrForm {
				t.Errorf("P1.2: the first byte %d: error %d", first, e)
			}
		case first == 119:
			// All bits of 77 flipped are 178: m has its highest bit set.
			if e != api.ErrForm {
				t.Errorf("P1.2: the first byte %d: error %d", first, e)
			}
		case first >= 128:
			if e != api.OK || used != first-127 {
				t.Errorf("P1.2: the first byte %d: used %d, error %d", first, used, e)
			}
		default:
			if e != api.OK || used != 128-first {
				t.Errorf("P1.2: the first byte %d: used %d, error %d", first, used, e)
			}
		}
	}
}

// P1.3
func TestBytes(t *testing.T) {
	if b := wire.Bytes("ab"); !bytes.Equal(b, []byte{129, 2, 97, 98}) {
		t.Errorf("P1.3: Bytes of ab: %v", b)
	}
	if b := wire.Bytes(""); !bytes.Equal(b, []byte{128}) {
		t.Errorf("P1.3: Bytes of nothing: %v", b)
	}
	for _, n := range []int{0, 1, 255, 256, 65535, 65536} {
		s := string(bytes.Repeat([]byte{'a', 0, 255, 128}, n/4+1)[:n])
		b := wire.Bytes(s)
		if !bytes.Equal(b, append(plainInt(n), s...)) {
			t.Errorf("P1.3: Bytes of %d bytes", n)
		}
		if got, used, e := wire.GetBytes(concat(b, []byte("after"))); got != s || used != len(b) || e != api.OK {
			t.Errorf("P1.3: GetBytes of %d bytes: %d bytes, used %d, error %d", n, len(got), used, e)
		}
	}
}

// lengthErrors checks the errors that the length of a string or of a list has, in the order of the chapter. What follows the length is chosen so that a later error would apply, too.
func lengthErrors(t *testing.T, promise, name string) {
	t.Helper()
	for _, x := range []struct {
		b    []byte
		want api.Errno
	}{
		{nil, api.ErrMore},
		{[]byte{137}, api.ErrForm},
		{[]byte{118, 128}, api.ErrForm},
		{[]byte{129}, api.ErrMore},
		{[]byte{130, 1}, api.ErrMore},
		{[]byte{126}, api.ErrMore},
		{[]byte{129, 0, 128}, api.ErrForm},
		{[]byte{136, 128, 0, 0, 0, 0, 0, 0, 0}, api.ErrForm},
		// A negative length.
		{[]byte{127}, api.ErrForm},
		{[]byte{127, 128}, api.ErrForm},
		{[]byte{126, 254, 128, 128}, api.ErrForm},
		{wire.Int(math.MinInt), api.ErrForm},
		// Fewer bytes than that.
		{[]byte{129, 1}, api.ErrMore},
		{[]byte{129, 3, 0, 0}, api.ErrMore},
		{[]byte{130, 1, 0, 0}, api.ErrMore},
		{append(wire.Int(math.MaxInt), 0, 0), api.ErrMore},
		{append(wire.Int(math.MaxInt/16+1), 0, 0), api.ErrMore},
		{append(wire.Int(math.MaxInt/8+1), 0, 0), api.ErrMore},
	} {
		expectError(t, promise, name, x.b, x.want)
	}
}

// P1.3: the errors, in the order of the chapter.
func TestGetBytesErrors(t *testing.T) {
	lengthErrors(t, "P1.3", "Bytes")
	expectError(t, "P1.3", "Bytes", []byte{129, 2, 97}, api.ErrMore)
}

// P1.4
func TestInts(t *testing.T) {
	if b := wire.Ints([]int{1, -1}); !bytes.Equal(b, []byte{129, 2, 129, 1, 127}) {
		t.Errorf("P1.4: Ints of 1, -1: %v", b)
	}
	for _, l := range [][]int{nil, {}, {0}, {1, -1}, edgeInts(), randomInts(255), randomInts(256), randomInts(1000)} {
		want := plainInt(len(l))
		for _, n := range l {
			want = append(want, plainInt(n)...)
		}
		b := wire.Ints(l)
		if !bytes.Equal(b, want) {
			t.Errorf("P1.4: Ints of %v: %v", l, b)
		}
		got, used, e := wire.GetInts(concat(b, []byte{118, 0}))
		if !slices.Equal(got, l) || used != len(b) || e != api.OK {
			t.Errorf("P1.4: GetInts of %v: %v, used %d, error %d", l, got, used, e)
		}
	}
}

// P1.4: the errors, in the order of the chapter.
func TestGetIntsErrors(t *testing.T) {
	lengthErrors(t, "P1.4", "Ints")
	for _, x := range []struct {
		b    []byte
		want api.Errno
	}{
		// Fewer bytes than elements, before an element that is wrong.
		{[]byte{129, 3, 118, 118}, api.ErrMore},
		{[]byte{129, 2, 128, 118}, api.ErrForm},
		{[]byte{129, 2, 128, 129}, api.ErrMore},
		{[]byte{129, 2, 128, 129, 0}, api.ErrForm},
		// The first wrong element counts.
		{[]byte{129, 2, 118, 129}, api.ErrForm},
		{[]byte{129, 3, 128, 131, 1, 118}, api.ErrMore},
		// An element is decoded with all bytes that follow, and not with one byte.
		{[]byte{129, 2, 129, 7}, api.ErrMore},
	} {
		expectError(t, "P1.4", "Ints", x.b, x.want)
	}
}

// P1.5
func TestStrings(t *testing.T) {
	if b := wire.Strings([]string{"", "a"}); !bytes.Equal(b, []byte{129, 2, 128, 129, 1, 97}) {
		t.Errorf("P1.5: Strings of two: %v", b)
	}
	long := string(bytes.Repeat([]byte{255, 0}, 300))
	for _, l := range [][]string{nil, {}, {""}, {"", "a"}, {"a", ""}, {"\x00", "\xff", long}, make([]string, 256)} {
		want := plainInt(len(l))
		for _, s := range l {
			want = append(append(want, plainInt(len(s))...), s...)
		}
		b := wire.Strings(l)
		if !bytes.Equal(b, want) {
			t.Errorf("P1.5: Strings of %q: %v", l, b)
		}
		got, used, e := wire.GetStrings(concat(b, []byte{118, 0}))
		if !slices.Equal(got, l) || used != len(b) || e != api.OK {
			t.Errorf("P1.5: GetStrings of %q: %q, used %d, error %d", l, got, used, e)
		}
	}
}

// P1.5: the errors, in the order of the chapter.
func TestGetStringsErrors(t *testing.T) {
	lengthErrors(t, "P1.5", "Strings")
	for _, x := range []struct {
		b    []byte
		want api.Errno
	}{
		// Fewer bytes than elements, before an element that is wrong.
		{[]byte{129, 3, 127, 127}, api.ErrMore},
		{[]byte{129, 2, 128, 127}, api.ErrForm},
		{[]byte{129, 2, 128, 118}, api.ErrForm},
		{[]byte{129, 2, 128, 129, 0}, api.ErrForm},
		{[]byte{129, 2, 128, 129}, api.ErrMore},
		{[]byte{129, 2, 128, 129, 2, 97}, api.ErrMore},
		// The first wrong element counts.
		{[]byte{129, 2, 127, 129}, api.ErrForm},
		{[]byte{129, 2, 129, 9, 127}, api.ErrMore},
	} {
		expectError(t, "P1.5", "Strings", x.b, x.want)
	}
}

// P1.8
func TestDigests(t *testing.T) {
	for _, l := range [][]api.Digest{nil, {}, {{}}, sampleDigests(), make([]api.Digest, 256)} {
		want := plainInt(len(l))
		for _, d := range l {
			want = append(want, d[:]...)
		}
		b := wire.Digests(l)
		if !bytes.Equal(b, want) {
			t.Errorf("P1.8: Digests of %v: %v", l, b)
		}
		got, used, e := wire.GetDigests(concat(b, []byte{118, 0}))
		if !slices.Equal(got, l) || used != len(b) || e != api.OK {
			t.Errorf("P1.8: GetDigests of %v: %v, used %d, error %d", l, got, used, e)
		}
	}
}

// P1.8: the errors, in the order of the chapter.
func TestGetDigestsErrors(t *testing.T) {
	lengthErrors(t, "P1.8", "Digests")
	for _, n := range []int{1, 2, 15, 16} {
		for missing := 1; missing <= 16; missing++ {
			b := append(wire.Int(n), make([]byte, n*api.DigestSize-missing)...)
			expectError(t, "P1.8", "Digests", b, api.ErrMore)
		}
	}
	// 2^60 times the size of a digest is 0 in 64 bits.
	expectError(t, "P1.8", "Digests", append(wire.Int(1<<60), make([]byte, 64)...), api.ErrMore)
	expectError(t, "P1.8", "Digests", append(wire.Int(1<<60+1), make([]byte, 64)...), api.ErrMore)
}

// P1.6: what is encoded is decoded, whatever follows it.
func TestDecodingIgnoresWhatFollows(t *testing.T) {
	all := encodings()
	for _, c := range codecs() {
		for _, b := range all[c.name] {
			for _, after := range [][]byte{nil, {0}, {118}, {127}, {128}, {129}, {137}, {255}, b} {
				again, _, used, e := c.decode(concat(b, after))
				if e != api.OK || used != len(b) || !bytes.Equal(again, b) {
					t.Errorf("P1.6: Get%s of %v and %v: %v, used %d, error %d", c.name, b, after, again, used, e)
				}
			}
		}
	}
}

// P1.6: proper prefixes.
func TestProperPrefixesNeedMore(t *testing.T) {
	all := encodings()
	for _, c := range codecs() {
		for _, b := range all[c.name] {
			for k := range b {
				expectError(t, "P1.6", c.name, b[:k], api.ErrMore)
			}
		}
	}
}

// eachSequence calls f with all sequences of up to most bytes of an alphabet.
func eachSequence(alphabet []byte, most int, f func(b []byte)) {
	var extend func(b []byte)
	extend = func(b []byte) {
		f(b)
		if len(b) == most {
			return
		}
		for _, x := range alphabet {
			extend(append(slices.Clone(b), x))
		}
	}
	extend(nil)
}

// P1 and P1.6: every byte sequence is either refused with zero results, or begins with the only encoding of what is decoded.
func TestNothingElseIsDecoded(t *testing.T) {
	check := func(b []byte) {
		before := slices.Clone(b)
		for _, c := range codecs() {
			again, zero, used, e := c.decode(b)
			switch e {
			case api.OK:
				if used < 1 || used > len(b) || !bytes.Equal(again, b[:used]) {
					t.Fatalf("P1.6: Get%s(%v): used %d, encoded again %v", c.name, b, used, again)
				}
			case api.ErrMore, api.ErrForm:
				if used != 0 || !zero {
					t.Fatalf("P1: Get%s(%v): error %d with other results", c.name, b, e)
				}
			default:
				t.Fatalf("P1: Get%s(%v): error %d", c.name, b, e)
			}
		}
		if !bytes.Equal(b, before) {
			t.Fatalf("Rules: the argument %v has become %v", before, b)
		}
	}
	eachSequence([]byte{0, 1, 2, 118, 119, 125, 126, 127, 128, 129, 130, 136, 137, 254, 255}, 4, check)
	eachSequence([]byte{0, 1, 126, 127, 128, 129, 255}, 6, check)
	r := rand.New(rand.NewSource(2))
	for range 20000 {
		b := make([]byte, r.Intn(40))
		for i := range b {
			b[i] = byte(118 + r.Intn(20))
			if r.Intn(4) == 0 {
				b[i] = byte(r.Intn(256))
			}
		}
		check(b)
	}
}

// P1.6: encodings in which one byte is another one.
func TestChangedEncodings(t *testing.T) {
	all := encodings()
	for _, c := range codecs() {
		for _, b := range all[c.name] {
			for i := range min(len(b), 20) {
				x := slices.Clone(b)
				for _, y := range []byte{0, 1, 118, 119, 126, 127, 128, 129, 136, 137, 255, b[i] ^ 1, b[i] + 1, b[i] ^ 255} {
					x[i] = y
					again, _, used, e := c.decode(x)
					if e == api.OK && !bytes.Equal(again, x[:used]) {
						t.Errorf("P1.6: Get%s(%v): used %d, encoded again %v", c.name, x, used, again)
					}
				}
			}
		}
	}
}

// P1.7
func TestOrderAndLength(t *testing.T) {
	l := append(edgeInts(), randomInts(200)...)
	for n := -600; n <= 600; n++ {
		l = append(l, n)
	}
	for _, m := range l {
		if k := len(wire.Int(m)); k > 9 {
			t.Errorf("P1.7: Int(%d) has %d bytes", m, k)
		}
		for _, n := range l {
			if (m < n) != (bytes.Compare(wire.Int(m), wire.Int(n)) < 0) {
				t.Fatalf("P1.7: the order of %d and %d", m, n)
			}
		}
	}
}

// Rules: results share no memory with arguments or with each other.
func TestResultsAreNewMemory(t *testing.T) {
	b := wire.Strings([]string{"ab", "cd"})
	l, _, _ := wire.GetStrings(b)
	s, _, _ := wire.GetBytes(b[2:])
	clear(b)
	if !slices.Equal(l, []string{"ab", "cd"}) || s != "ab" {
		t.Errorf("P1.5: the strings have changed with the bytes: %q %q", l, s)
	}
	for _, x := range []struct{ a, b []byte }{
		{wire.Int(0), wire.Int(0)},
		{wire.Int(-1), wire.Int(-1)},
		{wire.Bytes("a"), wire.Bytes("a")},
		{wire.Ints(nil), wire.Ints(nil)},
		{wire.Strings(nil), wire.Strings(nil)},
		{wire.Digests(nil), wire.Digests(nil)},
	} {
		want := slices.Clone(x.b)
		for i := range x.a {
			x.a[i] ^= 255
		}
		_ = append(x.a, 1, 2, 3)
		if !bytes.Equal(x.b, want) {
			t.Errorf("Rules: a result has changed from %v to %v", want, x.b)
		}
	}
	d := sampleDigests()
	e := wire.Digests(d)
	got, _, _ := wire.GetDigests(e)
	clear(e)
	if !slices.Equal(got, d) {
		t.Errorf("P1.8: the digests have changed with the bytes")
	}
}

// Decoding reserves no more memory than is proportional to the bytes, whatever length they claim.
func TestMemoryIsProportional(t *testing.T) {
	const size = 1 << 16
	for _, claim := range []int{size / 16, size / 2, size, size + 1, 1 << 24, 1 << 30, 1 << 40, 1 << 60, math.MaxInt} {
		for _, fill := range []byte{118, 127, 128, 129} {
			b := append(wire.Int(claim), bytes.Repeat([]byte{fill}, size)...)
			for _, c := range codecs()[1:] {
				if used := allocated(func() { c.decode(b) }); used > 200*size {
					t.Errorf("P1.1 to P1.8: Get%s of %d bytes that claim %d: %d bytes of memory", c.name, len(b), claim, used)
				}
			}
		}
	}
}

// allocated returns how many bytes of memory f asks for.
func allocated(f func()) uint64 {
	var before, after runtime.MemStats
	runtime.ReadMemStats(&before)
	f()
	runtime.ReadMemStats(&after)
	return after.TotalAlloc - before.TotalAlloc
}
