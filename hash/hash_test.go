package hash_test

import (
	"bytes"
	"crypto/hmac"
	"crypto/sha256"
	"encoding/hex"
	"math"
	"math/rand"
	"slices"
	"strings"
	"testing"
	"time"

	"scoria/api"
	"scoria/hash"
	"scoria/wire"
)

// message has n bytes of all values, always the same ones.
func message(n int) string {
	b := make([]byte, n)
	rand.New(rand.NewSource(int64(n))).Read(b)
	return string(b)
}

// edgeLengths are the lengths around the ends of the first blocks, and around those at which one byte more of the length is not zero.
func edgeLengths() []int {
	var l []int
	for n := range 5*64 + 2 {
		l = append(l, n)
	}
	for _, n := range []int{1 << 13, 1 << 16, 1 << 21} {
		l = append(l, n-9, n-8, n-1, n, n+1, n+55, n+56)
	}
	return l
}

// splits cuts a text into pieces of n bytes; the last one may be shorter.
func splits(text string, n int) []string {
	var l []string
	for len(text) > n {
		l = append(l, text[:n])
		text = text[n:]
	}
	return append(l, text)
}

func addAll(s hash.Stream, pieces []string) hash.Stream {
	for _, p := range pieces {
		s = s.Add(p)
	}
	return s
}

// P2.1: known hashes, among them the examples of the chapter.
func TestSumKnown(t *testing.T) {
	for _, x := range []struct{ text, want string }{
		{"", "e3b0c44298fc1c149afbf4c8996fb92427ae41e4649b934ca495991b7852b855"},
		{"abc", "ba7816bf8f01cfea414140de5dae2223b00361a396177a9cb410ff61f20015ad"},
		{"abcdbcdecdefdefgefghfghighijhijkijkljklmklmnlmnomnopnopq", "248d6a61d20638b8e5c026930c3e6039a33ce45964ff2167f6ecedd419db06c1"},
		{strings.Repeat("a", 1000000), "cdc76e5c9914fb9281a1c7e284d73e67f1809a48a497200e046d39ccc7112cd0"},
	} {
		h := hash.Sum([]byte(x.text))
		if got := hex.EncodeToString(h[:]); got != x.want {
			t.Errorf("P2.1: Sum of %d bytes: %s", len(x.text), got)
		}
		if s := hash.Begin().Add(x.text).Sum(); s != h {
			t.Errorf("P2.2: the stream of %d bytes: %x", len(x.text), s)
		}
	}
	if hash.Sum(nil) != hash.Sum([]byte{}) || hash.Begin().Sum() != hash.Sum(nil) {
		t.Error("P2.1, P2.2: messages of no bytes have different hashes")
	}
}

// P2.1: messages of the lengths around the ends of blocks; the argument stays as it is.
func TestSumLengths(t *testing.T) {
	for _, n := range edgeLengths() {
		for _, text := range []string{message(n), strings.Repeat("\x00", n), strings.Repeat("\x80", n), strings.Repeat("\xff", n)} {
			b := []byte(text)
			if got := hash.Sum(b); got != sha256.Sum256([]byte(text)) {
				t.Fatalf("P2.1: Sum of %d bytes: %x", n, got)
			}
			if string(b) != text {
				t.Fatalf("Rules: Sum of %d bytes changes its argument", n)
			}
		}
	}
}

// P2.2, P2.6: pieces of all sizes, and empty ones between them.
func TestStreamPieces(t *testing.T) {
	for _, n := range []int{0, 1, 55, 56, 63, 64, 65, 119, 120, 127, 128, 129, 300} {
		text := message(n)
		want := sha256.Sum256([]byte(text))
		for size := 1; size <= 130; size++ {
			s := hash.Begin().Add("")
			for _, p := range splits(text, size) {
				s = s.Add(p).Add("")
			}
			if s.Sum() != want {
				t.Errorf("P2.6: %d bytes in pieces of %d", n, size)
			}
		}
		for at := range n + 1 {
			if hash.Begin().Add(text[:at]).Add(text[at:]).Sum() != want {
				t.Errorf("P2.6: %d bytes in pieces of %d and %d", n, at, n-at)
			}
		}
	}
}

// P2.6: pieces of sizes without a pattern.
func TestStreamMixedPieces(t *testing.T) {
	r := rand.New(rand.NewSource(1))
	for range 300 {
		text := message(r.Intn(1000))
		var pieces []string
		for rest := text; rest != ""; {
			n := min(len(rest), r.Intn(150))
			pieces = append(pieces, rest[:n])
			rest = rest[n:]
		}
		if addAll(hash.Begin(), pieces).Sum() != sha256.Sum256([]byte(text)) {
			t.Fatalf("P2.6: %d bytes in %d pieces", len(text), len(pieces))
		}
	}
}

// P2.2: a stream that two others continue does not change, nor do they change each other.
func TestStreamContinuedTwice(t *testing.T) {
	for _, n := range []int{0, 1, 55, 56, 63, 64, 65, 127, 128, 200} {
		text := message(n)
		s := hash.Begin().Add(text)
		for _, m := range []int{0, 1, 7, 8, 63, 64, 65, 300} {
			left, right := strings.Repeat("l", m), strings.Repeat("r", m+1)
			a := s.Add(left)
			b := s.Add(right)
			c := a.Add(right)
			d := b.Add(left)
			for i, x := range []struct {
				s    hash.Stream
				text string
			}{{s, text}, {d, text + right + left}, {c, text + left + right}, {b, text + right}, {a, text + left}, {s, text}} {
				want := sha256.Sum256([]byte(x.text))
				if x.s.Sum() != want {
					t.Errorf("P2.2: %d bytes continued with %d: stream %d", n, m, i)
				}
				if x.s.Sum() != want || x.s.Add("z").Sum() != sha256.Sum256([]byte(x.text+"z")) {
					t.Errorf("P2.2: %d bytes continued with %d: stream %d has changed with its Sum", n, m, i)
				}
			}
		}
	}
}

// P2.1, P2.2: a message whose length in bits has more than 32 bits.
func TestLongMessage(t *testing.T) {
	if testing.Short() {
		t.Skip("a message of more than 2^29 bytes")
	}
	const size, many = 1 << 20, 1 << 9
	piece := message(size)
	s, other := hash.Begin(), sha256.New()
	for range many {
		s = s.Add(piece)
		other.Write([]byte(piece))
	}
	s = s.Add("end")
	other.Write([]byte("end"))
	if got := s.Sum(); !bytes.Equal(got[:], other.Sum(nil)) {
		t.Errorf("P2.2: a message of %d bytes: %x", size*many+3, got)
	}
}

// P2.3: known codes, among them the examples of the chapter.
func TestMacKnown(t *testing.T) {
	for _, x := range []struct{ key, text, want string }{
		{"", "", "b613679a0814d9ec772f95d778c35fc5ff1697c493715653c6c712144292c5ad"},
		{"Jefe", "what do ya want for nothing?", "5bdcc146bf60754e6a042426089575c75a003f089d2739839dec58b964ec3843"},
		{strings.Repeat("\x0b", 20), "Hi There", "b0344c61d8db38535ca8afceaf0bf12b881dc200c9833da726e9376c2e32cff7"},
		{strings.Repeat("\xaa", 131), "Test Using Larger Than Block-Size Key - Hash Key First", "60e431591ee0b67f0d8a26aacbf5b77f8e0bc6213728c5140546040f0ee37f54"},
	} {
		if got := hex.EncodeToString([]byte(hash.Mac(x.key, x.text))); got != x.want {
			t.Errorf("P2.3: Mac(%q, %q): %s", x.key, x.text, got)
		}
	}
}

// P2.3: keys of fewer than 64 bytes, of 64, and of more.
func TestMacKeys(t *testing.T) {
	for k := range 200 {
		key := message(k)
		for _, n := range []int{0, 1, 55, 56, 63, 64, 65, 300} {
			text := message(n)
			other := hmac.New(sha256.New, []byte(key))
			other.Write([]byte(text))
			if got := hash.Mac(key, text); got != string(other.Sum(nil)) {
				t.Errorf("P2.3: Mac of %d bytes with a key of %d: %x", n, k, got)
			}
		}
	}
}

// P2.3: which keys are extended to the same one, and which are not.
func TestMacSameKeys(t *testing.T) {
	long := message(65)
	h := hash.Sum([]byte(long))
	if hash.Mac(long, "x") != hash.Mac(string(h[:]), "x") {
		t.Error("P2.3: a key of 65 bytes is not replaced by its Sum")
	}
	full := message(64)
	h = hash.Sum([]byte(full))
	if hash.Mac(full, "x") == hash.Mac(string(h[:]), "x") {
		t.Error("P2.3: a key of 64 bytes is replaced by its Sum")
	}
	if hash.Mac("a", "x") != hash.Mac("a\x00\x00", "x") || hash.Mac("a", "x") == hash.Mac("\x00a", "x") {
		t.Error("P2.3: a key of fewer than 64 bytes is not extended by zero bytes behind it")
	}
}

// plainOf is P2.4 word for word; tag is from 0 to 255.
func plainOf(tag byte, parts []string) api.Digest {
	b := []byte{tag}
	for _, p := range parts {
		b = append(b, wire.Bytes(p)...)
	}
	h := sha256.Sum256(b)
	return api.Digest(h[:16])
}

// P2.4: known digests, among them the examples of the chapter.
func TestOfKnown(t *testing.T) {
	for _, x := range []struct {
		tag   int
		parts []string
		want  string
	}{
		{1, nil, "4bf5122f344554c53bde2ebb8cd2b7e3"},
		{1, []string{}, "4bf5122f344554c53bde2ebb8cd2b7e3"},
		{8, []string{"a", ""}, "36cd50850329f88406e31bb8a7d8fb62"},
	} {
		d := hash.Of(x.tag, x.parts...)
		if got := hex.EncodeToString(d[:]); got != x.want {
			t.Errorf("P2.4: Of(%d, %q): %s", x.tag, x.parts, got)
		}
	}
}

// partLists are lists of parts of which no two are the same, but many are the same when their parts are put together.
func partLists() [][]string {
	var l [][]string
	parts := []string{"", "a", "aa", "b", "\x80", "\x81", "\x81\x01a", "\x80\x80", "\x00"}
	var extend func(list []string)
	extend = func(list []string) {
		l = append(l, slices.Clone(list))
		if len(list) == 3 {
			return
		}
		for _, p := range parts {
			extend(append(slices.Clone(list), p))
		}
	}
	extend(nil)
	for _, n := range []int{54, 55, 56, 62, 63, 64, 255, 256, 65535, 65536} {
		l = append(l, []string{message(n)}, []string{message(n), ""}, []string{"", message(n)}, []string{message(n), message(n + 1)})
	}
	return append(l, make([]string, 100), make([]string, 101))
}

// P2.4: lists of parts, with no parts and with empty ones; the list stays as it is.
func TestOfParts(t *testing.T) {
	for _, l := range partLists() {
		before := slices.Clone(l)
		if d := hash.Of(api.TagTree, l...); d != plainOf(api.TagTree, l) {
			t.Errorf("P2.4: Of(1, %.40q): %x", l, d)
		}
		if !slices.Equal(l, before) {
			t.Errorf("Rules: Of changes %.40q", before)
		}
	}
}

// P2.4: tags that are negative or greater than 255.
func TestOfTags(t *testing.T) {
	l := []string{"part", ""}
	for tag := -600; tag <= 600; tag++ {
		if d := hash.Of(tag, l...); d != plainOf(byte((tag+1024)%256), l) {
			t.Errorf("P2.4: Of(%d): %x", tag, d)
		}
	}
	for _, x := range []struct {
		tag int
		is  byte
	}{{256, 0}, {264, 8}, {-1, 255}, {-255, 1}, {-256, 0}, {-257, 255}, {1<<32 + 5, 5}, {math.MaxInt, 255}, {math.MinInt, 0}, {math.MinInt + 3, 3}} {
		if d := hash.Of(x.tag, l...); d != plainOf(x.is, l) {
			t.Errorf("P2.4: Of(%d) is not Of(%d): %x", x.tag, x.is, d)
		}
	}
}

// P2.6: other parts or another tag have another digest.
func TestOfIsInjective(t *testing.T) {
	seen := map[api.Digest]bool{}
	for _, l := range partLists() {
		d := hash.Of(api.TagCode, l...)
		if seen[d] {
			t.Errorf("P2.6: the parts %.40q have the digest of others", l)
		}
		seen[d] = true
	}
	for tag := range 256 {
		for _, l := range [][]string{nil, {""}, {"a"}, {"\x01"}} {
			d := hash.Of(tag, l...)
			if seen[d] && tag != api.TagCode {
				t.Errorf("P2.6: the tag %d with %q has the digest of others", tag, l)
			}
			seen[d] = true
		}
	}
}

// P2.5: strings of the same and of different lengths.
func TestEqual(t *testing.T) {
	l := []string{"", "a", "b", "ab", "ac", "ba", "aa", "bb", "\x00", "\x00\x00", "a\x00", "\xff", "\xfe", "\xff\xff", "\xc3\xa4", "\xc3\xa5", "\xe2\x82\xac", message(32), message(33), message(32)[:31] + "x", strings.Repeat("a", 256), strings.Repeat("a", 257)}
	for i, a := range l {
		for k, b := range l {
			if got := hash.Equal(a, strings.Clone(b)); got != (i == k) {
				t.Errorf("P2.5: Equal(%q, %q): %v", a, b, got)
			}
		}
	}
}

// P2.5: strings that differ in one bit, or in two that are the same at two places.
func TestEqualBits(t *testing.T) {
	for _, n := range []int{1, 2, 16, 32, 33} {
		a := message(n)
		for i := range n {
			for bit := range 8 {
				b := []byte(a)
				b[i] ^= 1 << bit
				if hash.Equal(a, string(b)) || hash.Equal(string(b), a) {
					t.Errorf("P2.5: the strings of %d bytes differ in bit %d of byte %d", n, bit, i)
				}
				b[(i+1)%n] ^= 1 << bit
				if hash.Equal(a, string(b)) != (n == 1) {
					t.Errorf("P2.5: the strings of %d bytes differ in bit %d of byte %d and the next one", n, bit, i)
				}
			}
		}
	}
}

// fastest returns the shortest time of many calls, which other work of the machine disturbs least.
func fastest(f func()) time.Duration {
	best := time.Hour
	for range 50 {
		start := time.Now()
		f()
		best = min(best, time.Since(start))
	}
	return best
}

// P2.5: the time does not tell where two strings differ. A comparison that stops there would take a millionth of the time.
func TestEqualLooksAtAllBytes(t *testing.T) {
	same := strings.Repeat("a", 1<<20)
	early, late := "b"+same[1:], same[1:]+"b"
	atOnce := fastest(func() { hash.Equal(same, early) })
	atEnd := fastest(func() { hash.Equal(same, late) })
	if atOnce*20 < atEnd || atEnd*20 < atOnce {
		t.Errorf("P2.5: strings that differ at once take %v, at the end %v", atOnce, atEnd)
	}
}

// P1: equal calls have equal results.
func TestCallsKeepNothing(t *testing.T) {
	first := hash.Of(3, "a", "b")
	code := hash.Mac("key", "text")
	hash.Of(4, "c")
	hash.Mac("other", "text")
	hash.Begin().Add("more").Sum()
	if hash.Of(3, "a", "b") != first || hash.Mac("key", "text") != code || hash.Begin().Sum() != hash.Sum(nil) {
		t.Error("P1: a call depends on the ones before")
	}
}
