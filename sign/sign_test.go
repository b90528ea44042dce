package sign_test

import (
	"crypto/hmac"
	"crypto/sha256"
	"encoding/hex"
	"math"
	"math/rand"
	"slices"
	"strings"
	"testing"

	"scoria/api"
	"scoria/sign"
	"scoria/wire"
)

const maxMessage = 1 << 20

var (
	seedS     = strings.Repeat("s", 32)
	seedCount = "\x00\x01\x02\x03\x04\x05\x06\x07\x08\x09\x0a\x0b\x0c\x0d\x0e\x0f\x10\x11\x12\x13\x14\x15\x16\x17\x18\x19\x1a\x1b\x1c\x1d\x1e\x1f"
	seedFull  = strings.Repeat("\xff", 32)
)

// The plain functions are the chapter word for word, with the hash functions of the standard library. Digests are strings of 16 bytes there.

func plainOf(tag byte, parts ...string) string {
	b := []byte{tag}
	for _, p := range parts {
		b = append(b, wire.Bytes(p)...)
	}
	h := sha256.Sum256(b)
	return string(h[:16])
}

func plainDigits(d string) []int {
	var l []int
	sum := 0
	for _, b := range []byte(d) {
		for _, x := range []int{int(b >> 6 & 3), int(b >> 4 & 3), int(b >> 2 & 3), int(b & 3)} {
			l = append(l, x)
			sum += 3 - x
		}
	}
	return append(l, sum/64, sum/16%4, sum/4%4, sum%4)
}

func plainValue(seed string, i, c, t int) string {
	if t == 0 {
		m := hmac.New(sha256.New, []byte(seed))
		m.Write([]byte("chain"))
		m.Write(wire.Ints([]int{i, c}))
		return string(m.Sum(nil)[:16])
	}
	return plainStep(plainValue(seed, i, c, t-1), i, c, t-1)
}

// plainStep is the value of a chain at the height t + 1.
func plainStep(value string, i, c, t int) string {
	return plainOf(api.TagChain, string(wire.Ints([]int{i, c, t})), value)
}

func plainNode(seed string, l, k int) string {
	if l > 0 {
		return plainOf(api.TagNode, plainNode(seed, l-1, 2*k), plainNode(seed, l-1, 2*k+1))
	}
	all := ""
	for c := range 68 {
		all += plainValue(seed, k, c, 3)
	}
	return plainOf(api.TagLeaf, plainOf(api.TagKey, all))
}

func plainDigest(public string, i int, message string) string {
	return plainOf(api.TagMessage, public, string(wire.Int(i)), message)
}

func plainSign(seed string, h, i int, message string) string {
	out := string(wire.Int(i))
	for c, x := range plainDigits(plainDigest(plainNode(seed, h, 0), i, message)) {
		out += plainValue(seed, i, c, x)
	}
	for l := range h {
		k := i >> l
		if k%2 == 0 {
			out += plainNode(seed, l, k+1)
		} else {
			out += plainNode(seed, l, k-1)
		}
	}
	return out
}

// asDigest returns 16 bytes as a digest.
func asDigest(s string) api.Digest {
	return api.Digest([]byte(s))
}

// filled returns the digest of 16 equal bytes.
func filled(b byte) api.Digest {
	return asDigest(strings.Repeat(string([]byte{b}), 16))
}

func randomDigest(r *rand.Rand) api.Digest {
	var d api.Digest
	r.Read(d[:])
	return d
}

func mustPublic(t *testing.T, seed string, height int) api.Digest {
	t.Helper()
	p, e := sign.Public(seed, height)
	if e != api.OK {
		t.Fatalf("P3.1: Public(%q, %d): error %d", seed, height, e)
	}
	return p
}

func mustSign(t *testing.T, seed string, height, index int, message string) string {
	t.Helper()
	s, e := sign.Sign(seed, height, index, message)
	if e != api.OK {
		t.Fatalf("P3.3: Sign(%q, %d, %d, %.20q): error %d", seed, height, index, message, e)
	}
	return s
}

// expectVerify checks the results of Verify; the index is 0 with an error.
func expectVerify(t *testing.T, promise, what string, p api.Digest, height int, message, signature string, index int, want api.Errno) {
	t.Helper()
	n, e := sign.Verify(p, height, message, signature)
	if n != index || e != want {
		t.Errorf("%s: %s: Verify with the height %d and a signature of %d bytes: index %d, error %d; want %d, %d", promise, what, height, len(signature), n, e, index, want)
	}
}

// P3.1: known digits, among them the example of the chapter.
func TestDigitsKnown(t *testing.T) {
	for _, x := range []struct {
		d    api.Digest
		own  []int // of the first bytes
		rest int   // all the other digits of the digest
		sum  []int
	}{
		{filled(0), nil, 0, []int{3, 0, 0, 0}},
		{filled(255), nil, 3, []int{0, 0, 0, 0}},
		{filled(0x55), nil, 1, []int{2, 0, 0, 0}},
		{filled(0xaa), nil, 2, []int{1, 0, 0, 0}},
		{api.Digest{0x1b, 0xff}, []int{0, 1, 2, 3, 3, 3, 3, 3}, 0, []int{2, 2, 3, 2}},
		{api.Digest{0xe4}, []int{3, 2, 1, 0}, 0, []int{2, 3, 2, 2}},
		{api.Digest{0x01}, []int{0, 0, 0, 1}, 0, []int{2, 3, 3, 3}},
		{api.Digest{0x80}, []int{2, 0, 0, 0}, 0, []int{2, 3, 3, 2}},
	} {
		want := slices.Clone(x.own)
		for len(want) < 64 {
			want = append(want, x.rest)
		}
		want = append(want, x.sum...)
		if l := sign.Digits(x.d); !slices.Equal(l, want) {
			t.Errorf("P3.1: Digits(%x): %v, want %v", x.d, l, want)
		}
	}
}

// P3.1: each byte at each place, and digests without a pattern.
func TestDigits(t *testing.T) {
	if sign.Chains != 68 || sign.Top != 3 || sign.MaxHeight != 6 {
		t.Errorf("P3.1: the constants are %d, %d, %d", sign.Chains, sign.Top, sign.MaxHeight)
	}
	check := func(d api.Digest) {
		if l := sign.Digits(d); !slices.Equal(l, plainDigits(string(d[:]))) {
			t.Errorf("P3.1: Digits(%x): %v", d, l)
		}
	}
	for i := range api.DigestSize {
		for b := range 256 {
			for _, others := range []byte{0, 255, 0x1b} {
				d := filled(others)
				d[i] = byte(b)
				check(d)
			}
		}
	}
	r := rand.New(rand.NewSource(3))
	for range 2000 {
		check(randomDigest(r))
	}
}

// Rules: lists of digits are new memory.
func TestDigitsAreNewMemory(t *testing.T) {
	d := filled(0x1b)
	a, b := sign.Digits(d), sign.Digits(d)
	want := slices.Clone(b)
	for i := range a {
		a[i] = 9
	}
	_ = append(a, 1, 2, 3)
	if !slices.Equal(b, want) || !slices.Equal(sign.Digits(d), want) {
		t.Errorf("Rules: digits have changed with others: %v", b)
	}
}

// P3.1: roots that another program has computed.
func TestPublicKnown(t *testing.T) {
	for _, x := range []struct {
		seed  string
		roots []string
	}{
		{seedS, []string{"331c3399944e440bb0ee43acc3c1dfb8", "da37e9694c084f1beb9b6c266fc8860b", "f50f235e90dd9a03108cbc02d08a2256", "f9b43c8f0a370857298edc74597648ff", "bd61f2581dc0a25b16aac52415865218", "9b42dce62532e5d9dd100b70eba9f5ff", "0c0c082c843e95b76bf8eb37eac00ec1"}},
		{seedCount, []string{"6f3bfbcad5ed1d8913243e3b91e76a37", "8db226b9a4e11cf59cdd185655ca6202", "153b4866f7474bbe918ca17565af9267", "301c88cdf87f8877c3d6e6daa76dbc5a", "fa5a7b14309868ed0b4532eae5d5d94c", "db85a52abcba4b1a348b3552ed73bbde", "10f7d78eabae1d3c016142521c256c4c"}},
		{seedFull, []string{"5d3acd7904d9eabcd0dbbbd573b0e6e4", "cef30a77b5f5010c719c8bd233456624", "e382f58750c53a3b0c4fba65bbc5410e", "6190578c3c9086cdefa13b549d366f28", "954d1065326e38145097391ce92375f4", "b478e6d6ac21d434d8b18b73e9dba713", "75600a93b975297d15872992209de256"}},
	} {
		for h, want := range x.roots {
			p := mustPublic(t, x.seed, h)
			if got := hex.EncodeToString(p[:]); got != want {
				t.Errorf("P3.1: Public(%q, %d): %s, want %s", x.seed, h, got, want)
			}
		}
	}
}

// P3.1: every bit of the seed counts.
func TestPublicOfOtherSeeds(t *testing.T) {
	seen := map[api.Digest]bool{}
	check := func(seed string) {
		p := mustPublic(t, seed, 0)
		if string(p[:]) != plainNode(seed, 0, 0) {
			t.Errorf("P3.1: Public(%q, 0): %x", seed, p)
		}
		if seen[p] {
			t.Errorf("P3.1: Public(%q, 0) is that of another seed", seed)
		}
		seen[p] = true
	}
	check(seedCount)
	for i := range api.KeySize {
		for bit := range 8 {
			b := []byte(seedCount)
			b[i] ^= 1 << bit
			check(string(b))
		}
	}
}

// wrongSeeds are the seeds that do not have 32 bytes.
func wrongSeeds() []string {
	return []string{"", "s", seedS[:16], seedS[:31], seedS + "s", seedS + "\x00", seedS + seedS, strings.Repeat("s", 1000), "\u00e9" + seedS[:31]}
}

// wrongHeights are heights that no tree has.
func wrongHeights() []int {
	return []int{-1, 7, -2, 8, 63, 64, 65, -64, 1 << 32, math.MaxInt, math.MinInt}
}

// P3.1: the errors, alone and together.
func TestPublicErrors(t *testing.T) {
	check := func(seed string, height int) {
		t.Helper()
		if p, e := sign.Public(seed, height); p != (api.Digest{}) || e != api.ErrArg {
			t.Errorf("P3.1: Public of %d bytes and the height %d: %x, error %d", len(seed), height, p, e)
		}
	}
	for _, seed := range wrongSeeds() {
		for h := -1; h <= 7; h++ {
			check(seed, h)
		}
	}
	for _, h := range wrongHeights() {
		check(seedS, h)
	}
	// 32 bytes, but fewer characters; 32 characters, but more bytes.
	mustPublic(t, strings.Repeat("\u00e9", 16), 0)
	check(strings.Repeat("\u00e9", 32), 0)
}

// P3.2: digests that another program has computed.
func TestDigestKnown(t *testing.T) {
	count := asDigest(seedCount[:16])
	for _, x := range []struct {
		public  api.Digest
		index   int
		message string
		want    string
	}{
		{filled(0), 0, "", "ed416ee7a23e2acf3728ea68922425fd"},
		{filled(255), -1, "a", "91d380502fe111682a39a819735e5013"},
		{count, math.MaxInt, "message", "8071863e0bda8056cc1675aa233ebcc4"},
		{count, math.MinInt, "", "540eec8264fd63fe84d3207b3511e1a2"},
		{count, 300, strings.Repeat("\x00", maxMessage+1), "2d653b3773e8ccacbb28c0d1dc3e0d98"},
	} {
		d := sign.Digest(x.public, x.index, x.message)
		if got := hex.EncodeToString(d[:]); got != x.want {
			t.Errorf("P3.2: Digest(%x, %d, %d bytes): %s, want %s", x.public, x.index, len(x.message), got, x.want)
		}
	}
}

// messages are messages of all lengths that a signature may have, and of other contents.
func messages() []string {
	return []string{"", "m", "n", "message", "\x00", "\xff\xfe\x80", "\u00e9", strings.Repeat("m", 64), strings.Repeat("x", maxMessage-1), strings.Repeat("x", maxMessage)}
}

// P3.2: all arguments, also indices and messages that no signature has; no two have the same digest.
func TestDigest(t *testing.T) {
	seen := map[api.Digest]bool{}
	for _, p := range []api.Digest{filled(0), filled(255), asDigest(seedCount[:16]), {15: 1}} {
		for _, i := range []int{0, 1, 63, 64, 255, 256, -1, -2, -257, math.MaxInt, math.MinInt} {
			for _, m := range append(messages(), strings.Repeat("x", maxMessage+1)) {
				d := sign.Digest(p, i, m)
				if string(d[:]) != plainDigest(string(p[:]), i, m) {
					t.Errorf("P3.2: Digest(%x, %d, %d bytes): %x", p, i, len(m), d)
				}
				if seen[d] {
					t.Errorf("P3.2: Digest(%x, %d, %d bytes) is that of other arguments", p, i, len(m))
				}
				seen[d] = true
			}
		}
	}
}

// P3.3: signatures that another program has computed.
func TestSignKnown(t *testing.T) {
	for _, x := range []struct {
		seed          string
		height, index int
		message       string
		size          int
		want          string // the SHA-256 hash of the signature
	}{
		{seedS, 0, 0, "", 1089, "90546765fdcd9373d35711a3f26e10e995a11ee2ed2a09d020e441c9cfa02b48"},
		{seedS, 1, 1, "m", 1106, "3a1899aacf9cae05b2e7a765927231f847bc4c57981107b3c5b48d5b466b12f9"},
		{seedCount, 3, 5, "message", 1138, "e9641690d95dc17d3fd68c4b244d7d190f3896d9c5d0b03a5e56d28d29e1a205"},
		{seedFull, 6, 0, "\x00", 1185, "7af93666461f6a3dd4b4be36bf4b68ae463387d3496df6f5fb34325b5ea6f53a"},
		{seedFull, 6, 63, strings.Repeat("\x00", maxMessage), 1186, "19440c0b8c7b764a186cd35d7e8e2ae9015566789393e6750c75d91cda7a4fbf"},
		{seedS, 6, 37, strings.Repeat("x", 300), 1186, "49f12fa82352c15624d35a75686d8d5c4c937f09ca0c19b00da48a99acfdcd37"},
	} {
		s := mustSign(t, x.seed, x.height, x.index, x.message)
		h := sha256.Sum256([]byte(s))
		if got := hex.EncodeToString(h[:]); len(s) != x.size || got != x.want {
			t.Errorf("P3.3: Sign(%q, %d, %d, %d bytes): %d bytes with the hash %s", x.seed, x.height, x.index, len(x.message), len(s), got)
		}
		expectVerify(t, "P3.5", "a known signature", mustPublic(t, x.seed, x.height), x.height, x.message, s, x.index, api.OK)
	}
}

// edgeIndices are the first, the last and some other indices of a tree.
func edgeIndices(height int) []int {
	last := 1<<height - 1
	l := []int{0, 1, 2, last / 2, last/2 + 1, last * 2 / 3, last - 1, last}
	slices.Sort(l)
	l = slices.DeleteFunc(l, func(i int) bool { return i < 0 || i > last })
	return slices.Compact(l)
}

// P3.3: the signatures of the chapter, for all heights.
func TestSign(t *testing.T) {
	for h := range sign.MaxHeight + 1 {
		for _, i := range edgeIndices(h) {
			if s := mustSign(t, seedCount, h, i, "message"); s != plainSign(seedCount, h, i, "message") {
				t.Errorf("P3.3: Sign with the height %d and the index %d", h, i)
			}
		}
	}
	for _, m := range messages() {
		if s := mustSign(t, seedFull, 2, 2, m); s != plainSign(seedFull, 2, 2, m) {
			t.Errorf("P3.3: Sign of a message of %d bytes", len(m))
		}
	}
}

// P3.3: the errors, in the order of the chapter; with each of them those that come later apply, too.
func TestSignErrors(t *testing.T) {
	long := strings.Repeat("m", maxMessage+1)
	check := func(seed string, height, index int, message string, want api.Errno) {
		t.Helper()
		if s, e := sign.Sign(seed, height, index, message); s != "" || e != want {
			t.Errorf("P3.3: Sign of %d bytes, the height %d, the index %d, %d bytes: %d bytes, error %d; want error %d", len(seed), height, index, len(message), len(s), e, want)
		}
	}
	for _, seed := range wrongSeeds() {
		check(seed, 0, 0, "m", api.ErrArg)
		check(seed, 6, 63, "m", api.ErrArg)
		check(seed, 1, 2, "m", api.ErrArg)
		check(seed, 1, 0, long, api.ErrArg)
		check(seed, 7, -1, long, api.ErrArg)
	}
	for _, h := range wrongHeights() {
		check(seedS, h, 0, "m", api.ErrArg)
		check(seedS, h, -1, "m", api.ErrArg)
		check(seedS, h, math.MaxInt, "m", api.ErrArg)
		check(seedS, h, 0, long, api.ErrArg)
		check(seedS, h, math.MinInt, long, api.ErrArg)
	}
	for h := range sign.MaxHeight + 1 {
		for _, i := range []int{-1, 1 << h, 1<<h + 1, -1 << h, 1 << 32, math.MaxInt, math.MinInt} {
			check(seedS, h, i, "m", api.ErrSpent)
			check(seedS, h, i, long, api.ErrSpent)
		}
		for _, i := range edgeIndices(h) {
			check(seedS, h, i, long, api.ErrLimit)
			check(seedS, h, i, long+long, api.ErrLimit)
		}
	}
}

// P3.5: all heights, all indices; the length is always the same but for the index.
func TestVerifyAcceptsWhatIsSigned(t *testing.T) {
	for h := range sign.MaxHeight + 1 {
		p := mustPublic(t, seedS, h)
		for i := range 1 << h {
			s := mustSign(t, seedS, h, i, "message")
			if len(s) != len(wire.Int(i))+(68+h)*16 {
				t.Errorf("P3.5: height %d, index %d: %d bytes", h, i, len(s))
			}
			expectVerify(t, "P3.5", "what is signed", p, h, "message", s, i, api.OK)
		}
	}
	p := mustPublic(t, seedCount, 2)
	for _, m := range messages() {
		expectVerify(t, "P3.5", "what is signed", p, 2, m, mustSign(t, seedCount, 2, 3, m), 3, api.OK)
	}
}

// P3.4: another message, another key, and another height.
func TestVerifyRefusesOthers(t *testing.T) {
	const h, i = 2, 2
	p := mustPublic(t, seedS, h)
	s := mustSign(t, seedS, h, i, "message")
	for _, m := range append(messages(), "massage", "messag", "message\x00", "Message") {
		if m != "message" {
			expectVerify(t, "P3.4", "another message", p, h, m, s, 0, api.ErrSign)
		}
	}
	for k := range p {
		for bit := range 8 {
			other := p
			other[k] ^= 1 << bit
			expectVerify(t, "P3.4", "another key", other, h, "message", s, 0, api.ErrSign)
		}
	}
	expectVerify(t, "P3.4", "the key of another seed", mustPublic(t, seedFull, h), h, "message", s, 0, api.ErrSign)
	expectVerify(t, "P3.4", "the zero key", api.Digest{}, h, "message", s, 0, api.ErrSign)
	for other := range sign.MaxHeight + 1 {
		if other != h {
			expectVerify(t, "P3.4", "another height", p, other, "message", s, 0, api.ErrForm)
			expectVerify(t, "P3.4", "the key of another height", mustPublic(t, seedS, other), h, "message", s, 0, api.ErrSign)
		}
	}
}

// P3.4: the errors, in the order of the chapter; with each of them some that come later apply, too.
func TestVerifyErrors(t *testing.T) {
	p := mustPublic(t, seedS, 1)
	good := mustSign(t, seedS, 1, 1, "m")
	rest := good[2:]
	long := strings.Repeat("m", maxMessage+1)
	for _, h := range wrongHeights() {
		for _, s := range []string{"", good, "\x89", rest} {
			expectVerify(t, "P3.4", "a wrong height", p, h, "m", s, 0, api.ErrArg)
			expectVerify(t, "P3.4", "a wrong height", p, h, long, s, 0, api.ErrArg)
		}
	}
	for _, x := range []struct {
		what, message, signature string
		want                     api.Errno
	}{
		{"a long message", long, good, api.ErrLimit},
		{"a long message", long, "", api.ErrLimit},
		{"a long message", long, "\x89", api.ErrLimit},
		{"a long message", long, "\x7f" + rest, api.ErrLimit},
		{"a long message", long + long, good + "x", api.ErrLimit},
		{"no signature", "m", "", api.ErrMore},
		{"no signature", strings.Repeat("m", maxMessage), "", api.ErrMore},
		{"a cut index", "m", "\x81", api.ErrMore},
		{"a cut index", "m", "\x82\x01", api.ErrMore},
		{"a cut negative index", "m", "\x7e", api.ErrMore},
		{"a cut index", "m", "\x88\x01\x02", api.ErrMore},
		{"no index", "m", "\x89", api.ErrForm},
		{"no index", "m", "\x76" + rest, api.ErrForm},
		{"no index", "m", "\xff" + rest, api.ErrForm},
		{"an index with a leading zero", "m", "\x81\x00" + rest, api.ErrForm},
		{"an index with a leading zero", "m", "\x82\x00\x01" + rest, api.ErrForm},
		{"an index of 2^63", "m", "\x88\x80\x00\x00\x00\x00\x00\x00\x00" + rest, api.ErrForm},
		{"the index alone", "m", "\x81\x01", api.ErrForm},
		{"a wrong index alone", "m", "\x81\x02", api.ErrForm},
	} {
		expectVerify(t, "P3.4", x.what, p, 1, x.message, x.signature, 0, x.want)
	}
}

// P3.4, P3.5: signatures that are cut anywhere, or that go on.
func TestVerifyLengths(t *testing.T) {
	for h := range 3 {
		p := mustPublic(t, seedS, h)
		i := 1<<h - 1
		s := mustSign(t, seedS, h, i, "m")
		for n := range len(s) {
			want := api.ErrForm
			if n < len(wire.Int(i)) {
				want = api.ErrMore
			}
			expectVerify(t, "P3.5", "a cut signature", p, h, "m", s[:n], 0, want)
		}
		for _, after := range []string{"x", "\x00", s[len(s)-1:], s[len(s)-16:], strings.Repeat("\x00", 16), s} {
			expectVerify(t, "P3.5", "a longer signature", p, h, "m", s+after, 0, api.ErrForm)
		}
		at := len(wire.Int(i)) + 16*40
		expectVerify(t, "P3.5", "a value less", p, h, "m", s[:at]+s[at+16:], 0, api.ErrForm)
		expectVerify(t, "P3.5", "a value twice", p, h, "m", s[:at]+s[at-16:], 0, api.ErrForm)
	}
}

// P3.4: signatures that begin with another index.
func TestVerifyOtherIndices(t *testing.T) {
	for h := range sign.MaxHeight + 1 {
		p := mustPublic(t, seedS, h)
		for _, i := range edgeIndices(h) {
			rest := mustSign(t, seedS, h, i, "m")[len(wire.Int(i)):]
			for _, other := range []int{-1, 0, 1, i + 1, i - 1, i ^ 1, 1<<h - 1, 1 << h, 1<<h + i, -1 - i, 255, 256, 1 << 32, math.MaxInt, math.MinInt} {
				index, want := 0, api.ErrForm
				switch {
				case other == i:
					index, want = i, api.OK
				case other >= 0 && other < 1<<h:
					want = api.ErrSign
				}
				expectVerify(t, "P3.4", "an index before the rest", p, h, "m", string(wire.Int(other))+rest, index, want)
			}
		}
	}
}

// P3.4: each byte of each value and of each node, changed.
func TestVerifyChangedBytes(t *testing.T) {
	for _, h := range []int{0, 3} {
		p := mustPublic(t, seedCount, h)
		i := 1 << h / 2
		s := mustSign(t, seedCount, h, i, "m")
		for k := len(wire.Int(i)); k < len(s); k++ {
			for _, x := range []byte{1, 128, 255} {
				b := []byte(s)
				b[k] ^= x
				expectVerify(t, "P3.4", "a changed byte", p, h, "m", string(b), 0, api.ErrSign)
			}
		}
	}
}

// P3.4: each byte in the place of the index.
func TestVerifyChangedIndexByte(t *testing.T) {
	p := mustPublic(t, seedS, 2)
	s := mustSign(t, seedS, 2, 3, "m")
	for b := range 256 {
		index, want := 0, api.ErrForm
		switch b {
		case 1, 2:
			want = api.ErrSign
		case 3:
			index, want = 3, api.OK
		}
		expectVerify(t, "P3.4", "a changed index", p, 2, "m", s[:1]+string([]byte{byte(b)})+s[2:], index, want)
	}
}

// P3.4: values and nodes in another order, and those of other keys.
func TestVerifyMixedParts(t *testing.T) {
	const h, i = 2, 1
	p := mustPublic(t, seedS, h)
	s, head := mustSign(t, seedS, h, i, "m"), len(wire.Int(i))
	other := mustSign(t, seedS, h, 2, "m")
	foreign := mustSign(t, seedFull, h, i, "m")
	again := mustSign(t, seedS, h, i, "n")
	swap := func(k int) string {
		at := head + 16*k
		return s[:at] + s[at+16:at+32] + s[at:at+16] + s[at+32:]
	}
	for k := range 68 + h - 1 {
		expectVerify(t, "P3.4", "swapped parts", p, h, "m", swap(k), 0, api.ErrSign)
	}
	for k := range 68 + h {
		at := head + 16*k
		for _, x := range []string{other, foreign, again} {
			if x[at:at+16] == s[at:at+16] {
				continue
			}
			expectVerify(t, "P3.4", "a part of another signature", p, h, "m", s[:at]+x[at:at+16]+s[at+16:], 0, api.ErrSign)
		}
	}
	expectVerify(t, "P3.4", "the nodes of another index", p, h, "m", s[:head+68*16]+other[head+68*16:], 0, api.ErrSign)
}

// P3.4: the bytes of a signature may be any, and Verify needs nothing of the package to accept one.
func TestVerifyOfAnyBytes(t *testing.T) {
	for h := range sign.MaxHeight + 1 {
		for _, b := range []string{"\x00", "\x07", "\xff"} {
			s := string(wire.Int(1<<h-1)) + strings.Repeat(b, (68+h)*16)
			expectVerify(t, "P3.4", "equal bytes", api.Digest{}, h, "m", s, 0, api.ErrSign)
		}
	}
	for h := range 4 {
		p := asDigest(plainNode(seedFull, h, 0))
		for i := range 1 << h {
			expectVerify(t, "P3.4", "a plain signature", p, h, "plain", plainSign(seedFull, h, i, "plain"), i, api.OK)
		}
	}
}

// P3.6: values that are advanced do not sign, neither the same message nor another one.
func TestAdvancedValuesDoNotSign(t *testing.T) {
	const h, i = 1, 1
	p := mustPublic(t, seedS, h)
	s, head := mustSign(t, seedS, h, i, "m"), len(wire.Int(i))
	digits := sign.Digits(sign.Digest(p, i, "m"))
	for c, x := range digits {
		if x == 3 {
			continue
		}
		at := head + 16*c
		next := plainStep(s[at:at+16], i, c, x)
		expectVerify(t, "P3.6", "an advanced value", p, h, "m", s[:at]+next+s[at+16:], 0, api.ErrSign)
	}
	for _, m := range []string{"", "n", "message", "\xff"} {
		forged := s[:head]
		for c, x := range sign.Digits(sign.Digest(p, i, m)) {
			at := head + 16*c
			value := s[at : at+16]
			for height := digits[c]; height < x; height++ {
				value = plainStep(value, i, c, height)
			}
			forged += value
		}
		expectVerify(t, "P3.6", "a forged signature", p, h, m, forged+s[head+68*16:], 0, api.ErrSign)
	}
}

// expectBothWays checks that one digit of a is less than that of b, and another one greater.
func expectBothWays(t *testing.T, a, b api.Digest) {
	t.Helper()
	less, greater := false, false
	l, m := sign.Digits(a), sign.Digits(b)
	for i := range l {
		less = less || l[i] < m[i]
		greater = greater || l[i] > m[i]
	}
	if !less || !greater {
		t.Errorf("P3.6: the digits of %x and %x: less %v, greater %v", a, b, less, greater)
	}
}

// P3.6: digests that differ at one place, at two that balance each other, and anywhere.
func TestDigitsOfDifferentDigests(t *testing.T) {
	expectBothWays(t, filled(0), filled(255))
	expectBothWays(t, filled(255), filled(0))
	r := rand.New(rand.NewSource(4))
	for _, d := range []api.Digest{filled(0), filled(255), filled(0x55), filled(0xaa), filled(0x1b), randomDigest(r), randomDigest(r)} {
		for i := range d {
			for x := 1; x < 256; x++ {
				other := d
				other[i] ^= byte(x)
				expectBothWays(t, d, other)
				other[15-i] ^= byte(x)
				expectBothWays(t, d, other)
				other[(i+1)%16] ^= byte(r.Intn(256))
				if other != d {
					expectBothWays(t, other, d)
				}
			}
		}
	}
	for range 2000 {
		a, b := randomDigest(r), randomDigest(r)
		expectBothWays(t, a, b)
		// All digits of one are at least those of the other, but for the checksum.
		for i := range a {
			b[i] = a[i] | b[i]
		}
		if a != b {
			expectBothWays(t, a, b)
		}
	}
}

// The examples at the end of the chapter.
func TestExamples(t *testing.T) {
	if l := sign.Digits(filled(0)); !slices.Equal(l, append(make([]int, 64), 3, 0, 0, 0)) {
		t.Errorf("P3.1: Digits of 16 zero bytes: %v", l)
	}
	if l := sign.Digits(filled(255)); !slices.Equal(l, append(slices.Repeat([]int{3}, 64), 0, 0, 0, 0)) {
		t.Errorf("P3.1: Digits of 16 bytes 255: %v", l)
	}
	p, s := mustPublic(t, seedCount, 1), mustSign(t, seedCount, 1, 1, "m")
	expectVerify(t, "P3.5", "the example", p, 1, "m", s, 1, api.OK)
	expectVerify(t, "P3.4", "the example", p, 1, "n", s, 0, api.ErrSign)
	if s, e := sign.Sign(seedCount, 1, 2, "m"); s != "" || e != api.ErrSpent {
		t.Errorf("P3.3: the example: %d bytes, error %d", len(s), e)
	}
	if p, e := sign.Public(seedCount[:31], 0); p != (api.Digest{}) || e != api.ErrArg {
		t.Errorf("P3.1: the example: %x, error %d", p, e)
	}
	expectVerify(t, "P3.4", "the example", p, 7, "", "", 0, api.ErrArg)
}

// P1: equal calls have equal results, whatever is called between them; a one-time key can sign again.
func TestCallsKeepNothing(t *testing.T) {
	p, s := mustPublic(t, seedS, 1), mustSign(t, seedS, 1, 0, "m")
	d := sign.Digest(p, 0, "m")
	other := mustSign(t, seedS, 1, 0, "other")
	mustPublic(t, seedFull, 2)
	expectVerify(t, "P3.4", "a wrong message", p, 1, "n", s, 0, api.ErrSign)
	if mustPublic(t, seedS, 1) != p || mustSign(t, seedS, 1, 0, "m") != s || sign.Digest(p, 0, "m") != d {
		t.Error("P1: a call depends on the ones before")
	}
	expectVerify(t, "P3.5", "what is signed", p, 1, "m", s, 0, api.OK)
	expectVerify(t, "P3.5", "what is signed", p, 1, "other", other, 0, api.OK)
}
