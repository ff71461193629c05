package siphash_test

import (
	"math"
	"math/big"
	"slices"
	"strings"
	"testing"

	"steward/siphash"
)

// sums[n] is the hash of the bytes 00 01 .. of length n with the key 00 01 .. 0f, as OpenSSL computes it.
var sums = [64]uint64{
	0x726fdb47dd0e0e31, 0x74f839c593dc67fd, 0x0d6c8009d9a94f5a, 0x85676696d7fb7e2d,
	0xcf2794e0277187b7, 0x18765564cd99a68d, 0xcbc9466e58fee3ce, 0xab0200f58b01d137,
	0x93f5f5799a932462, 0x9e0082df0ba9e4b0, 0x7a5dbbc594ddb9f3, 0xf4b32f46226bada7,
	0x751e8fbc860ee5fb, 0x14ea5627c0843d90, 0xf723ca908e7af2ee, 0xa129ca6149be45e5,
	0x3f2acc7f57c29bdb, 0x699ae9f52cbe4794, 0x4bc1b3f0968dd39c, 0xbb6dc91da77961bd,
	0xbed65cf21aa2ee98, 0xd0f2cbb02e3b67c7, 0x93536795e3a33e88, 0xa80c038ccd5ccec8,
	0xb8ad50c6f649af94, 0xbce192de8a85b8ea, 0x17d835b85bbb15f3, 0x2f2e6163076bcfad,
	0xde4daaaca71dc9a5, 0xa6a2506687956571, 0xad87a3535c49ef28, 0x32d892fad841c342,
	0x7127512f72f27cce, 0xa7f32346f95978e3, 0x12e0b01abb051238, 0x15e034d40fa197ae,
	0x314dffbe0815a3b4, 0x027990f029623981, 0xcadcd4e59ef40c4d, 0x9abfd8766a33735c,
	0x0e3ea96b5304a7d0, 0xad0c42d6fc585992, 0x187306c89bc215a9, 0xd4a60abcf3792b95,
	0xf935451de4f21df2, 0xa9538f0419755787, 0xdb9acddff56ca510, 0xd06c98cd5c0975eb,
	0xe612a3cb9ecba951, 0xc766e62cfcadaf96, 0xee64435a9752fe72, 0xa192d576b245165a,
	0x0a8787bf8ecb74b2, 0x81b3e73d20b49b6f, 0x7fa8220ba3b2ecea, 0x245731c13ca42499,
	0xb78dbfaf3a8d83bd, 0xea1ad565322a1a0b, 0x60e61c23a3795013, 0x6606d7e446282b93,
	0x6ca4ecb15c5f91e1, 0x9f626da15c9625f3, 0xe51b38608ef25f57, 0x958a324ceb064572,
}

// counting returns n bytes that begin with first and increase by step.
func counting(n, first, step int) string {
	b := make([]byte, n)
	for i := range b {
		b[i] = byte(first + i*step)
	}
	return string(b)
}

// P1.1: Sum, for each number of remaining bytes and for several words.
func TestSumIsTheHash(t *testing.T) {
	k := siphash.KeyOf(counting(16, 0, 1))
	for n, want := range sums {
		if got := k.Sum(counting(n, 0, 1)); got != want {
			t.Errorf("%d bytes: %016x, want %016x", n, got, want)
		}
	}
}

// P1.1: the last word has the number of bytes modulo 256.
func TestSumOfManyBytes(t *testing.T) {
	k := siphash.KeyOf("steward key 0001")
	for n, want := range map[int]uint64{255: 0xdde81f0694502784, 256: 0xc988097f158edc2b, 257: 0x84023aa6c0914946, 1000: 0x926842bab668dfc5} {
		if got := k.Sum(counting(n, 3, 7)); got != want {
			t.Errorf("%d bytes: %016x, want %016x", n, got, want)
		}
	}
}

// P1.1: KeyOf fills with zero bytes, and drops what follows 16 bytes.
func TestKeyOf(t *testing.T) {
	for s, want := range map[string]siphash.Key{
		"":                  {},
		"a":                 {'a'},
		"\xff\x00b":         {0xff, 0, 'b'},
		"0123456789abcde":   {'0', '1', '2', '3', '4', '5', '6', '7', '8', '9', 'a', 'b', 'c', 'd', 'e'},
		"0123456789abcdef":  {'0', '1', '2', '3', '4', '5', '6', '7', '8', '9', 'a', 'b', 'c', 'd', 'e', 'f'},
		"0123456789abcdefg": {'0', '1', '2', '3', '4', '5', '6', '7', '8', '9', 'a', 'b', 'c', 'd', 'e', 'f'},
	} {
		if got := siphash.KeyOf(s); got != want {
			t.Errorf("%q: %v, want %v", s, got, want)
		}
	}
}

// P1.1: each half of the key counts, and the zero key is one too.
func TestSumDependsOnTheKey(t *testing.T) {
	for key, want := range map[string]uint64{"": 0x95141b1682618129, "a": 0x8764ed17d6e4d439, "0123456789abcde": 0x1a40fef866d1747a, "0123456789abcdef": 0x1d1b34b422a07af3} {
		if got := siphash.KeyOf(key).Sum("steward"); got != want {
			t.Errorf("key %q: %016x, want %016x", key, got, want)
		}
	}
	if got := (siphash.Key{}).Sum("steward"); got != 0x95141b1682618129 {
		t.Errorf("zero key: %016x", got)
	}
}

// P1.2: every division into three strings, some of them empty.
func TestSumOfParts(t *testing.T) {
	k := siphash.KeyOf(counting(16, 0, 1))
	for n := range 26 {
		s := counting(n, 0, 1)
		for j := range n + 1 {
			for i := range j + 1 {
				if got := k.Sum(s[:i], s[i:j], s[j:]); got != sums[n] {
					t.Fatalf("%d bytes divided at %d and %d: %016x", n, i, j, got)
				}
			}
		}
	}
}

// P1.2: single bytes, and no bytes in several forms.
func TestSumOfManyParts(t *testing.T) {
	k := siphash.KeyOf(counting(16, 0, 1))
	if got := k.Sum(strings.Split(counting(63, 0, 1), "")...); got != sums[63] {
		t.Errorf("single bytes: %016x", got)
	}
	for i, l := range [][]string{nil, {}, {""}, {"", "", ""}} {
		if got := k.Sum(l...); got != sums[0] {
			t.Errorf("no bytes %d: %016x", i, got)
		}
	}
}

// Rule 5: the list is left as it is, and so is its spare capacity.
func TestSumLeavesItsList(t *testing.T) {
	l := []string{"ab", "", "c", "spare"}
	siphash.Key{}.Sum(l[:3]...)
	if !slices.Equal(l, []string{"ab", "", "c", "spare"}) {
		t.Errorf("%q", l)
	}
}

func someNumbers() []uint64 {
	l := []uint64{0, 1, 2, 1<<31 - 1, 1 << 31, 1 << 32, 1<<32 + 1, 1<<63 - 1, 1 << 63, 1<<63 + 1, math.MaxUint64 - 1, math.MaxUint64}
	for i := range 200 {
		l = append(l, siphash.Key{}.Sum("number", string(rune(i))))
	}
	slices.Sort(l)
	return l
}

// exactBelow is x times n divided by 2^64, with numbers of any size.
func exactBelow(x uint64, n int) int {
	p := new(big.Int).Mul(new(big.Int).SetUint64(x), big.NewInt(int64(n)))
	return int(p.Rsh(p, 64).Int64())
}

// P1.1, P1.3: Below is the exact quotient, less than n, and never decreases.
func TestBelow(t *testing.T) {
	for _, n := range []int{1, 2, 3, 7, 10, 1000, 65537, 1<<31 - 1, 1 << 32, 1 << 62, math.MaxInt} {
		before := 0
		for _, x := range someNumbers() {
			got := siphash.Below(x, n)
			if want := exactBelow(x, n); got != want {
				t.Errorf("Below(%d, %d) = %d, want %d", x, n, got, want)
			}
			if got >= n || got < before {
				t.Errorf("Below(%d, %d) = %d after %d", x, n, got, before)
			}
			before = got
		}
	}
}

// P1.1: the result changes exactly where x times n passes a multiple of 2^64.
func TestBelowAtItsSteps(t *testing.T) {
	for _, n := range []int{2, 3, 7, 100} {
		for i := 1; i < n; i++ {
			step := new(big.Int).Lsh(big.NewInt(int64(i)), 64)
			step.Add(step, big.NewInt(int64(n-1)))
			x := step.Div(step, big.NewInt(int64(n))).Uint64()
			if siphash.Below(x-1, n) != i-1 || siphash.Below(x, n) != i {
				t.Errorf("n %d, step %d: %d, %d", n, i, siphash.Below(x-1, n), siphash.Below(x, n))
			}
		}
	}
}

// P1.1: there is no number below one that is less than 1.
func TestBelowNothing(t *testing.T) {
	for _, n := range []int{0, -1, -7, math.MinInt} {
		for _, x := range []uint64{0, 1, 1 << 63, math.MaxUint64} {
			if got := siphash.Below(x, n); got != 0 {
				t.Errorf("Below(%d, %d) = %d", x, n, got)
			}
		}
	}
}
