package mac_test

import (
	"slices"
	"strings"
	"testing"

	"steward/blake"
	"steward/mac"
)

// byKey has, by number of bytes of the key, the hash of counting(100) with the key counting, as Python's hmac computes it.
var byKey = map[int]string{
	0:    "1212e4f463288a815dcfcdd7a06a8cb50f7da738a6cd4f79b2efe9ecdb579643",
	1:    "738d36bf92833b41cd6364115e63c19a38aa0971071a79e8fc4ba61fedaa62ec",
	31:   "9b89616934cf395551e55aedab6a46902f8dead58fa277c61fb1bf868777baa6",
	32:   "1258c502436b84e5d1e8b4f89e4fcfbe2b36e7f8c5cd2336bc889133abc8f245",
	33:   "c82ef4cf570ad107d63327a37e9a88307c512875e700585af94aca274cd6f1a2",
	63:   "48ff7cdb42436341f90bac9a7b612781c37dbdfeabead5e3c199461f54ebcf46",
	64:   "69f0943bd83c1ecd27e97aa1032f4fa6f7f7236498d74740c2a81db9bbce73b5",
	65:   "47d1df736cf01a560a755df0920520380fa28c700a3f9196c9cb8aeed0f84a20",
	127:  "154f35070819b785927970e419b6355c7f0b6dea25fa5e6a890ef6e1ab787170",
	128:  "f521bd7686f32b2545c6af26962725c822e70801a5109a5527cab991ab95dfa2",
	129:  "e2ec76be1011bb6cbb2e46325f9b22c4febd7d288a41d36f0764e3e46c3b98da",
	1000: "07a3412949ce24e0f77f59aa1565374f0a3fad78f6eb733762c3cfd89ab2f9fd",
}

// byText has, by number of bytes, the hash of counting with the key counting(20), as Python's hmac computes it.
var byText = map[int]string{
	0:    "9dd3da1d3a4d7bccd091f71ff77fc5f93aabe55415ab1a742c4ae1525c7edeb7",
	1:    "f77a3087111783e0e7b087b7ef652cfec84cd5861bd45aa2d9c7dba578498323",
	63:   "8a93d7aa521dbfd9db7fd806e1a99c71600d63f21ffdeede3712c4f623c5ebff",
	64:   "489524e3ecfdbad2f595130926e196923b075210624da2650e6f4ea75fa53d9f",
	65:   "d2c2f8a8be60d6a00dd8e7762e7dda9b209ade03cb9141cab8188a998a2a8804",
	127:  "e5c111b7fd98de7a423137e97ab1faa68ffb61cc14c0ce7be5aa23cac5f4b1b7",
	128:  "fd1014a2c49535c5468e40881c82a1e5cb4b5376006df217a8068e25a8b7e076",
	129:  "6aa641863c103cad058dcbe230fd429d2d6f4d6b8fcc2f18c3161965e0e344b2",
	1000: "f56f18cd67557216ee7af3580aa780383e149adbf58e18f34fc8f79b081ac28b",
}

const (
	tagOfText    = "82728384b3eb6b4bef025069df7c39a7" // of "text" with the key "k", as Python's hmac computes it
	tagOfNothing = "eaf4bb25938f4d20e72656bbbc7a9bf6" // of no bytes with an empty key
)

// counting returns n bytes that begin with 3 and increase by 7.
func counting(n int) string {
	b := make([]byte, n)
	for i := range b {
		b[i] = byte(3 + i*7)
	}
	return string(b)
}

func sumHex(key string, l ...string) string {
	x := mac.Sum(key, l...)
	return blake.Hex(string(x[:]))
}

// P3.1: Sum for keys around the size of a block, and for longer ones.
func TestSumByKey(t *testing.T) {
	for n, want := range byKey {
		if got := sumHex(counting(n), counting(100)); got != want {
			t.Errorf("key of %d bytes: %s, want %s", n, got, want)
		}
	}
}

// P3.1: Sum for texts around the ends of blocks, and for longer ones.
func TestSumByText(t *testing.T) {
	for n, want := range byText {
		if got := sumHex(counting(20), counting(n)); got != want {
			t.Errorf("text of %d bytes: %s, want %s", n, got, want)
		}
	}
}

// P3.1: one hash of the hashes of all lengths below 200, as Python computes it, of the key and of the text.
func TestSumOfAllLengths(t *testing.T) {
	var keys, texts []string
	for n := range 200 {
		k, x := mac.Sum(counting(n), "steward"), mac.Sum("steward", counting(n))
		keys, texts = append(keys, string(k[:])), append(texts, string(x[:]))
	}
	if got := blake.Sum(keys...); blake.Hex(string(got[:])) != "017ba4d28231074150f9ba438245e07253d4ba8eacc992be860d718a6b988b38" {
		t.Errorf("keys: %x", got)
	}
	if got := blake.Sum(texts...); blake.Hex(string(got[:])) != "061a7b0ed100c671cc3ce89c1417b0caaaca13e88c94dfe3112f2078b3da8bad" {
		t.Errorf("texts: %x", got)
	}
}

// P3.1: a key is extended with zero bytes, and from 65 bytes on its hash is used.
func TestSumOfKeysThatAreEquivalent(t *testing.T) {
	for _, key := range []string{"", "k", counting(63)} {
		if sumHex(key, "x") != sumHex(key+strings.Repeat("\x00", 64-len(key)), "x") {
			t.Errorf("%q with zero bytes", key)
		}
	}
	for n, want := range map[int]bool{63: false, 64: false, 65: true, 66: true, 128: true} {
		hash := blake.Sum(counting(n))
		if got := sumHex(counting(n), "x") == sumHex(string(hash[:]), "x"); got != want {
			t.Errorf("key of %d bytes counts as its hash: %v", n, got)
		}
	}
}

// P3.1: Tag is the first 32 digits of Sum.
func TestTag(t *testing.T) {
	if got := mac.Tag("k", "text"); got != tagOfText {
		t.Error(got)
	}
	if got := mac.Tag(""); got != tagOfNothing {
		t.Error(got)
	}
	for n, want := range byKey {
		if got := mac.Tag(counting(n), counting(100)); got != want[:mac.TagSize] {
			t.Errorf("key of %d bytes: %s", n, got)
		}
	}
	if mac.TagSize != 32 {
		t.Error(mac.TagSize)
	}
}

// P3.1: Fits accepts the Tag, and no text that differs from it in one byte.
func TestFitsOfOneChangedByte(t *testing.T) {
	if !mac.Fits("k", tagOfText, "text") || !mac.Fits("", tagOfNothing) {
		t.Error("the tag does not fit")
	}
	for i := range tagOfText {
		for c := range 256 {
			changed := []byte(tagOfText)
			changed[i] = byte(c)
			if got, want := mac.Fits("k", string(changed), "text"), byte(c) == tagOfText[i]; got != want {
				t.Fatalf("%q: %v", changed, got)
			}
		}
	}
}

// P3.1: Fits rejects texts of other lengths or letters, other keys and other strings.
func TestFitsOfOtherTexts(t *testing.T) {
	for _, tag := range []string{"", tagOfText[1:], tagOfText[:31], tagOfText[:16], tagOfText + "0", tagOfText + "\x00", "0" + tagOfText, " " + tagOfText, tagOfText + tagOfText, strings.ToUpper(tagOfText), sumHex("k", "text"), tagOfNothing} {
		if mac.Fits("k", tag, "text") {
			t.Errorf("%q fits", tag)
		}
	}
	if mac.Fits("l", tagOfText, "text") || mac.Fits("", tagOfText, "text") || mac.Fits("ktext", tagOfText) {
		t.Error("another key")
	}
	if mac.Fits("k", tagOfText, "texts") || mac.Fits("k", tagOfText) || mac.Fits("k", tagOfText, "Text") {
		t.Error("other strings")
	}
}

// P3.1: Same of strings that differ in one bit, wherever it is.
func TestSameOfOneChangedBit(t *testing.T) {
	for _, n := range []int{1, 2, 31, 32, 33, 64, 300} {
		s := counting(n)
		if !mac.Same(s, strings.Clone(s)) {
			t.Errorf("%d equal bytes", n)
		}
		for i := range n {
			for bit := range 8 {
				changed := []byte(s)
				changed[i] ^= 1 << bit
				if mac.Same(s, string(changed)) || mac.Same(string(changed), s) {
					t.Fatalf("%d bytes, bit %d of byte %d changed", n, bit, i)
				}
			}
		}
	}
}

// P3.1: Same of strings of different lengths, and of differences that might cancel each other.
func TestSameOfOtherStrings(t *testing.T) {
	for _, p := range [][2]string{{"", "a"}, {"", "\x00"}, {"a", "ab"}, {"a", "a\x00"}, {"a", "\x00a"}, {"ab", "b"}, {"ab", "ba"}, {"ab", "cb"}, {"aa", "bb"}, {"a", "A"}, {"\xff\x00", "\x00\xff"}, {"\x80\x80", "\x00\x00"}, {"x" + counting(256), "x"}, {strings.Repeat("\x00", 256), ""}} {
		if mac.Same(p[0], p[1]) || mac.Same(p[1], p[0]) {
			t.Errorf("%q and %q", p[0], p[1])
		}
	}
	for _, s := range []string{"", "\x00", "a", "é", "\xff\xfe", strings.Repeat("x", 1000)} {
		if !mac.Same(s, strings.Clone(s)) {
			t.Errorf("%q and itself", s)
		}
	}
}

// P3.2: every division of some bytes into three strings, some of them empty.
func TestPartsOfTheText(t *testing.T) {
	s := counting(65)
	sum, tag := byText[65], byText[65][:mac.TagSize]
	for j := range len(s) + 1 {
		for i := range j + 1 {
			l := []string{s[:i], s[i:j], s[j:]}
			if sumHex(counting(20), l...) != sum || mac.Tag(counting(20), l...) != tag || !mac.Fits(counting(20), tag, l...) {
				t.Fatalf("divided at %d and %d", i, j)
			}
		}
	}
}

// P3.2: single bytes, and no bytes in several forms.
func TestManyParts(t *testing.T) {
	var single []string
	for i := range 1000 {
		single = append(single, counting(1000)[i:i+1])
	}
	if got := sumHex(counting(20), single...); got != byText[1000] {
		t.Errorf("single bytes: %s", got)
	}
	for i, l := range [][]string{nil, {}, {""}, {"", "", ""}} {
		if sumHex(counting(20), l...) != byText[0] || mac.Tag("", l...) != tagOfNothing || !mac.Fits("", tagOfNothing, l...) {
			t.Errorf("no bytes %d", i)
		}
	}
}

// P3.2: the key is no part of what is divided.
func TestKeyIsNoPart(t *testing.T) {
	if sumHex("ab", "c") == sumHex("a", "bc") || sumHex("abc") == sumHex("", "abc") || sumHex("a", "b") == sumHex("b", "a") {
		t.Error("the key and the text are not distinguished")
	}
}

// Rule 5: the list is left as it is, and so is its spare capacity.
func TestListIsLeft(t *testing.T) {
	l := []string{"ab", "", "c", "spare"}
	mac.Sum("k", l[:3]...)
	mac.Tag("k", l[:3]...)
	mac.Fits("k", tagOfText, l[:3]...)
	if !slices.Equal(l, []string{"ab", "", "c", "spare"}) {
		t.Errorf("%q", l)
	}
}
