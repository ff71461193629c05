package blake_test

import (
	"slices"
	"strings"
	"testing"

	"steward/blake"
)

// sums has, by number of bytes, the hash of counting of so many, as Python's hashlib computes it.
var sums = map[int]string{
	0:    "69217a3079908094e11121d042354a7c1f55b6482ca1a51e1b250dfd1ed0eef9",
	1:    "a28ac19d6bcbe2cd1d7de183485768d598e996b07889b9b11f418cb1b4a4fb0d",
	2:    "7003138ee5c7d153bfd79e9ce6c76f5bfa17c23abe2ae017f24e4d7854f80939",
	31:   "f596a793b70d59e2d5119ebbf6ce66f4de0eda74e9be7f9b4bd0c155e152db3f",
	32:   "faacb4e48e592947ef7e23f38dd6adb8c4c559e905334c0bd427695bb570089c",
	63:   "de27df0e375d83c49f1af9ca8270f9f2fe7b70bf800fc01672db0e9746021ebf",
	64:   "5377e4ff957bda4d4535f4879876b71a61056c4cec31e78397c66ec47a86a130",
	65:   "19b1b26fba093f4a670d8913e1b71cbb2916dfa701018cc6b05785c966593374",
	127:  "6846f99493436241d0a6f289c9a911b1d0f4860db8f2b5df5295ffd37d03a3c4",
	128:  "83470c75afa23d90cd7659906e4b47daa278131fbb225241dd37a40fd5355ac7",
	129:  "26fd8892ab0a5f12d4acbff1efd7dcd92b99e2d377f888f07e3cb81b232b11cf",
	191:  "fa4b341b57b512fafec71dd7a164ddf93619b221c3727a598d8d7db0732953da",
	192:  "8608895acbb0b5581cdfb5e84d11de01f722ab250285a172e8d59f2f67c46110",
	193:  "ea061084b6444c554572f0c9531df6bd47c539d0d6a1ad2a5645aad6d4ff1621",
	255:  "f0ddb42a1ccb39d2d65d2e0bbb394de770a85d6de4c648ac55c19d355f6983c2",
	256:  "080c6da49f3ef891dfbf1abdfe224490e30afbad3a24e4e689fd13e4a13de241",
	1000: "02a016193469710efadf8fb005ca19b509331cb847df5598cc0794bded669681",
}

// counting returns n bytes that begin with 3 and increase by 7.
func counting(n int) string {
	b := make([]byte, n)
	for i := range b {
		b[i] = byte(3 + i*7)
	}
	return string(b)
}

func sumHex(l ...string) string {
	x := blake.Sum(l...)
	return blake.Hex(string(x[:]))
}

// P2.1: Sum, around the ends of blocks and for several of them.
func TestSumIsTheHash(t *testing.T) {
	for n, want := range sums {
		if got := sumHex(counting(n)); got != want {
			t.Errorf("%d bytes: %s, want %s", n, got, want)
		}
	}
}

// P2.1: the example of the chapter.
func TestSumOfAbc(t *testing.T) {
	if got := sumHex("abc"); got != "508c5e8c327c14e2e1a72ba34eeb452f37458b209ed63a294d999b4c86675982" {
		t.Error(got)
	}
}

// P2.1: one hash of the hashes of all lengths below 300, as Python's hashlib computes it.
func TestSumOfAllLengths(t *testing.T) {
	var all []string
	for n := range 300 {
		x := blake.Sum(counting(n))
		all = append(all, string(x[:]))
	}
	if got := sumHex(all...); got != "3d429ed3c0b63fb8ec264a51cecf7973c6ea940b0edc1225fd13d86bd9617a96" {
		t.Error(got)
	}
}

// P2.1: zero bytes at the end count, although the padding consists of them.
func TestSumCountsZeroBytes(t *testing.T) {
	seen := map[string]int{}
	for n := range 130 {
		x := sumHex(strings.Repeat("\x00", n))
		if m, there := seen[x]; there {
			t.Errorf("%d and %d zero bytes have the same hash", m, n)
		}
		seen[x] = n
	}
}

// P2.2: every division into two, and every one of some bytes into three.
func TestSumOfParts(t *testing.T) {
	for _, n := range []int{0, 1, 63, 64, 65, 128, 129} {
		s := counting(n)
		for i := range n + 1 {
			if got := sumHex(s[:i], s[i:]); got != sums[n] {
				t.Errorf("%d bytes divided at %d: %s", n, i, got)
			}
		}
	}
	s := counting(65)
	for j := range 66 {
		for i := range j + 1 {
			if got := sumHex(s[:i], s[i:j], s[j:]); got != sums[65] {
				t.Fatalf("divided at %d and %d: %s", i, j, got)
			}
		}
	}
}

// P2.2: blocks, single bytes, and no bytes in several forms.
func TestSumOfManyParts(t *testing.T) {
	s := counting(129)
	if got := sumHex(s[:64], "", s[64:128], "", s[128:], ""); got != sums[129] {
		t.Errorf("blocks: %s", got)
	}
	single := make([]string, 0, 1000)
	for i := range 1000 {
		single = append(single, counting(1000)[i:i+1])
	}
	if got := sumHex(single...); got != sums[1000] {
		t.Errorf("single bytes: %s", got)
	}
	for i, l := range [][]string{nil, {}, {""}, {"", "", ""}} {
		if got := sumHex(l...); got != sums[0] {
			t.Errorf("no bytes %d: %s", i, got)
		}
	}
}

// Rule 5: the list is left as it is, and so is its spare capacity.
func TestSumLeavesItsList(t *testing.T) {
	l := []string{"ab", "", "c", "spare"}
	blake.Sum(l[:3]...)
	if !slices.Equal(l, []string{"ab", "", "c", "spare"}) {
		t.Errorf("%q", l)
	}
}
