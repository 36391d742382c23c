package tests

import (
	"strings"
	"testing"

	"loop.example/stopover/impl"
)

func TestP1KnownSums(t *testing.T) {
	known := []struct{ text, sum string }{
		{"", "e3b0c44298fc1c149afbf4c8996fb92427ae41e4649b934ca495991b7852b855"},
		{"abc", "ba7816bf8f01cfea414140de5dae2223b00361a396177a9cb410ff61f20015ad"},
		{"abcdbcdecdefdefgefghfghighijhijkijkljklmklmnlmnomnopnopq", "248d6a61d20638b8e5c026930c3e6039a33ce45964ff2167f6ecedd419db06c1"},
		{strings.Repeat("a", 1000000), "cdc76e5c9914fb9281a1c7e284d73e67f1809a48a497200e046d39ccc7112cd0"},
	}
	for i, k := range known {
		if sum := impl.HashSum(k.text); sum != k.sum {
			t.Errorf("case %d: %s", i, sum)
		}
	}
}

// Sizes around one block and two, where the padding goes over into a block more.
func TestP1EachSize(t *testing.T) {
	for size := range 400 {
		text := filled(size)
		if impl.HashSum(text) != sumOf(text) {
			t.Errorf("size %d", size)
		}
	}
}

// Sizes whose number of bits needs 2, 3 and 4 bytes.
func TestP1LongTexts(t *testing.T) {
	for _, size := range []int{8191, 8192, 8193, 9000, 65536, 2097151, 2097152, 2097153} {
		text := filled(size)
		if impl.HashSum(text) != sumOf(text) {
			t.Errorf("size %d", size)
		}
	}
}

func TestP1AnyBytes(t *testing.T) {
	texts := []string{allBytes(), "\x00", "\x80", "\xff", strings.Repeat("\x00", 64), strings.Repeat("\xff", 119), "Zürich → 東京"}
	r := numbers{1}
	for range 300 {
		texts = append(texts, r.text(r.below(200)))
	}
	for i, text := range texts {
		if impl.HashSum(text) != sumOf(text) {
			t.Errorf("text %d", i)
		}
	}
}

func TestP1Figures(t *testing.T) {
	r := numbers{2}
	for i := range 300 {
		sum := impl.HashSum(r.text(i))
		if len(sum) != 64 || strings.Trim(sum, "0123456789abcdef") != "" {
			t.Errorf("size %d: %q", i, sum)
		}
	}
}
