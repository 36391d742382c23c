package tests

import (
	"slices"
	"strconv"
	"strings"
	"testing"

	"loop.example/stopover/impl"
)

// wordsOf writes words as the document says, without limits.
func wordsOf(list []string) string {
	text := ""
	for _, word := range list {
		text += strconv.Itoa(len(word)) + ":" + word + ","
	}
	return text
}

// wordLists are lists that can be written, with at least one word each.
func wordLists() [][]string {
	lists := [][]string{
		{""}, {"", ""}, {"a"}, {"a:b"}, {","}, {":"}, {"1:a,"}, {"", "a:b", "two words"}, {"12345678901"}, {"\x00", "\xff\xfe", "\n"}, {"é", "東京"},
		{allBytes()}, slices.Repeat([]string{""}, impl.WireMaxItems), slices.Repeat([]string{"word"}, impl.WireMaxItems), {filled(5994)}, {filled(2993), filled(2995)},
	}
	r := numbers{6}
	for range 200 {
		list := make([]string, 1+r.below(20))
		for i := range list {
			list[i] = r.text(r.below(120))
		}
		lists = append(lists, list)
	}
	return lists
}

func TestWireLimits(t *testing.T) {
	if impl.WireMaxItems != 40 || impl.WireMaxText != 6000 || impl.TickMax != 9999 {
		t.Error("limits")
	}
}

func TestP7PutAndGet(t *testing.T) {
	for i, list := range wordLists() {
		text := impl.WirePut(list)
		if text != wordsOf(list) {
			t.Errorf("list %d: %q", i, text)
		}
		if got, ok := impl.WireGet(text); !ok || !slices.Equal(got, list) {
			t.Errorf("list %d: %q %v", i, got, ok)
		}
	}
}

func TestP7NoWords(t *testing.T) {
	if impl.WirePut(nil) != "" || impl.WirePut([]string{}) != "" {
		t.Error("no words")
	}
	if list, ok := impl.WireGet(""); !ok || len(list) != 0 {
		t.Errorf("the empty text: %q %v", list, ok)
	}
}

func TestP7Limits(t *testing.T) {
	full := []string{filled(5994)}
	if text := impl.WirePut(full); len(text) != impl.WireMaxText {
		t.Errorf("just %d bytes: %d", impl.WireMaxText, len(text))
	}
	if text := impl.WirePut(slices.Repeat([]string{"w"}, impl.WireMaxItems)); len(text) != 4*impl.WireMaxItems {
		t.Errorf("just %d words: %q", impl.WireMaxItems, text)
	}
	for i, list := range [][]string{
		{filled(5995)}, {filled(5994), ""}, {"", filled(5994)}, {filled(2994), filled(2995)}, {strings.Repeat("x", 100000)}, {filled(5995), "a", "b"},
		slices.Repeat([]string{""}, impl.WireMaxItems+1), slices.Repeat([]string{filled(200)}, impl.WireMaxItems), slices.Repeat([]string{"w"}, 1000),
	} {
		if text := impl.WirePut(list); text != "" {
			t.Errorf("list %d: %d bytes", i, len(text))
		}
		if got, ok := impl.WireGet(wordsOf(list)); ok || len(got) != 0 {
			t.Errorf("list %d: read", i)
		}
	}
}

func TestP7GetNoWords(t *testing.T) {
	for _, text := range []string{
		"0:", "0", ":", ":,", ",", "x", "1", "1:", "1:a", "1:,", "0:a,", "2:a,", "1:ab", "1:ab,", "1:a,x", "1:a,1", "1:a,0:", "1:a,,", "1:a;", "1;a,",
		"01:a,", "00:,", "+1:a,", "-1:a,", "-0:,", " 1:a,", "1 :a,", "1_0:abcdefghij,", "0x1:a,", "1.0:a,", "a:a,", "１:a,", "\n1:a,", "1:a,\n",
		"99999999999999999999:a,", "9223372036854775807:a,", "9223372036854775808:a,", "18446744073709551617:a,", "-9223372036854775808:a,", "4294967297:a,",
		"1:é,", "3:a,", "0:,3:a:b,9:two words", "0:,03:a:b,",
	} {
		if list, ok := impl.WireGet(text); ok || len(list) != 0 {
			t.Errorf("%q: %q %v", text, list, ok)
		}
	}
}

func TestP7CutAnywhere(t *testing.T) {
	list := []string{"", "a:b", "two words", "1:a,"}
	text := wordsOf(list)
	for size := range text {
		if got, ok := impl.WireGet(text[:size]); ok && impl.WirePut(got) != text[:size] || !ok && len(got) != 0 {
			t.Errorf("cut at %d: %q %v", size, got, ok)
		}
	}
}

// Whatever is read is written just so: each byte of a text is turned into each other one.
func TestP7WhatIsReadIsWritten(t *testing.T) {
	text := "0:,3:a:b,12:two words, 2,1:1,"
	for i := range text {
		for b := range 256 {
			changed := text[:i] + string([]byte{byte(b)}) + text[i+1:]
			got, ok := impl.WireGet(changed)
			if ok != (impl.WirePut(got) == changed) || !ok && len(got) != 0 {
				t.Errorf("%q: %q %v", changed, got, ok)
			}
		}
	}
}

func TestP7NewMemory(t *testing.T) {
	room := []string{"a", "b", "behind"}
	text := impl.WirePut(room[:2])
	first, _ := impl.WireGet(text)
	second, _ := impl.WireGet(text)
	for i := range second[:cap(second)] {
		second[:cap(second)][i] = "changed"
	}
	if !slices.Equal(first, []string{"a", "b"}) || !slices.Equal(room, []string{"a", "b", "behind"}) {
		t.Errorf("%q %q", first, room)
	}
}

func TestP8BehindEachOther(t *testing.T) {
	lists := append(wordLists(), nil, []string{filled(5992)}, slices.Repeat([]string{""}, 20), slices.Repeat([]string{"x"}, 21), slices.Repeat([]string{"x"}, 39))
	for i, a := range lists {
		for j, b := range lists {
			both := append(slices.Clone(a), b...)
			text := impl.WirePut(both)
			fits := len(both) <= impl.WireMaxItems && len(wordsOf(both)) <= impl.WireMaxText
			if fits && text != impl.WirePut(a)+impl.WirePut(b) || !fits && text != "" {
				t.Errorf("lists %d and %d", i, j)
			}
		}
	}
}

func TestP9Names(t *testing.T) {
	for _, text := range []string{"a", "z", "ab", "ams", "abcdefgh", "zzzzzzzz", "stuvwxyz", "ijklmnop", "qr"} {
		if !impl.NameOk(text) {
			t.Errorf("%q is a name", text)
		}
	}
	for _, text := range []string{"", "abcdefghi", "A", "aB", "a1", "1a", "a b", " a", "a ", "a-b", "a_b", "a.", "`", "{", "a\x00", "\x00", "é", "aé", "ａ", "ǆ", "ª", "a\n", "\xe1", "a\xff", strings.Repeat("a", 264)} {
		if impl.NameOk(text) {
			t.Errorf("%q is no name", text)
		}
	}
}

func TestP9EachByteAlone(t *testing.T) {
	for b := range 256 {
		alone := impl.NameOk(string([]byte{byte(b)}))
		if alone != (b >= 'a' && b <= 'z') {
			t.Errorf("byte %d: %v", b, alone)
		}
		for size := 1; size <= 9; size++ {
			for at := range size {
				text := []byte("midnight"[:min(size, 8)] + strings.Repeat("s", max(size-8, 0)))
				text[at] = byte(b)
				if impl.NameOk(string(text)) != (alone && size <= 8) {
					t.Errorf("%q", text)
				}
			}
		}
	}
}
