package tests

import (
	"crypto/sha256"
	"encoding/hex"
	"math"
)

// sumOf is the sum by the standard library, to hold the program's against.
func sumOf(text string) string {
	sum := sha256.Sum256([]byte(text))
	return hex.EncodeToString(sum[:])
}

// numbers gives the same long row of numbers in each run.
type numbers struct {
	state uint64
}

func (r *numbers) next() uint64 {
	r.state += 0x9e3779b97f4a7c15
	x := r.state
	x = (x ^ x>>30) * 0xbf58476d1ce4e5b9
	x = (x ^ x>>27) * 0x94d049bb133111eb
	return x ^ x>>31
}

// below is a number in 0..n-1.
func (r *numbers) below(n int) int {
	return int(r.next() % uint64(n))
}

// text is a text of any bytes.
func (r *numbers) text(size int) string {
	text := make([]byte, size)
	for i := range text {
		text[i] = byte(r.next())
	}
	return string(text)
}

// filled is a text of a size whose bytes differ from place to place.
func filled(size int) string {
	text := make([]byte, size)
	for i := range text {
		text[i] = byte(i*7 + i/256)
	}
	return string(text)
}

// allBytes is each byte once.
func allBytes() string {
	text := make([]byte, 256)
	for i := range text {
		text[i] = byte(i)
	}
	return string(text)
}

// changesOf is all texts that come of a text, if it is cut off, or one byte is another one, is gone, or is new.
func changesOf(text string) []string {
	list := []string{text + text}
	for i := 0; i <= len(text); i++ {
		list = append(list, text[:i], text[i:])
		if i < len(text) {
			list = append(list, text[:i]+text[i+1:])
		}
		for b := range 256 {
			byteText := string([]byte{byte(b)})
			list = append(list, text[:i]+byteText+text[i:])
			if i < len(text) {
				list = append(list, text[:i]+byteText+text[i+1:])
			}
		}
	}
	return list
}

// ends are numbers at both ends of the range of int, some of which add up to small ones by wrapping around.
var ends = []int{math.MinInt, math.MinInt + 1, math.MinInt / 2, math.MaxInt / 2, math.MaxInt - 1, math.MaxInt}
