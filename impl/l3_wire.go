package impl

import (
	"errors"
	"iter"
	"strconv"
	"strings"
)

// Limits of words as bytes.
const (
	WireMaxItems = 40
	WireMaxText  = 6000
)

const nameMaxText = 8

var errNoWord = errors.New("no word")

// WirePut writes words as bytes.
func WirePut(list []string) string {
	if len(list) > WireMaxItems {
		return ""
	}
	var text strings.Builder
	for _, word := range list {
		text.WriteString(wireWord(word))
		if text.Len() > WireMaxText {
			return ""
		}
	}
	return text.String()
}

// WireGet reads words.
func WireGet(text string) ([]string, bool) {
	if len(text) > WireMaxText {
		return nil, false
	}
	var list []string
	for word, err := range wireWords(text) {
		if errors.Is(err, errNoWord) || len(list) == WireMaxItems {
			return nil, false
		}
		list = append(list, word)
	}
	return list, true
}

// wireWords cuts a text into its words; errNoWord is the last, if what is left begins with no word.
func wireWords(text string) iter.Seq2[string, error] {
	return func(yield func(string, error) bool) {
		rest := text
		for rest != "" {
			word, err := wireFirst(rest)
			if !yield(word, err) || err != nil {
				return
			}
			rest = rest[len(wireWord(word)):]
		}
	}
}

// wireFirst is the word with which a text begins.
func wireFirst(text string) (string, error) {
	figures, behind, _ := strings.Cut(text, ":")
	size, err := strconv.Atoi(figures)
	if err != nil || size < 0 || size > len(behind) {
		return "", errNoWord
	}
	// Written again it shows needless noughts and signs, and a comma that is not there.
	word := behind[:size]
	if !strings.HasPrefix(text, wireWord(word)) {
		return "", errNoWord
	}
	return word, nil
}

func wireWord(word string) string {
	return strconv.Itoa(len(word)) + ":" + word + ","
}

// TickMax bounds times.
const TickMax = 9999

// NameOk says whether a text is a name.
func NameOk(text string) bool {
	if len(text) < 1 || len(text) > nameMaxText {
		return false
	}
	for i := range len(text) {
		if text[i] < 'a' || text[i] > 'z' {
			return false
		}
	}
	return true
}
