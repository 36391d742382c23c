package tests

import (
	"regexp"
	"slices"
	"strconv"
	"strings"

	"loop.example/stopover/impl"
)

// The words of chapter 5 a second time, to hold the program's answers against.

func push(n int) impl.Ins {
	return impl.Ins{Op: 1, Num: n}
}

func load(text string) impl.Ins {
	return impl.Ins{Op: 2, Name: text}
}

func test(n int) impl.Ins {
	return impl.Ins{Op: 9, Num: n}
}

func skip(n int) impl.Ins {
	return impl.Ins{Op: 11, Num: n}
}

func does(op int) impl.Ins {
	return impl.Ins{Op: op}
}

func tier(marks ...impl.Mark) impl.Ins {
	return impl.Ins{Op: 10, Marks: marks}
}

// codeText writes a program as the chapter says, without limits.
func codeText(code []impl.Ins) string {
	text := ""
	for _, place := range code {
		switch place.Op {
		case 1:
			text += "push " + strconv.Itoa(place.Num)
		case 2:
			text += "load " + place.Name
		case 9:
			text += "test " + strconv.Itoa(place.Num)
		case 10:
			text += "tiers " + marksOf(place.Marks, " ")
		case 11:
			text += "skip " + strconv.Itoa(place.Num)
		default:
			text += opRows()[place.Op].word
		}
		text += "\n"
	}
	return text
}

var (
	pushForm  = regexp.MustCompile(`^(push|test|skip) (0|-?[1-9][0-9]{0,9})$`)
	loadForm  = regexp.MustCompile(`^load ([a-z]{1,8})$`)
	tiersForm = regexp.MustCompile(`^tiers (\S+( \S+)*)$`)
)

// readPlace reads a line without its newline.
func readPlace(line string) (impl.Ins, bool) {
	ops := map[string]int{"push": 1, "test": 9, "skip": 11, "add": 3, "sub": 4, "mul": 5, "part": 6, "min": 7, "max": 8}
	if m := pushForm.FindStringSubmatch(line); m != nil {
		n, _ := strconv.Atoi(m[2])
		return impl.Ins{Op: ops[m[1]], Num: n}, true
	}
	if m := loadForm.FindStringSubmatch(line); m != nil {
		return load(m[1]), true
	}
	if m := tiersForm.FindStringSubmatch(line); m != nil {
		marks, ok := readMarks(m[1], " ")
		return tier(marks...), ok
	}
	op := ops[line]
	return does(op), 3 <= op && op <= 8
}

// fineLines says which program a text is, and whether it is one.
func fineLines(text string) ([]impl.Ins, bool) {
	rest, ok := strings.CutSuffix(text, "\n")
	if !ok {
		return nil, false
	}
	var code []impl.Ins
	for _, line := range strings.Split(rest, "\n") {
		place, ok := readPlace(line)
		if !ok {
			return nil, false
		}
		code = append(code, place)
	}
	if deepOf(code) == 0 {
		return nil, false
	}
	return code, true
}

// finePlace says whether a place has just what its op needs; behind is how many places are behind it.
func finePlace(place impl.Ins, behind int) bool {
	if place.Op == 9 || place.Op == 11 {
		return 0 <= place.Num && place.Num <= behind && place.Name == "" && len(place.Marks) == 0
	}
	return finePart(place.Op, place.Num, place.Name, place.Marks)
}

// doneTo is how many numbers are at hand behind a place, and where one may be then; false, if there are not enough.
func doneTo(place impl.Ins, at int, hand int) (int, []int, bool) {
	switch place.Op {
	case 1, 2:
		return hand + 1, []int{at + 1}, true
	case 9:
		return hand - 2, []int{at + 1, at + 1 + place.Num}, hand >= 2
	case 11:
		return hand, []int{at + 1 + place.Num}, true
	}
	kids := opRows()[place.Op].kids
	return hand - kids + 1, []int{at + 1}, hand >= kids
}

// deepOf is how many numbers are at hand at most, whichever way is gone; 0, if the program is not ok.
func deepOf(code []impl.Ins) int {
	if len(code) < 1 || len(code) > 80 || len(codeText(code)) > 1600 {
		return 0
	}
	for i, place := range code {
		if !finePlace(place, len(code)-1-i) {
			return 0
		}
	}
	return waysOfCode(code)
}

func waysOfCode(code []impl.Ins) int {
	type stand struct{ at, hand int }
	seen := map[int]int{0: 0}
	work, deep := []stand{{0, 0}}, 0
	for len(work) > 0 {
		now := work[len(work)-1]
		work = work[:len(work)-1]
		if now.at == len(code) {
			continue
		}
		hand, next, ok := doneTo(code[now.at], now.at, now.hand)
		if !ok || hand > 12 {
			return 0
		}
		deep = max(deep, hand)
		for _, at := range next {
			if was, known := seen[at]; known && was != hand {
				return 0
			} else if !known {
				seen[at] = hand
				work = append(work, stand{at, hand})
			}
		}
	}
	if seen[len(code)] != 1 {
		return 0
	}
	return deep
}

// codeOf is the program of a rule.
func codeOf(r impl.Rule) []impl.Ins {
	if r.Op == 9 {
		x, y := codeOf(r.Kids[2]), codeOf(r.Kids[3])
		return slices.Concat(codeOf(r.Kids[0]), codeOf(r.Kids[1]), []impl.Ins{test(len(x) + 1)}, x, []impl.Ins{skip(len(y))}, y)
	}
	var code []impl.Ins
	for _, kid := range r.Kids {
		code = append(code, codeOf(kid)...)
	}
	return append(code, impl.Ins{Op: r.Op, Num: r.Num, Name: r.Name, Marks: r.Marks})
}

// runOf is what a program that is ok comes to, the code, and the fuel it took.
func runOf(code []impl.Ins, names []impl.Pair, fuel int) (int, int, int) {
	var hand []int
	used := 0
	for at := 0; at < len(code); at++ {
		place := code[at]
		if place.Op == 11 {
			at += place.Num
			continue
		}
		if used+1+len(place.Marks) > fuel {
			return 0, 1, used
		}
		used += 1 + len(place.Marks)
		n, fault := place.Num, 0
		kids := opRows()[place.Op].kids
		switch place.Op {
		case 1:
		case 2:
			n, fault = numberOf(place.Name, names)
		case 9:
			two := hand[len(hand)-2:]
			hand = hand[:len(hand)-2]
			if !(two[0] < two[1]) {
				at += place.Num
			}
			continue
		default:
			n, fault = saysOf(place.Op, hand[len(hand)-kids:], place.Marks)
			hand = hand[:len(hand)-kids]
		}
		if fault != 0 {
			return 0, fault, used
		}
		hand = append(hand, n)
	}
	return hand[0], 0, used
}

func samePlace(a impl.Ins, b impl.Ins) bool {
	return a.Op == b.Op && a.Num == b.Num && a.Name == b.Name && slices.Equal(a.Marks, b.Marks)
}

func sameCode(a []impl.Ins, b []impl.Ins) bool {
	return slices.EqualFunc(a, b, samePlace)
}

// changed is a program in which one place, or more, is another one, is gone, or is new.
func (r *numbers) changed(code []impl.Ins) []impl.Ins {
	code = slices.Clone(code)
	for range 1 + r.below(3) {
		at := r.below(len(code) + 1)
		switch r.below(4) {
		case 0:
			code = slices.Insert(code, at, r.place())
		case 1:
			if at < len(code) {
				code = slices.Delete(code, at, at+1)
			}
		case 2:
			if at < len(code) {
				code[at].Num += anyOf(r, -1, 1, 2)
			}
		case 3:
			if at < len(code) {
				code[at] = r.place()
			}
		}
	}
	return code
}

func (r *numbers) place() impl.Ins {
	switch r.below(6) {
	case 0:
		return push(r.below(5) - 2)
	case 1:
		return load(anyOf(r, "a", "b", "use", "zz", "big", "low"))
	case 2:
		return test(r.below(4))
	case 3:
		return skip(r.below(4))
	case 4:
		return tier(r.marks()...)
	}
	return does(3 + r.below(6))
}

// codeList is programs that are ok: known ones, those at the limits, those of rules, and changed ones.
func codeList() [][]impl.Ins {
	list := [][]impl.Ins{
		{push(1)}, {push(impl.RuleMaxNum)}, {push(-impl.RuleMaxNum)}, {load("a")}, {load("zzzzzzzz")}, {push(1), push(2), does(3)}, {push(1), skip(0)}, {skip(1), push(1), push(2)}, {skip(0), push(1)}, {push(1), push(1), test(0), push(2)},
		{push(1), push(2), test(2), push(3), skip(1), push(4)}, {push(1), push(2), push(3), test(1), skip(0)}, {push(1), push(2), push(3), test(0), skip(1), push(9)}, {push(1), push(9), push(2), test(1), skip(0), skip(0)}, {push(5), skip(2), does(3), test(0)}, {push(5), skip(1), skip(0)},
		{push(7), push(1), push(0), does(6)}, {push(7), push(1), push(2), does(6)}, {push(3), tier(make5()...)}, {push(3), tier(impl.Mark{Price: 7})}, {push(1), push(2), push(3), push(4), does(3), does(4), does(5)},
		placesCode(80), stackCode(12), bytesCode(1600), bytesCode(1599), {push(1), skip(13), push(1), push(1), push(1), push(1), push(1), push(1), push(1), push(1), push(1), push(1), push(1), push(1), push(1)},
	}
	for _, rule := range ruleList() {
		list = append(list, codeOf(rule))
	}
	r, size := numbers{15}, len(list)
	for len(list) < 2*size {
		if code := r.changed(anyOf(&r, list...)); deepOf(code) > 0 {
			list = append(list, code)
		}
	}
	return list
}

// placesCode is a program of so many places.
func placesCode(places int) []impl.Ins {
	return slices.Concat([]impl.Ins{push(1)}, slices.Repeat([]impl.Ins{skip(0)}, places-1))
}

// stackCode is a program with so many numbers at hand.
func stackCode(deep int) []impl.Ins {
	return append(slices.Repeat([]impl.Ins{push(1)}, deep), slices.Repeat([]impl.Ins{does(3)}, deep-1)...)
}

// bytesCode is a program of 1591 to 1601 bytes.
func bytesCode(bytes int) []impl.Ins {
	marks := []impl.Mark{{Price: impl.PartMax}}
	for i := 4; i >= 1; i-- {
		marks = append(marks, impl.Mark{From: impl.RuleMaxNum - i, Price: impl.PartMax})
	}
	list := slices.Repeat([]impl.Ins{tier(marks...)}, 18)
	for _, n := range []int{0, 10, 100, 1000, 10000, 100000, 1000000, 10000000, 100000000, 1000000000, -1000000000} {
		if code := append([]impl.Ins{push(n)}, list...); len(codeText(code)) == bytes {
			return code
		}
	}
	return nil
}
