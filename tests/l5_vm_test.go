package tests

import (
	"math"
	"slices"
	"strings"
	"testing"

	"loop.example/stopover/impl"
)

// notCodes are programs that are not ok, each for one reason.
func notCodes() [][]impl.Ins {
	one := []impl.Mark{{Price: 1}}
	list := [][]impl.Ins{
		nil, {}, {does(3)}, {push(1), push(2)}, {push(1), does(3)}, {push(1), push(2), does(6)}, {tier(one...)}, {skip(0)}, {test(0)}, {push(1), test(0)}, {push(1), push(2), test(0)}, {push(1), push(1), test(1), push(3)}, {push(1), push(2), test(1), push(3)},
		// Ways that lead to one place with unlike numbers at hand.
		{push(1), push(1), push(2), test(1), push(3)}, {push(1), push(1), push(2), test(1), does(3), skip(0)}, {push(1), push(1), test(2), push(3), skip(0), push(4)}, {push(1), push(2), test(2), push(3), skip(0), push(4)}, {push(1), push(2), test(2), push(3), skip(1), push(4), push(5)}, {push(1), push(1), push(1), push(2), test(1), skip(1), does(3)},
		// Ways past the end, and back.
		{push(1), skip(1)}, {push(1), skip(-1)}, {push(1), skip(-2)}, {push(1), push(1), push(1), test(1)}, {push(1), push(1), push(1), test(-1)}, {push(1), push(1), push(2), test(-3), push(1)}, {skip(3), push(1), push(2)}, {skip(-1), push(1)}, {push(1), skip(1), skip(1)}, {push(1), skip(1), test(1)}, {push(1), skip(1), skip(-1)},
		// Places to which no way leads must have what they need all the same.
		{skip(1), does(0), push(1)}, {skip(1), push(impl.RuleMaxNum + 1), push(1)}, {skip(1), load("A"), push(1)}, {skip(1), tier(), push(1)}, {skip(1), impl.Ins{Op: 3, Num: 1}, push(1)}, {push(1), skip(1), does(12)},
		{impl.Ins{Op: 1, Name: "a"}}, {impl.Ins{Op: 1, Marks: one}}, {impl.Ins{Op: 2}}, {impl.Ins{Op: 2, Name: "a", Num: 1}}, {impl.Ins{Op: 2, Name: "a", Marks: one}}, {load("abcdefghi")}, {load("A")}, {load("a b")}, {load("a\n")}, {load("\xff")}, {load(filled(100000))}, {push(impl.RuleMaxNum + 1)}, {push(-impl.RuleMaxNum - 1)},
		{push(1), impl.Ins{Op: 11, Name: "a"}}, {push(1), impl.Ins{Op: 11, Marks: one}}, {push(1), push(1), push(1), impl.Ins{Op: 9, Name: "a"}}, {push(1), push(1), push(1), impl.Ins{Op: 9, Marks: one}},
		{push(1), impl.Ins{Op: 10, Num: 1, Marks: one}}, {push(1), impl.Ins{Op: 10, Name: "a", Marks: one}},
		placesCode(81), placesCode(82), placesCode(100000), stackCode(13), stackCode(14), bytesCode(1601), {push(1), push(1), test(13), push(1)}, append(slices.Repeat([]impl.Ins{push(1)}, 13), slices.Repeat([]impl.Ins{does(3)}, 12)...),
	}
	for op := 3; op <= 8; op++ {
		ahead := slices.Repeat([]impl.Ins{push(1)}, opRows()[op].kids)
		for _, place := range []impl.Ins{{Op: op, Num: 1}, {Op: op, Name: "a"}, {Op: op, Marks: one}} {
			list = append(list, append(slices.Clone(ahead), place))
		}
		list = append(list, append(ahead[1:], does(op)), append(slices.Repeat([]impl.Ins{push(1)}, len(ahead)+1), does(op)))
	}
	for _, op := range append([]int{-1, 0, 12, 13, 255, 256, 257, 1 << 32, 1<<32 + 1}, ends...) {
		list = append(list, []impl.Ins{does(op)}, []impl.Ins{{Op: op, Num: 1}}, []impl.Ins{{Op: op, Name: "a"}}, []impl.Ins{push(1), does(op)}, []impl.Ins{push(1), push(1), does(op)}, []impl.Ins{push(1), tier(one...), {Op: op, Marks: one}})
	}
	for _, n := range ends {
		list = append(list, []impl.Ins{push(n)}, []impl.Ins{push(1), skip(n)}, []impl.Ins{push(1), push(1), push(1), test(n)}, []impl.Ins{skip(n), push(1)}, []impl.Ins{push(1), skip(1), skip(n)})
	}
	for _, marks := range badMarks() {
		list = append(list, []impl.Ins{push(1), tier(marks...)})
	}
	return list
}

// checkNoCode checks the one answer of each function at a program that is not ok.
func checkNoCode(t *testing.T, code []impl.Ins, what string) {
	t.Helper()
	n, fault, used := impl.VmRun(code, nameLists()[1], impl.RuleMaxFuel)
	if impl.VmOk(code) || impl.VmWrite(code) != "" || impl.VmDeep(code) != 0 || n != 0 || fault != impl.CodeName || used != 0 {
		t.Errorf("%s: %d %d %d", what, n, fault, used)
	}
}

// checkCode checks all that is said of a program, ok or not.
func checkCode(t *testing.T, code []impl.Ins) {
	t.Helper()
	text, deep := codeText(code), deepOf(code)
	if deep == 0 {
		checkNoCode(t, code, text)
		if got, ok := impl.VmRead(text); ok && sameCode(got, code) {
			t.Errorf("%q is read", text)
		}
		return
	}
	if !impl.VmOk(code) || impl.VmDeep(code) != deep || impl.VmWrite(code) != text {
		t.Errorf("%q: %v %d, not %d; %q", text, impl.VmOk(code), impl.VmDeep(code), deep, impl.VmWrite(code))
	}
	if got, ok := impl.VmRead(text); !ok || !sameCode(got, code) {
		t.Errorf("%q is read as %v", text, got)
	}
	names := nameLists()[1]
	want, wantFault, wantUsed := runOf(code, names, impl.RuleMaxFuel)
	if n, fault, used := impl.VmRun(code, names, impl.RuleMaxFuel); n != want || fault != wantFault || used != wantUsed {
		t.Errorf("%q: %d %d %d, not %d %d %d", text, n, fault, used, want, wantFault, wantUsed)
	}
}

func TestVmLimits(t *testing.T) {
	if impl.VmMax != 80 || impl.VmMaxText != 1600 || impl.VmMaxStack != 12 || impl.VmPush != 1 || impl.VmLoad != 2 || impl.VmTest != 9 || impl.VmSkip != 11 {
		t.Error("limits")
	}
}

func TestP16ProgramsOfRules(t *testing.T) {
	for i, rule := range ruleList() {
		code := impl.VmMake(rule)
		if !impl.VmOk(code) || !sameCode(code, codeOf(rule)) {
			t.Errorf("rule %d: %q, not %q", i, codeText(code), codeText(codeOf(rule)))
		}
		for _, names := range nameLists() {
			for fuel := 0; fuel <= costOf(rule)+1; fuel++ {
				checkSame(t, rule, names, fuel)
			}
			checkSame(t, rule, names, impl.RuleMaxFuel)
		}
		for _, fuel := range append([]int{-1, impl.RuleMaxFuel + 1}, ends...) {
			checkSame(t, rule, nil, fuel)
		}
	}
}

// checkSame checks that a rule's program is what the rule is, with just as much fuel.
func checkSame(t *testing.T, rule impl.Rule, names []impl.Pair, fuel int) {
	t.Helper()
	n, code := impl.RuleOf(rule, names, fuel)
	x, fault, used := impl.VmRun(impl.VmMake(rule), names, fuel)
	want := 0
	if 0 <= fuel && fuel <= impl.RuleMaxFuel {
		_, _, want = ruleOf(rule, names, fuel)
	}
	if x != n || fault != code || used != want {
		t.Errorf("%s with %d: %d %d %d, not %d %d %d", textOf(rule), fuel, x, fault, used, n, code, want)
	}
}

func TestP16KnownPrograms(t *testing.T) {
	for rule, want := range map[string]string{
		"7": "push 7\n", "-7": "push -7\n", "a": "load a\n", "add(a,1)": "load a\npush 1\nadd\n", "sub(a,1)": "load a\npush 1\nsub\n", "mul(a,1)": "load a\npush 1\nmul\n", "part(a,1,2)": "load a\npush 1\npush 2\npart\n", "min(a,1)": "load a\npush 1\nmin\n", "max(a,1)": "load a\npush 1\nmax\n",
		"tiers(a;0:5,100:3)": "load a\ntiers 0:5 100:3\n", "if(a,b,1,2)": "load a\nload b\ntest 2\npush 1\nskip 1\npush 2\n", "if(a,b,add(1,2),tiers(3;0:1))": "load a\nload b\ntest 4\npush 1\npush 2\nadd\nskip 2\npush 3\ntiers 0:1\n",
		"if(1,2,if(3,4,5,6),7)": "push 1\npush 2\ntest 7\npush 3\npush 4\ntest 2\npush 5\nskip 1\npush 6\nskip 1\npush 7\n",
	} {
		r, ok := impl.RuleRead(rule)
		if got := impl.VmWrite(impl.VmMake(r)); !ok || got != want {
			t.Errorf("%s: %q", rule, got)
		}
	}
}

func TestP16NoRules(t *testing.T) {
	for i, rule := range notRules() {
		if code := impl.VmMake(rule); len(code) != 0 {
			t.Errorf("rule %d: %v", i, code)
		}
	}
}

func TestP16NewMemory(t *testing.T) {
	rule, _ := impl.RuleRead("add(tiers(a;0:1,2:3),tiers(a;0:1,2:3))")
	first, second := impl.VmMake(rule), impl.VmMake(rule)
	spoilCode(second)
	spoilPlace(&first[1])
	if !sameCode(first[2:], codeOf(rule)[2:]) || impl.RuleWrite(rule) != "add(tiers(a;0:1,2:3),tiers(a;0:1,2:3))" {
		t.Errorf("%v", first)
	}
}

func spoilPlace(place *impl.Ins) {
	for i := range place.Marks[:cap(place.Marks)] {
		place.Marks[:cap(place.Marks)][i] = impl.Mark{From: 77, Price: 77}
	}
	*place = load("changed")
}

// spoilCode writes over all lists of a program, spare room included.
func spoilCode(code []impl.Ins) {
	for i := range code[:cap(code)] {
		spoilPlace(&code[:cap(code)][i])
	}
}

func TestP17EachEnds(t *testing.T) {
	for i, code := range codeList() {
		deep := impl.VmDeep(code)
		if deep != deepOf(code) || deep < 1 || deep > impl.VmMaxStack || !impl.VmOk(code) {
			t.Errorf("program %d: %d at hand, not %d", i, deep, deepOf(code))
		}
		for _, names := range nameLists() {
			for _, fuel := range []int{0, 1, 2, 3, 5, 8, 13, 40, 100, impl.RuleMaxFuel} {
				n, fault, used := impl.VmRun(code, names, fuel)
				want, wantFault, wantUsed := runOf(code, names, fuel)
				if n != want || fault != wantFault || used != wantUsed || !impl.MoneyOk(n) || fault != 0 && n != 0 {
					t.Errorf("program %d with %d: %d %d %d, not %d %d %d", i, fuel, n, fault, used, want, wantFault, wantUsed)
				}
			}
		}
	}
}

func TestP17NoPrograms(t *testing.T) {
	for i, code := range notCodes() {
		checkNoCode(t, code, "program "+textOf(num(i)))
	}
}

func TestP17Limits(t *testing.T) {
	for _, code := range [][]impl.Ins{placesCode(1), placesCode(80), stackCode(12), bytesCode(1600)} {
		if deepOf(code) == 0 {
			t.Errorf("%q", codeText(code))
		}
		checkCode(t, code)
	}
	for _, code := range [][]impl.Ins{placesCode(81), stackCode(13), bytesCode(1601)} {
		if len(code) == 0 || deepOf(code) != 0 {
			t.Errorf("%q", codeText(code))
		}
		checkCode(t, code)
		if got, ok := impl.VmRead(codeText(code)); ok || len(got) != 0 {
			t.Errorf("%q is read", codeText(code))
		}
	}
}

func TestP17Deep(t *testing.T) {
	for text, deep := range map[string]int{
		"push 1\n": 1, "push 1\npush 2\nadd\n": 2, "push 1\npush 2\npush 3\npart\n": 3, "push 1\npush 2\nadd\npush 3\nadd\n": 2, "push 1\npush 2\npush 3\nadd\nadd\n": 3, "push 1\npush 2\ntest 2\npush 3\nskip 1\npush 4\n": 2,
		"push 1\npush 2\ntest 4\npush 1\npush 2\npush 3\npart\npush 4\nadd\n": 0, "push 1\npush 2\ntest 5\npush 1\npush 2\npush 3\npart\nskip 1\npush 4\n": 3, "push 1\npush 2\ntest 2\npush 4\nskip 4\npush 1\npush 2\npush 3\npart\n": 3,
		"skip 3\npush 1\npush 2\npush 3\npush 4\n": 1, "push 1\nskip 0\n": 1, "push 1\nskip 1\nadd\n": 1, "push 5\ntiers 0:1\n": 1, "skip 0\npush 1\n": 1,
	} {
		code, ok := impl.VmRead(text)
		if ok != (deep > 0) || impl.VmDeep(code) != deep {
			t.Errorf("%q: %v %d", text, ok, impl.VmDeep(code))
		}
	}
}

// All programs of a few places, of which most are not ok.
func TestP17SmallPrograms(t *testing.T) {
	places := []impl.Ins{push(1), load("a"), does(3), test(0), test(1), test(2), skip(0), skip(1), skip(2), tier(impl.Mark{Price: 2})}
	for size := 1; size <= 4; size++ {
		count := int(math.Pow(float64(len(places)), float64(size)))
		for which := range count {
			var code []impl.Ins
			for range size {
				code = append(code, places[which%len(places)])
				which /= len(places)
			}
			checkCode(t, code)
		}
	}
}

func TestP17ChangedPrograms(t *testing.T) {
	r := numbers{16}
	list := codeList()
	for range 20000 {
		checkCode(t, r.changed(anyOf(&r, list...)))
	}
}

func TestP17NothingIsWrittenIntoArguments(t *testing.T) {
	for i, code := range codeList() {
		given, names := slices.Concat(code, []impl.Ins{load("behind")})[:len(code)], nameLists()[1]
		for j, place := range given {
			given[j].Marks = append(slices.Clone(place.Marks), impl.Mark{From: 55})[:len(place.Marks)]
		}
		impl.VmOk(given)
		impl.VmRun(given, names, impl.RuleMaxFuel)
		impl.VmWrite(given)
		impl.VmDeep(given)
		stays := sameCode(given, code) && given[:len(code)+1][len(code)].Name == "behind" && slices.Equal(names, nameLists()[1])
		for _, place := range given {
			stays = stays && place.Marks[:len(place.Marks)+1][len(place.Marks)].From == 55
		}
		if !stays {
			t.Errorf("program %d is changed", i)
		}
	}
}

func TestP18FuelThatWasTaken(t *testing.T) {
	for i, code := range codeList() {
		for _, names := range nameLists() {
			n, fault, used := impl.VmRun(code, names, impl.RuleMaxFuel)
			if fault == impl.CodeFuel || used < 1 {
				t.Errorf("program %d: %d %d", i, fault, used)
			}
			for fuel := 0; fuel <= used+2; fuel++ {
				x, c, u := impl.VmRun(code, names, fuel)
				_, _, want := runOf(code, names, fuel)
				if fuel < used && (x != 0 || c != impl.CodeFuel || u > fuel || u != want) || fuel >= used && (x != n || c != fault || u != used) {
					t.Errorf("program %d with %d of %d: %d %d %d", i, fuel, used, x, c, u)
				}
			}
		}
	}
}

func TestP18JustEnough(t *testing.T) {
	for _, c := range []struct {
		text                string
		fuel, n, code, used int
	}{
		{"push 5\n", 1, 5, 0, 1}, {"push 5\n", 0, 0, 1, 0}, {"load nobody\n", 0, 0, 1, 0}, {"load nobody\n", 1, 0, 4, 1}, {"push 5\nskip 0\n", 1, 5, 0, 1}, {"skip 1\npush 1\npush 2\n", 1, 2, 0, 1}, {"skip 1\npush 1\npush 2\n", 0, 0, 1, 0}, {"push 1\npush 2\nadd\n", 3, 3, 0, 3}, {"push 1\npush 2\nadd\n", 2, 0, 1, 2},
		{"push 9\ntiers 0:5 4:3 9:1\n", 5, 35, 0, 5}, {"push 9\ntiers 0:5 4:3 9:1\n", 4, 0, 1, 1}, {"push 9\ntiers 0:5 4:3 9:1\n", 1, 0, 1, 1}, {"push -9\ntiers 0:5 4:3 9:1\n", 4, 0, 1, 1}, {"push -9\ntiers 0:5 4:3 9:1\n", 5, 0, 2, 5},
		{"push 1\npush 2\ntest 2\npush 3\nskip 1\npush 4\n", 4, 3, 0, 4}, {"push 1\npush 2\ntest 2\npush 3\nskip 1\npush 4\n", 3, 0, 1, 3}, {"push 2\npush 2\ntest 2\npush 3\nskip 1\npush 4\n", 4, 4, 0, 4}, {"push 3\npush 2\ntest 2\npush 3\nskip 1\npush 4\n", 4, 4, 0, 4}, {"push 1\npush 2\ntest 2\npush 3\nskip 1\npush 4\n", 2, 0, 1, 2},
		{"push 7\npush 1\npush 0\npart\n", 4, 0, 3, 4}, {"push 7\npush 1\npush 0\npart\n", 3, 0, 1, 3}, {"push 1000000000\npush 1001\nmul\nload nobody\nadd\n", 5, 0, 2, 3}, {"push 1000000000\npush 1001\nmul\nload nobody\nadd\n", 2, 0, 1, 2},
		{"push 5\npush 3\nsub\n", 9, 2, 0, 3}, {"push 7\npush 1\npush 2\npart\n", 9, 4, 0, 4}, {"push 5\npush 3\nmin\n", 9, 3, 0, 3}, {"push 5\npush 3\nmax\n", 9, 5, 0, 3}, {"load use\nload low\nmul\n", 9, -8991, 0, 3},
		{"push 5\n", -1, 0, 4, 0}, {"push 5\n", impl.RuleMaxFuel, 5, 0, 1}, {"push 5\n", impl.RuleMaxFuel + 1, 0, 4, 0}, {"push 5\n", math.MinInt, 0, 4, 0}, {"push 5\n", math.MaxInt, 0, 4, 0}, {"push 5\n", 1<<32 + 1, 0, 4, 0},
	} {
		code, ok := impl.VmRead(c.text)
		n, fault, used := impl.VmRun(code, nameLists()[1], c.fuel)
		if !ok || n != c.n || fault != c.code || used != c.used {
			t.Errorf("%q with %d: %d %d %d, not %d %d %d", c.text, c.fuel, n, fault, used, c.n, c.code, c.used)
		}
	}
}

func TestP19WriteAndRead(t *testing.T) {
	for i, code := range codeList() {
		text := impl.VmWrite(code)
		if text != codeText(code) {
			t.Errorf("program %d: %q, not %q", i, text, codeText(code))
		}
		if got, ok := impl.VmRead(text); !ok || !sameCode(got, code) {
			t.Errorf("program %d: %q is read as %v", i, text, got)
		}
	}
	empty := []impl.Ins{{Op: 1, Num: 3, Marks: []impl.Mark{}}, {Op: 11, Marks: []impl.Mark{}}}
	if !impl.VmOk(empty) || impl.VmWrite(empty) != "push 3\nskip 0\n" {
		t.Errorf("%q", impl.VmWrite(empty))
	}
}

func TestP19NoTexts(t *testing.T) {
	for _, text := range []string{
		"", "\n", "push 1", "push 1\n\n", "\npush 1\n", "push 1\r\n", "push 1 \n", " push 1\n", "push  1\n", "push\t1\n", "push\n", "push \n", "push1\n", "push 1 2\n", "Push 1\n", "PUSH 1\n", "push a\n", "push 01\n", "push -0\n", "push +1\n", "push --1\n", "push 1-\n", "push -\n", "push 1.0\n", "push 1000000001\n", "push -1000000001\n", "push 9223372036854775808\n", "push 18446744073709551617\n",
		"load\n", "load \n", "load A\n", "load 1\n", "load a1\n", "load abcdefghi\n", "load a b\n", "load  a\n", "load a \n", "load é\n", "load \xff\n", "load a", "num 1\n", "var a\n", "1\n", "a\n", "add\n", "push 1\nadd\n", "push 1\npush 2\n", "push 1\npush 2\nadd \n", "push 1\npush 2\nadd 1\n", "push 1\npush 2\nadd", "push 1\npush 2\nAdd\n", "push 1\npush 2\n add\n", "push 1\npush 2\nif\n", "push 1\npush 2\nneg\n",
		"push 1\npush 2\ntest 2\npush 3\nskip 1\npush 4", "push 1\npush 2\ntest 1\npush 3\n", "push 1\npush 2\ntest 2\npush 3\nskip 2\npush 4\n", "push 1\npush 2\ntest 2\npush 3\nskip 0\npush 4\n", "push 1\npush 2\ntest 3\npush 3\nskip 1\npush 4\n", "push 1\npush 2\ntest 4\npush 3\nskip 1\npush 4\n", "push 1\npush 2\nif 2\npush 3\nskip 1\npush 4\n", "push 1\npush 2\ntest\npush 3\nskip 1\npush 4\n", "push 1\npush 2\ntest 02\npush 3\nskip 1\npush 4\n",
		"push 1\nskip 1\n", "push 1\nskip -1\n", "push 1\nskip -0\n", "push 1\nskip\n", "push 1\nskip 00\n", "skip 9223372036854775807\npush 1\n", "push 1\nskip 18446744073709551616\n",
		"push 1\ntiers\n", "push 1\ntiers \n", "push 1\ntiers 1:1\n", "push 1\ntiers 0:1 \n", "push 1\ntiers  0:1\n", "push 1\ntiers 0:1,1:1\n", "push 1\ntiers 0:1  1:1\n", "push 1\ntiers 0:1 0:2\n", "push 1\ntiers 0\n", "push 1\ntiers 0:\n", "push 1\ntiers :1\n", "push 1\ntiers 0:01\n", "push 1\ntiers 0:-1\n", "push 1\ntiers 0:1000001\n", "push 1\ntiers 0:1 1000000001:1\n", "push 1\ntiers 0:1 1:1 2:1 3:1 4:1 5:1\n", "push 1\ntiers;0:1\n", "tiers 0:1\n",
		strings.Repeat("push 1\n", 80), strings.Repeat("skip 0\n", 80), strings.Repeat("skip 0\n", 80) + "push 1\n", filled(1600), filled(100000), allBytes(), "push 1" + strings.Repeat("1", 100000) + "\n", "push 1\x00\n", "\x00", "5", "add(1,2)",
	} {
		if code, ok := impl.VmRead(text); ok || len(code) != 0 {
			t.Errorf("%q is read: %v", text, code)
		}
	}
}

func TestP19WhatIsReadIsWritten(t *testing.T) {
	for _, text := range []string{"load use\npush 10\ntest 4\nload use\npush 1\nadd\nskip 2\nload use\ntiers 0:5 100:3\n", "push -1\nskip 1\nsub\n", "push 7\npush 10\npush 2\npart\n", "push 1\npush 2\nmin\npush 3\nmax\npush 4\nmul\n"} {
		for _, changed := range changesOf(text) {
			want, wantOk := fineLines(changed)
			code, ok := impl.VmRead(changed)
			if ok != wantOk || !sameCode(code, want) || ok && impl.VmWrite(code) != changed {
				t.Errorf("%q: %v %v", changed, code, ok)
			}
		}
	}
}

func TestP19NewMemory(t *testing.T) {
	text := "push 1\ntiers 0:1 2:3\ntiers 0:1 2:3\n"
	first, _ := impl.VmRead(text)
	second, _ := impl.VmRead(text)
	spoilCode(second)
	spoilPlace(&first[1])
	if !sameCode(first[2:], []impl.Ins{tier(impl.Mark{Price: 1}, impl.Mark{From: 2, Price: 3})}) || first[0].Num != 1 {
		t.Errorf("%v", first)
	}
}

func TestP20OneBehindTheOther(t *testing.T) {
	list, sums := codeList(), 0
	for i, a := range list {
		for _, j := range []int{i, (i*3 + 1) % len(list), (i*5 + 7) % len(list), (i*11 + 20) % len(list)} {
			b := list[j]
			both := slices.Concat(a, b, []impl.Ins{does(impl.RuleAdd)})
			fine := len(both) <= 80 && len(codeText(both)) <= 1600 && deepOf(b) < 12
			if impl.VmOk(both) != fine {
				t.Errorf("programs %d and %d: %v", i, j, !fine)
			}
			for _, names := range nameLists() {
				x, xFault, xUsed := impl.VmRun(a, names, impl.RuleMaxFuel)
				y, yFault, yUsed := impl.VmRun(b, names, impl.RuleMaxFuel)
				if !fine || xFault != 0 || yFault != 0 {
					continue
				}
				want, ok := impl.MoneyAdd(x, y)
				sum, fault, used := impl.VmRun(both, names, xUsed+yUsed+1)
				if sum != want || (fault == 0) != ok || !ok && fault != impl.CodeBig || used != xUsed+yUsed+1 {
					t.Errorf("programs %d and %d: %d %d %d", i, j, sum, fault, used)
				}
				if _, fault, used := impl.VmRun(both, names, xUsed+yUsed); fault != impl.CodeFuel || used != xUsed+yUsed {
					t.Errorf("programs %d and %d with 1 less: %d %d", i, j, fault, used)
				}
				sums++
			}
		}
	}
	if sums < 1000 {
		t.Errorf("only %d sums", sums)
	}
}

func TestP20TooBig(t *testing.T) {
	most := []impl.Ins{push(1000000), push(1000000), does(impl.RuleMul)}
	for _, c := range []struct{ n, want, code int }{{0, impl.MoneyMax, 0}, {1, 0, impl.CodeBig}, {-1, impl.MoneyMax - 1, 0}} {
		both := slices.Concat(most, []impl.Ins{push(c.n), does(impl.RuleAdd)})
		if n, fault, used := impl.VmRun(both, nil, 5); n != c.want || fault != c.code || used != 5 {
			t.Errorf("%d more: %d %d %d", c.n, n, fault, used)
		}
	}
}
