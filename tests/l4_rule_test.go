package tests

import (
	"math"
	"slices"
	"strings"
	"testing"

	"loop.example/stopover/impl"
)

// notRules are rules that are not ok, each for one reason.
func notRules() []impl.Rule {
	one := []impl.Mark{{Price: 1}}
	list := []impl.Rule{
		{}, {Op: 1, Num: impl.RuleMaxNum + 1}, {Op: 1, Num: -impl.RuleMaxNum - 1}, {Op: 1, Name: "a"}, {Op: 1, Marks: one}, {Op: 1, Kids: []impl.Rule{num(1)}},
		{Op: 2}, {Op: 2, Name: "a", Num: 1}, {Op: 2, Name: "a", Num: -1}, {Op: 2, Name: "a", Marks: one}, {Op: 2, Name: "a", Kids: []impl.Rule{num(1)}},
		{Op: 2, Name: "abcdefghi"}, {Op: 2, Name: "A"}, {Op: 2, Name: "a1"}, {Op: 2, Name: "1"}, {Op: 2, Name: "a b"}, {Op: 2, Name: "é"}, {Op: 2, Name: "\x00"}, {Op: 2, Name: "\xff"}, {Op: 2, Name: filled(100000)},
		tiers(num(1)), {Op: 10, Marks: one}, {Op: 10, Kids: []impl.Rule{num(1), num(1)}, Marks: one}, {Op: 10, Num: 1, Kids: []impl.Rule{num(1)}, Marks: one}, {Op: 10, Name: "a", Kids: []impl.Rule{num(1)}, Marks: one},
		levelRule(7), levelRule(8), levelRule(1000), partsRule(31), bytesRule(301), bytesRule(302), with(9, num(0), num(1), levelRule(6), num(1)), with(9, num(0), num(1), num(1), levelRule(6)), tiers(levelRule(6), one...),
	}
	for _, op := range append([]int{-1, 0, 11, 12, 255, 257, 258, 1 << 32, 1<<32 + 1}, ends...) {
		for kids := range 5 {
			list = append(list, with(op, slices.Repeat([]impl.Rule{num(1)}, kids)...))
		}
		list = append(list, impl.Rule{Op: op, Name: "a"}, impl.Rule{Op: op, Num: 1}, tiersBy(op, one))
	}
	for op, row := range opRows() {
		for kids := range 7 {
			rule := with(op, slices.Repeat([]impl.Rule{num(1)}, kids)...)
			if op == 10 {
				rule.Marks = one
			}
			if kids != row.kids {
				list = append(list, rule)
				continue
			}
			list = append(list, impl.Rule{Op: op, Num: 1, Kids: rule.Kids, Marks: rule.Marks}, impl.Rule{Op: op, Name: "a", Kids: rule.Kids, Marks: rule.Marks})
			if op != 10 {
				list = append(list, impl.Rule{Op: op, Kids: rule.Kids, Marks: one})
			}
		}
	}
	for _, n := range ends {
		list = append(list, num(n), impl.Rule{Op: 2, Num: n, Name: "a"})
	}
	for _, marks := range badMarks() {
		list = append(list, tiers(num(1), marks...))
	}
	return list
}

func tiersBy(op int, marks []impl.Mark) impl.Rule {
	return impl.Rule{Op: op, Kids: []impl.Rule{num(1)}, Marks: marks}
}

// badMarks are marks that are not ok.
func badMarks() [][]impl.Mark {
	list := [][]impl.Mark{
		nil, {{From: 1}}, {{From: -1}}, {{From: 1}, {From: 2}}, {{}, {}}, {{}, {From: -1}}, {{}, {From: 2}, {From: 2}}, {{}, {From: 3}, {From: 2}}, {{}, {From: 1}, {From: 0}}, {{From: -1}, {From: 0}},
		{{Price: -1}}, {{Price: impl.PartMax + 1}}, {{}, {From: 1, Price: -1}}, {{}, {From: 1, Price: impl.PartMax + 1}}, {{}, {From: impl.RuleMaxNum + 1}}, {{}, {From: 1}, {From: 2}, {From: 3}, {From: 4}, {From: 5}}, slices.Repeat([]impl.Mark{{}}, 6),
	}
	for _, n := range ends {
		list = append(list, []impl.Mark{{From: n}}, []impl.Mark{{Price: n}}, []impl.Mark{{}, {From: n}}, []impl.Mark{{}, {From: 1, Price: n}})
	}
	return list
}

// spoiled is a rule in which one part, anywhere, is another one, which may be ok too.
func spoiled(r *numbers, rule impl.Rule) impl.Rule {
	rule = copied(rule)
	at := &rule
	for len(at.Kids) > 0 && r.below(3) > 0 {
		at = &at.Kids[r.below(len(at.Kids))]
	}
	switch r.below(9) {
	case 0:
		at.Op = r.below(14) - 1
	case 1:
		at.Num = anyOf(r, 0, 1, -1, impl.RuleMaxNum, impl.RuleMaxNum+1, -impl.RuleMaxNum-1, math.MinInt)
	case 2:
		at.Name = anyOf(r, "", "a", "A", "abcdefgh", "abcdefghi", "add(", "a,b", "1")
	case 3:
		at.Kids = append(at.Kids, num(1))
	case 4:
		at.Kids = at.Kids[:len(at.Kids)/2]
	case 5:
		at.Marks = append(at.Marks, impl.Mark{From: anyOf(r, -1, 0, 1, 5000000, impl.RuleMaxNum, impl.RuleMaxNum+1), Price: anyOf(r, 0, 1, -1, impl.PartMax, impl.PartMax+1)})
	case 6:
		at.Marks = at.Marks[len(at.Marks)/2:]
	case 7:
		*at = with(3, *at, num(-impl.RuleMaxNum))
	case 8:
		*at = levelRule(1 + r.below(6))
	}
	return rule
}

// checkNoRule checks the one answer of each function at a rule that is not ok.
func checkNoRule(t *testing.T, rule impl.Rule, what string) {
	t.Helper()
	n, code := impl.RuleOf(rule, nameLists()[1], impl.RuleMaxFuel)
	if impl.RuleOk(rule) || impl.RuleWrite(rule) != "" || n != 0 || code != impl.CodeName || impl.RuleCost(rule) != 0 || len(impl.RuleNames(rule)) != 0 {
		t.Errorf("%s is ok", what)
	}
}

func checkNoText(t *testing.T, text string) {
	t.Helper()
	if rule, ok := impl.RuleRead(text); ok || !sameRule(rule, impl.Rule{}) {
		t.Errorf("%q is read: %v", text, rule)
	}
}

func TestRuleLimits(t *testing.T) {
	if impl.RuleMaxParts != 30 || impl.RuleMaxDepth != 6 || impl.RuleMaxNum != 1000000000 || impl.RuleMaxMarks != 5 || impl.RuleMaxText != 300 || impl.RuleMaxFuel != 1000 {
		t.Error("limits")
	}
	for i, op := range []int{impl.RuleNum, impl.RuleVar, impl.RuleAdd, impl.RuleSub, impl.RuleMul, impl.RulePart, impl.RuleMin, impl.RuleMax, impl.RuleIf, impl.RuleTiers} {
		if op != i+1 {
			t.Errorf("op %d", op)
		}
	}
	if impl.CodeFuel != 1 || impl.CodeBig != 2 || impl.CodeZero != 3 || impl.CodeName != 4 {
		t.Error("codes")
	}
}

func TestP10WriteAndRead(t *testing.T) {
	for i, rule := range ruleList() {
		text := impl.RuleWrite(rule)
		if !impl.RuleOk(rule) || text != textOf(rule) {
			t.Errorf("rule %d: %q, not %q", i, text, textOf(rule))
		}
		if got, ok := impl.RuleRead(text); !ok || !sameRule(got, rule) {
			t.Errorf("rule %d: %q is read as %v", i, text, got)
		}
	}
}

func TestP10AsWritten(t *testing.T) {
	for text, rule := range map[string]impl.Rule{
		"0": num(0), "-1000000000": num(-1000000000), "add(use,-3)": with(3, name("use"), num(-3)), "sub(1,a)": with(4, num(1), name("a")), "mul(a,b)": with(5, name("a"), name("b")), "part(7,1,2)": with(6, num(7), num(1), num(2)),
		"min(a,1)": with(7, name("a"), num(1)), "max(a,1)": with(8, name("a"), num(1)), "if(1,2,x,y)": with(9, num(1), num(2), name("x"), name("y")), "tiers(a;0:1)": tiers(name("a"), impl.Mark{Price: 1}),
		"tiers(9;0:5,4:3,9:1)": tiers(num(9), impl.Mark{Price: 5}, impl.Mark{From: 4, Price: 3}, impl.Mark{From: 9, Price: 1}), "add(add,add(if,tiers))": with(3, name("add"), with(3, name("if"), name("tiers"))),
	} {
		if got, ok := impl.RuleRead(text); !ok || !sameRule(got, rule) || impl.RuleWrite(rule) != text {
			t.Errorf("%q: %v, %q", text, got, impl.RuleWrite(rule))
		}
	}
}

func TestP10EmptyListsAreNone(t *testing.T) {
	rule := impl.Rule{Op: 3, Kids: []impl.Rule{{Op: 1, Kids: []impl.Rule{}, Marks: []impl.Mark{}}, {Op: 2, Name: "a", Marks: []impl.Mark{}}}, Marks: []impl.Mark{}}
	if !impl.RuleOk(rule) || impl.RuleWrite(rule) != "add(0,a)" {
		t.Errorf("%q", impl.RuleWrite(rule))
	}
}

func TestP10NoRules(t *testing.T) {
	for i, rule := range notRules() {
		checkNoRule(t, rule, "rule "+textOf(num(i)))
		// And so it is of a rule in which it is, at each place.
		checkNoRule(t, with(6, rule, num(1), num(1)), "first kid "+textOf(num(i)))
		checkNoRule(t, with(9, num(1), num(2), num(3), rule), "last kid "+textOf(num(i)))
	}
}

func TestP10RulesInThemselves(t *testing.T) {
	for op, row := range opRows() {
		kids := make([]impl.Rule, row.kids)
		for i := range kids {
			kids[i] = impl.Rule{Op: op, Kids: kids}
			if op == 10 {
				kids[i].Marks = []impl.Mark{{Price: 1}}
			}
		}
		checkNoRule(t, kids[0], "a rule in itself")
	}
}

func TestP10SpoiledRules(t *testing.T) {
	r := numbers{11}
	list := ruleList()
	for range 20000 {
		rule := spoiled(&r, anyOf(&r, list...))
		text := textOf(rule)
		if !fineRule(rule) {
			checkNoRule(t, rule, text)
			continue
		}
		got, ok := impl.RuleRead(text)
		if !impl.RuleOk(rule) || impl.RuleWrite(rule) != text || !ok || !sameRule(got, rule) {
			t.Errorf("%q: %q", text, impl.RuleWrite(rule))
		}
	}
}

func TestP10Limits(t *testing.T) {
	for _, rule := range []impl.Rule{levelRule(6), partsRule(30), bytesRule(300), tiers(num(1), make5()...)} {
		text := textOf(rule)
		if got, ok := impl.RuleRead(text); !impl.RuleOk(rule) || impl.RuleWrite(rule) != text || !ok || !sameRule(got, rule) {
			t.Errorf("%q is no rule", text)
		}
	}
	six := append(make5(), impl.Mark{From: 6})
	for _, rule := range []impl.Rule{levelRule(7), partsRule(31), bytesRule(301), tiers(num(1), six...), num(1000000001), num(-1000000001), name("abcdefghi")} {
		checkNoRule(t, rule, textOf(rule))
		checkNoText(t, textOf(rule))
	}
}

func make5() []impl.Mark {
	return []impl.Mark{{}, {From: 1}, {From: 2}, {From: 3}, {From: 5}}
}

func TestP10NoTexts(t *testing.T) {
	for _, text := range []string{
		"", "-0", "00", "01", "-01", "+1", "-", "--1", "1-", "1-1", " 1", "1 ", "1.0", "1_0", "0x1", "1e3", "１", "1000000001", "-1000000001", "9223372036854775808", "18446744073709551617", "-9223372036854775809",
		"A", "Add(1,2)", "a1", "1a", "a-b", "abcdefghi", "é", "\x00", "\xff", "a\n", "\na", "a\x00", "(", ")", ",", ";", "()", "(1)", "1()", "a()",
		"add()", "add(1)", "add(1,2,3)", "add(,)", "add(1,)", "add(,1)", "add(1,2", "add(1,2))", "add(1,2)x", "add(1,2)1", "add(1,2),", "add(1;2)", "add (1,2)", "add( 1,2)", "add(1, 2)", "add(1,2 )", "add(1,2)\n", "(1,2)", "add1,2)", "add[1,2]", "add(1,2)add(1,2)", "add(1,2;0:1)", "add(1,-)", "add(a,A)",
		"neg(a)", "num(1)", "var(a)", "a(1,2)", "iff(1,2,3,4)", "push 1", "ADD(1,2)", "part(1,2)", "part(1,2,3,4)", "if(a,b,1,2", "if(1,2)", "if(1,2,3)", "if(1,2,3,4,5)", "min(1)", "max(1,2,3)", "sub(1)", "mul(1)",
		"tiers(a)", "tiers(a;)", "tiers(a,0:1)", "tiers(;0:1)", "tiers(a;1:1)", "tiers(a;0:1,0:2)", "tiers(a;0:1,2:1,1:1)", "tiers(a;0:1,)", "tiers(a;,0:1)", "tiers(a;0:1;1:1)", "tiers(a;0:1 1:1)", "tiers(a;0)", "tiers(a;0:)", "tiers(a;:1)", "tiers(a;0:1:1)", "tiers(a;0:-1)", "tiers(a;-1:1)", "tiers(a;0:1000001)", "tiers(a;0:1,1000000001:1)",
		"tiers(a;00:1)", "tiers(a;0:01)", "tiers(a;-0:1)", "tiers(a;0:-0)", "tiers(a;0:+1)", "tiers(a;0:a)", "tiers(a;0:1", "tiers(a;0:1,1:1,2:1,3:1,4:1,5:1)", "tiers(a,b;0:1)", "tiers(a;0:1)x", "tiers(a; 0:1)", "tiers(a;0:9223372036854775808)", "tiers(a;0:1,18446744073709551617:1)",
		"add(add(add(add(add(add(1,1),1),1),1),1),1)", strings.Repeat("add(", 75), strings.Repeat("add(", 100000), strings.Repeat("add(", 1<<23), strings.Repeat("a", 301), strings.Repeat("1", 301), filled(300), filled(100000), allBytes(),
	} {
		checkNoText(t, text)
	}
}

func TestP10WhatIsReadIsWritten(t *testing.T) {
	for _, text := range []string{"add(use,mul(-10,if))", "if(a,10,tiers(b;0:5,40:3),part(7,1,2))", "-120", "tiers(7;0:1,10:20)", "sub(min(1,2),max(a,b))"} {
		for _, changed := range changesOf(text) {
			checkText(t, changed)
		}
	}
}

// checkText checks that just that is read which the table says.
func checkText(t *testing.T, text string) {
	t.Helper()
	want, wantOk := fineText(text)
	rule, ok := impl.RuleRead(text)
	if ok != wantOk || !sameRule(rule, want) || ok && impl.RuleWrite(rule) != text {
		t.Errorf("%q: %v %v, not %v %v", text, rule, ok, want, wantOk)
	}
}

func TestP10NewMemory(t *testing.T) {
	text := "if(a,b,tiers(a;0:1,2:3),tiers(b;0:1,2:3))"
	first, _ := impl.RuleRead(text)
	second, _ := impl.RuleRead(text)
	spoilAll(second)
	if impl.RuleWrite(first) != text {
		t.Errorf("%v", first)
	}
	for _, kid := range []int{0, 1, 2, 3} {
		one, _ := impl.RuleRead(text)
		others := copied(one)
		spoilAll(one.Kids[kid])
		for i := range one.Kids {
			if i != kid && !sameRule(one.Kids[i], others.Kids[i]) {
				t.Errorf("kids %d and %d share", kid, i)
			}
		}
	}
	names := impl.RuleNames(first)
	for i := range names[:cap(names)] {
		names[:cap(names)][i] = "changed"
	}
	if impl.RuleWrite(first) != text || !slices.Equal(impl.RuleNames(first), []string{"a", "b"}) {
		t.Error("names share")
	}
}

// spoilAll writes over all lists of a rule, spare room included.
func spoilAll(rule impl.Rule) {
	for i := range rule.Kids[:cap(rule.Kids)] {
		kid := &rule.Kids[:cap(rule.Kids)][i]
		spoilAll(*kid)
		*kid = name("changed")
	}
	for i := range rule.Marks[:cap(rule.Marks)] {
		rule.Marks[:cap(rule.Marks)][i] = impl.Mark{From: 77, Price: 77}
	}
}

// roomy is a rule whose lists all have spare room, in which something stands.
func roomy(rule impl.Rule) impl.Rule {
	kids := make([]impl.Rule, 0, len(rule.Kids)+2)
	for _, kid := range rule.Kids {
		kids = append(kids, roomy(kid))
	}
	rule.Kids = append(kids, name("behind"), name("behind"))[:len(kids)]
	size := len(rule.Marks)
	rule.Marks = append(slices.Clone(rule.Marks), impl.Mark{From: 55}, impl.Mark{From: 55})[:size]
	return rule
}

// roomStays says whether that still stands there.
func roomStays(rule impl.Rule) bool {
	behind := rule.Kids[len(rule.Kids) : len(rule.Kids)+2]
	marks := rule.Marks[len(rule.Marks) : len(rule.Marks)+2]
	stays := behind[0].Name == "behind" && behind[1].Name == "behind" && marks[0].From == 55 && marks[1].From == 55
	for _, kid := range rule.Kids {
		stays = stays && roomStays(kid)
	}
	return stays
}

func TestP10NothingIsWrittenIntoArguments(t *testing.T) {
	for i, rule := range ruleList() {
		given, names := roomy(rule), nameLists()[1]
		impl.RuleOk(given)
		impl.RuleWrite(given)
		impl.RuleOf(given, names, impl.RuleMaxFuel)
		impl.RuleCost(given)
		impl.RuleNames(given)
		impl.TiersOf(100, given.Marks)
		impl.VmMake(given)
		if !sameRule(given, rule) || !roomStays(given) || !slices.Equal(names, nameLists()[1]) {
			t.Errorf("rule %d is changed", i)
		}
	}
}

func TestP11EachFuel(t *testing.T) {
	for i, rule := range ruleList() {
		cost := costOf(rule)
		if impl.RuleCost(rule) != cost {
			t.Errorf("rule %d costs %d, not %d", i, impl.RuleCost(rule), cost)
		}
		for _, names := range nameLists() {
			most, code := impl.RuleOf(rule, names, impl.RuleMaxFuel)
			if n, c := impl.RuleOf(rule, names, cost); n != most || c != code || c == impl.CodeFuel {
				t.Errorf("rule %d: %d %d with what it costs, %d %d with all", i, n, c, most, code)
			}
			for fuel := 0; fuel <= cost+1; fuel++ {
				want, wantCode, _ := ruleOf(rule, names, fuel)
				n, c := impl.RuleOf(rule, names, fuel)
				if n != want || c != wantCode || c != impl.CodeFuel && (n != most || c != code) {
					t.Errorf("rule %d with %d: %d %d, not %d %d", i, fuel, n, c, want, wantCode)
				}
			}
		}
	}
}

func TestP11NoFuel(t *testing.T) {
	for _, rule := range []impl.Rule{num(7), name("a"), with(3, num(1), num(2))} {
		for _, fuel := range append([]int{-1, -2, -1000, impl.RuleMaxFuel + 1, 2000, 1 << 32}, ends...) {
			if n, code := impl.RuleOf(rule, nameLists()[1], fuel); n != 0 || code != impl.CodeName {
				t.Errorf("fuel %d: %d %d", fuel, n, code)
			}
		}
		if n, code := impl.RuleOf(rule, nameLists()[1], 0); n != 0 || code != impl.CodeFuel {
			t.Errorf("no fuel: %d %d", n, code)
		}
		if _, code := impl.RuleOf(rule, nameLists()[1], impl.RuleMaxFuel); code != 0 {
			t.Errorf("most fuel: %d", code)
		}
	}
}

// ruleCase is a rule's text, and what it says by the second list of names.
type ruleCase struct {
	text          string
	fuel, n, code int
}

func checkCases(t *testing.T, list []ruleCase) {
	t.Helper()
	for _, c := range list {
		rule, ok := impl.RuleRead(c.text)
		n, code := impl.RuleOf(rule, nameLists()[1], c.fuel)
		if !ok || n != c.n || code != c.code {
			t.Errorf("%s with %d: %d %d, not %d %d", c.text, c.fuel, n, code, c.n, c.code)
		}
	}
}

func TestP11JustEnough(t *testing.T) {
	checkCases(t, []ruleCase{
		{"5", 1, 5, 0}, {"5", 0, 0, 1}, {"a", 1, 3, 0}, {"a", 0, 0, 1}, {"nobody", 0, 0, 1}, {"nobody", 1, 0, 4}, {"add(1,2)", 3, 3, 0}, {"add(1,2)", 2, 0, 1}, {"part(7,1,2)", 4, 4, 0}, {"part(7,1,2)", 3, 0, 1}, {"part(7,1,0)", 3, 0, 1}, {"part(7,1,0)", 4, 0, 3},
		// The way that is not gone is not paid for; the one that is gone is paid last.
		{"if(1,2,3,add(1,add(1,1)))", 4, 3, 0}, {"if(2,1,add(1,add(1,1)),3)", 4, 3, 0}, {"if(1,2,3,4)", 3, 0, 1}, {"if(1,2,add(1,2),3)", 6, 3, 0}, {"if(1,2,add(1,2),3)", 5, 0, 1}, {"if(1,2,nobody,3)", 3, 0, 1}, {"if(1,2,nobody,3)", 4, 0, 4},
		{"if(nobody,1,2,3)", 1, 0, 4}, {"if(1,nobody,2,3)", 2, 0, 4}, {"if(1,nobody,2,3)", 1, 0, 1},
		{"tiers(9;0:5,4:3,9:1)", 5, 35, 0}, {"tiers(9;0:5,4:3,9:1)", 4, 0, 1}, {"tiers(-1;0:5,4:3,9:1)", 4, 0, 1}, {"tiers(-1;0:5,4:3,9:1)", 5, 0, 2}, {"tiers(9;0:5)", 3, 45, 0}, {"tiers(9;0:5)", 2, 0, 1},
		{"mul(mul(1000000000,1000000000),nobody)", 3, 0, 2}, {"mul(mul(1000000000,1000000000),nobody)", 2, 0, 1}, {"add(nobody,mul(1000000000,1000000000))", 1, 0, 4},
	})
}

func TestP11WaysCostTheDearerOne(t *testing.T) {
	for text, cost := range map[string]int{
		"1": 1, "a": 1, "add(1,2)": 3, "part(1,2,3)": 4, "if(1,2,3,4)": 4, "if(1,2,add(1,2),4)": 6, "if(1,2,3,add(1,2))": 6, "if(1,2,add(1,2),add(1,2))": 6, "if(add(1,1),2,tiers(1;0:1,1:2),add(1,2))": 9, "tiers(a;0:1)": 3, "tiers(a;0:1,1:1,2:1,3:1,4:1)": 7,
		"if(1,2,if(1,2,3,4),add(1,2))": 7, "add(if(1,2,3,add(1,2)),if(1,2,3,4))": 11,
	} {
		rule, ok := impl.RuleRead(text)
		if !ok || impl.RuleCost(rule) != cost {
			t.Errorf("%s costs %d, not %d", text, impl.RuleCost(rule), cost)
		}
	}
}

func TestP12NamesAlone(t *testing.T) {
	for i, rule := range ruleList() {
		names := impl.RuleNames(rule)
		if !slices.Equal(names, namesOf(rule)) {
			t.Errorf("rule %d: %q, not %q", i, names, namesOf(rule))
		}
		for _, all := range nameLists() {
			var some []impl.Pair
			for _, pair := range all {
				if slices.Contains(names, pair.Name) {
					some = append(some, pair)
				}
			}
			for _, fuel := range []int{0, 2, 5, impl.RuleMaxFuel} {
				n, code := impl.RuleOf(rule, all, fuel)
				if x, c := impl.RuleOf(rule, some, fuel); x != n || c != code {
					t.Errorf("rule %d with %d: %d %d with its names, %d %d with all", i, fuel, x, c, n, code)
				}
			}
		}
	}
}

func TestP12Ascending(t *testing.T) {
	for text, names := range map[string][]string{
		"1": nil, "b": {"b"}, "add(b,a)": {"a", "b"}, "add(a,a)": {"a"}, "add(ab,add(b,a))": {"a", "ab", "b"}, "if(1,2,z,y)": {"y", "z"}, "if(d,c,b,a)": {"a", "b", "c", "d"}, "tiers(part(c,b,c);0:1)": {"b", "c"}, "add(abcdefgh,add(abcdefg,abcdefgi))": {"abcdefg", "abcdefgh", "abcdefgi"}, "add(add,if)": {"add", "if"},
	} {
		rule, ok := impl.RuleRead(text)
		if got := impl.RuleNames(rule); !ok || !slices.Equal(got, names) {
			t.Errorf("%s: %q", text, got)
		}
	}
}

func TestP13Amounts(t *testing.T) {
	r := numbers{12}
	codes := map[int]int{}
	for range 20000 {
		rule := r.rule(1)
		if !fineRule(rule) {
			continue
		}
		names, fuel := anyOf(&r, nameLists()...), anyOf(&r, 0, 1, 3, 5, 9, r.below(60), 1000, 1000, 1000)
		n, code := impl.RuleOf(rule, names, fuel)
		if want, wantCode, _ := ruleOf(rule, names, fuel); n != want || code != wantCode || code != 0 && n != 0 || !impl.MoneyOk(n) {
			t.Errorf("%s with %d: %d %d, not %d %d", textOf(rule), fuel, n, code, want, wantCode)
		}
		codes[code]++
	}
	for code := range 5 {
		if codes[code] < 20 {
			t.Errorf("code %d came %d times", code, codes[code])
		}
	}
}

func TestP13Codes(t *testing.T) {
	checkCases(t, []ruleCase{
		{"-1000000000", 1000, -1000000000, 0}, {"use", 1000, 9, 0}, {"nobody", 1000, 0, 4}, {"sub(1,use)", 1000, -8, 0}, {"mul(use,low)", 1000, -8991, 0}, {"min(use,3)", 1000, 3, 0}, {"min(3,use)", 1000, 3, 0}, {"max(use,3)", 1000, 9, 0}, {"max(-3,-4)", 1000, -3, 0},
		{"mul(1000000000,1000)", 1000, 1000000000000, 0}, {"mul(1000000000,1001)", 1000, 0, 2}, {"mul(-1000000000,1000)", 1000, -1000000000000, 0}, {"mul(-1000000000,1001)", 1000, 0, 2}, {"mul(1000000000,1000000000)", 1000, 0, 2}, {"mul(-1000000000,-1000)", 1000, 1000000000000, 0}, {"mul(0,1000000000)", 1000, 0, 0},
		{"mul(mul(1000000,1000000),mul(1000000,1000000))", 1000, 0, 2}, {"mul(mul(1000000,1000000),18446744)", 1000, 0, 2}, {"mul(mul(1000000,1000000),-1)", 1000, -1000000000000, 0}, {"mul(mul(1000000,1000000),0)", 1000, 0, 0}, {"mul(0,mul(1000000,1000000))", 1000, 0, 0}, {"mul(mul(1048576,524288),33554432)", 1000, 0, 2}, {"mul(mul(1048576,524288),mul(32768,1024))", 1000, 0, 2},
		{"add(mul(1000000,1000000),0)", 1000, 1000000000000, 0}, {"add(mul(1000000,1000000),1)", 1000, 0, 2}, {"sub(mul(-1000000,1000000),1)", 1000, 0, 2}, {"sub(mul(-1000000,1000000),-1)", 1000, -999999999999, 0}, {"sub(mul(-1000000,1000000),mul(1000000,1000000))", 1000, 0, 2}, {"sub(mul(1000000,1000000),mul(1000000,1000000))", 1000, 0, 0},
		{"part(7,1,2)", 1000, 4, 0}, {"part(5,1,2)", 1000, 2, 0}, {"part(-7,1,2)", 1000, -4, 0}, {"part(1,1,0)", 1000, 0, 3}, {"part(1,-1,0)", 1000, 0, 3}, {"part(1,1000001,0)", 1000, 0, 3}, {"part(1,-1,2)", 1000, 0, 2}, {"part(1,1,-1)", 1000, 0, 2}, {"part(1,1000000,1000000)", 1000, 1, 0}, {"part(1,1000001,1000000)", 1000, 0, 2}, {"part(1,1,1000001)", 1000, 0, 2}, {"part(1000000000,1000000,1)", 1000, 0, 2},
		{"part(mul(1000000000,1001),1,0)", 1000, 0, 2}, {"part(1,nobody,0)", 1000, 0, 4}, {"part(1,1,nobody)", 1000, 0, 4}, {"part(nobody,mul(1000000000,1001),0)", 1000, 0, 4},
		{"tiers(0;0:5)", 1000, 0, 0}, {"tiers(-1;0:5)", 1000, 0, 2}, {"tiers(1000000;0:1000000)", 1000, 1000000000000, 0}, {"tiers(1000001;0:1000000)", 1000, 0, 2}, {"tiers(1000001;0:1000000,1000000:0)", 1000, 1000000000000, 0}, {"tiers(1000001;0:1000000,1000000:1)", 1000, 0, 2},
		{"if(1,2,5,nobody)", 1000, 5, 0}, {"if(2,2,nobody,5)", 1000, 5, 0}, {"if(3,2,part(1,1,0),5)", 1000, 5, 0}, {"if(-2,-1,5,part(1,1,0))", 1000, 5, 0}, {"if(1,2,nobody,5)", 1000, 0, 4}, {"if(nobody,part(1,1,0),1,1)", 1000, 0, 4}, {"if(part(1,1,0),nobody,1,1)", 1000, 0, 3},
		{"add(nobody,part(1,1,0))", 1000, 0, 4}, {"add(part(1,1,0),nobody)", 1000, 0, 3}, {"sub(mul(1000000000,1001),part(1,1,0))", 1000, 0, 2},
	})
}

func TestP13NamesNumbers(t *testing.T) {
	for _, c := range []struct {
		names   []impl.Pair
		n, code int
	}{
		{nil, 0, 4}, {[]impl.Pair{}, 0, 4}, {[]impl.Pair{{Name: "b", Num: 1}}, 0, 4}, {[]impl.Pair{{Name: "", Num: 1}, {Name: "aa", Num: 2}, {Name: "A", Num: 3}}, 0, 4}, {[]impl.Pair{{Name: "a", Num: 5}}, 5, 0}, {[]impl.Pair{{Name: "b"}, {Name: "a", Num: 5}, {Name: "a", Num: 6}}, 5, 0},
		{[]impl.Pair{{Name: "a", Num: impl.MoneyMax}}, impl.MoneyMax, 0}, {[]impl.Pair{{Name: "a", Num: -impl.MoneyMax}}, -impl.MoneyMax, 0}, {[]impl.Pair{{Name: "a", Num: impl.MoneyMax + 1}}, 0, 2}, {[]impl.Pair{{Name: "a", Num: -impl.MoneyMax - 1}}, 0, 2},
		{[]impl.Pair{{Name: "a", Num: math.MinInt}, {Name: "a", Num: 1}}, 0, 2}, {[]impl.Pair{{Name: "a", Num: math.MaxInt}}, 0, 2}, {[]impl.Pair{{Name: "b", Num: math.MaxInt}, {Name: "a", Num: 1}}, 1, 0},
	} {
		if n, code := impl.RuleOf(name("a"), c.names, 1); n != c.n || code != c.code {
			t.Errorf("%v: %d %d", c.names, n, code)
		}
	}
}

func TestP14Turned(t *testing.T) {
	list := ruleList()
	for i, a := range list {
		b := list[(i*7+3)%len(list)]
		for op := 3; op <= 8; op++ {
			rule, turned := with(op, a, b), with(op, b, a)
			if op == 4 || op == 6 || !fineRule(rule) {
				continue
			}
			for _, names := range nameLists() {
				n, code := impl.RuleOf(rule, names, impl.RuleMaxFuel)
				x, c := impl.RuleOf(turned, names, impl.RuleMaxFuel)
				if (code == 0) != (c == 0) || x != n {
					t.Errorf("%s: %d %d, turned %d %d", textOf(rule), n, code, x, c)
				}
			}
		}
	}
}

func TestP14SubHangsOnOrder(t *testing.T) {
	checkCases(t, []ruleCase{{"sub(5,3)", 1000, 2, 0}, {"sub(3,5)", 1000, -2, 0}, {"add(5,3)", 1000, 8, 0}, {"add(3,5)", 1000, 8, 0}, {"mul(5,3)", 1000, 15, 0}, {"mul(3,5)", 1000, 15, 0}})
}

// markLists are marks that are ok.
func markLists() [][]impl.Mark {
	list := [][]impl.Mark{
		{{}}, {{Price: 1}}, {{Price: impl.PartMax}}, {{Price: 10}, {From: 10, Price: 7}, {From: 30}}, {{}, {From: 1, Price: 1}, {From: 2, Price: 2}, {From: 3, Price: 3}, {From: 4, Price: 4}},
		{{}, {From: impl.RuleMaxNum, Price: impl.PartMax}}, {{Price: 1}, {From: impl.RuleMaxNum}}, {{Price: impl.PartMax}, {From: 1000000, Price: 0}, {From: impl.RuleMaxNum, Price: 1}}, {{Price: 2}, {From: impl.RuleMaxNum - 1, Price: 3}, {From: impl.RuleMaxNum, Price: 1}},
	}
	r := numbers{13}
	for range 60 {
		list = append(list, r.marks())
	}
	return list
}

func checkTiers(t *testing.T, n int, marks []impl.Mark) {
	t.Helper()
	want, code := saysOf(10, []int{n}, marks)
	if all, ok := impl.TiersOf(n, marks); all != want || ok != (code == 0) || all < 0 {
		t.Errorf("%d by %v: %d %v, not %d", n, marks, all, ok, want)
	}
}

func TestP15OneByOne(t *testing.T) {
	for _, marks := range markLists() {
		all := 0
		for n := range 2100 {
			if got, ok := impl.TiersOf(n, marks); all <= impl.MoneyMax && (got != all || !ok) {
				t.Fatalf("%d by %v: %d %v, not %d", n, marks, got, ok, all)
			}
			last := marks[0]
			for _, m := range marks {
				if m.From <= n {
					last = m
				}
			}
			all += last.Price
		}
	}
}

func TestP15Tiers(t *testing.T) {
	r := numbers{14}
	for _, marks := range markLists() {
		for _, n := range []int{0, 1, 999999, 1000000, 1000001, impl.RuleMaxNum - 1, impl.RuleMaxNum, impl.RuleMaxNum + 1, impl.MoneyMax - 1, impl.MoneyMax, impl.MoneyMax / 3, impl.MoneyMax/2 + 1} {
			checkTiers(t, n, marks)
		}
		for _, m := range marks {
			for d := -2; d <= 2; d++ {
				if m.From+d >= 0 {
					checkTiers(t, m.From+d, marks)
				}
			}
		}
		for range 50 {
			checkTiers(t, r.below(impl.MoneyMax+1)>>r.below(40), marks)
		}
	}
}

func TestP15KnownTiers(t *testing.T) {
	for _, c := range []struct {
		n     int
		marks []impl.Mark
		want  int
		ok    bool
	}{
		{0, []impl.Mark{{Price: 5}}, 0, true}, {1000000, []impl.Mark{{Price: impl.PartMax}}, impl.MoneyMax, true}, {1000001, []impl.Mark{{Price: impl.PartMax}}, 0, false}, {impl.MoneyMax, []impl.Mark{{Price: 1}}, impl.MoneyMax, true}, {impl.MoneyMax, []impl.Mark{{Price: 2}}, 0, false},
		{impl.MoneyMax, []impl.Mark{{}}, 0, true}, {impl.MoneyMax, []impl.Mark{{Price: impl.PartMax}}, 0, false}, {impl.MoneyMax, []impl.Mark{{Price: impl.PartMax}, {From: 1}}, impl.PartMax, true}, {5, []impl.Mark{{Price: 3}, {From: 4, Price: 100}}, 112, true}, {4, []impl.Mark{{Price: 3}, {From: 4, Price: 100}}, 12, true},
		{9, []impl.Mark{{Price: 5}, {From: 4, Price: 3}, {From: 9, Price: 1}}, 35, true}, {10, []impl.Mark{{Price: 5}, {From: 4, Price: 3}, {From: 9, Price: 1}}, 36, true}, {7, make5(), 0, true},
	} {
		if all, ok := impl.TiersOf(c.n, c.marks); all != c.want || ok != c.ok {
			t.Errorf("%d by %v: %d %v", c.n, c.marks, all, ok)
		}
	}
}

func TestP15NoTiers(t *testing.T) {
	for _, n := range append([]int{-1, -2, impl.MoneyMax + 1, 2 * impl.MoneyMax}, ends...) {
		for _, marks := range [][]impl.Mark{{{}}, {{Price: 1}}, {{Price: impl.PartMax}, {From: 1}}} {
			if all, ok := impl.TiersOf(n, marks); ok || all != 0 {
				t.Errorf("%d: %d %v", n, all, ok)
			}
		}
	}
	for i, marks := range badMarks() {
		for _, n := range []int{0, 1, 10, impl.MoneyMax} {
			if all, ok := impl.TiersOf(n, marks); ok || all != 0 {
				t.Errorf("marks %d, %d: %d %v", i, n, all, ok)
			}
		}
	}
}
