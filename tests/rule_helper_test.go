package tests

import (
	"math/big"
	"regexp"
	"slices"
	"strconv"
	"strings"

	"loop.example/stopover/impl"
)

// The words of chapter 4 a second time, straight from its table, to hold the program's answers against.

func num(n int) impl.Rule {
	return impl.Rule{Op: impl.RuleNum, Num: n}
}

func name(text string) impl.Rule {
	return impl.Rule{Op: impl.RuleVar, Name: text}
}

func with(op int, kids ...impl.Rule) impl.Rule {
	return impl.Rule{Op: op, Kids: kids}
}

func tiers(kid impl.Rule, marks ...impl.Mark) impl.Rule {
	return impl.Rule{Op: impl.RuleTiers, Kids: []impl.Rule{kid}, Marks: marks}
}

// opRow is how an op with kids is written, and how many it has.
type opRow struct {
	word string
	kids int
}

func opRows() map[int]opRow {
	return map[int]opRow{3: {"add", 2}, 4: {"sub", 2}, 5: {"mul", 2}, 6: {"part", 3}, 7: {"min", 2}, 8: {"max", 2}, 9: {"if", 4}, 10: {"tiers", 1}}
}

func marksOf(marks []impl.Mark, between string) string {
	list := make([]string, len(marks))
	for i, m := range marks {
		list[i] = strconv.Itoa(m.From) + ":" + strconv.Itoa(m.Price)
	}
	return strings.Join(list, between)
}

// textOf writes a rule as the table says, without limits.
func textOf(r impl.Rule) string {
	if r.Op == 1 {
		return strconv.Itoa(r.Num)
	}
	if r.Op == 2 {
		return r.Name
	}
	text := opRows()[r.Op].word + "("
	for i, kid := range r.Kids {
		if i > 0 {
			text += ","
		}
		text += textOf(kid)
	}
	if r.Op == 10 {
		text += ";" + marksOf(r.Marks, ",")
	}
	return text + ")"
}

func fineMarks(marks []impl.Mark) bool {
	for i, m := range marks {
		if m.From < 0 || m.From > 1000000000 || m.Price < 0 || m.Price > 1000000 || i == 0 && m.From != 0 || i > 0 && m.From <= marks[i-1].From {
			return false
		}
	}
	return 1 <= len(marks) && len(marks) <= 5
}

var nameForm = regexp.MustCompile(`^[a-z]{1,8}$`)

// finePart says whether what a part has beside its kids is what the table says.
func finePart(op int, n int, text string, marks []impl.Mark) bool {
	switch {
	case op == 1:
		return -1000000000 <= n && n <= 1000000000 && text == "" && len(marks) == 0
	case op == 2:
		return n == 0 && nameForm.MatchString(text) && len(marks) == 0
	case op == 10:
		return n == 0 && text == "" && fineMarks(marks)
	}
	return 3 <= op && op <= 9 && n == 0 && text == "" && len(marks) == 0
}

func partsOf(r impl.Rule) int {
	parts := 1
	for _, kid := range r.Kids {
		parts += partsOf(kid)
	}
	return parts
}

func levelsOf(r impl.Rule) int {
	levels := 0
	for _, kid := range r.Kids {
		levels = max(levels, levelsOf(kid))
	}
	return levels + 1
}

func fineParts(r impl.Rule) bool {
	fine := finePart(r.Op, r.Num, r.Name, r.Marks) && len(r.Kids) == opRows()[r.Op].kids
	for _, kid := range r.Kids {
		fine = fine && fineParts(kid)
	}
	return fine
}

// fineRule says whether a rule, that is not too large to be looked at, is ok.
func fineRule(r impl.Rule) bool {
	return fineParts(r) && levelsOf(r) <= 6 && partsOf(r) <= 30 && len(textOf(r)) <= 300
}

func sameRule(a impl.Rule, b impl.Rule) bool {
	return a.Op == b.Op && a.Num == b.Num && a.Name == b.Name && slices.Equal(a.Marks, b.Marks) && slices.EqualFunc(a.Kids, b.Kids, sameRule)
}

func copied(r impl.Rule) impl.Rule {
	r.Marks = slices.Clone(r.Marks)
	r.Kids = slices.Clone(r.Kids)
	for i, kid := range r.Kids {
		r.Kids[i] = copied(kid)
	}
	return r
}

var (
	numberForm = regexp.MustCompile(`^(0|-?[1-9][0-9]{0,9})`)
	wordForm   = regexp.MustCompile(`^[a-z]*`)
)

// readMarks reads marks with a text between, up to one that ends them.
func readMarks(text string, between string) ([]impl.Mark, bool) {
	var marks []impl.Mark
	for _, mark := range strings.Split(text, between) {
		from, price, ok := strings.Cut(mark, ":")
		if !ok || numberForm.FindString(from) != from || numberForm.FindString(price) != price || from == "" || price == "" {
			return nil, false
		}
		n, _ := strconv.Atoi(from)
		p, _ := strconv.Atoi(price)
		marks = append(marks, impl.Mark{From: n, Price: p})
	}
	return marks, true
}

// readOf reads the rule with which a text begins, and what is behind it.
func readOf(text string) (impl.Rule, string, bool) {
	if figures := numberForm.FindString(text); figures != "" {
		n, _ := strconv.Atoi(figures)
		return num(n), text[len(figures):], true
	}
	word := wordForm.FindString(text)
	rest, ok := strings.CutPrefix(text[len(word):], "(")
	if !ok {
		return name(word), text[len(word):], word != ""
	}
	for op, row := range opRows() {
		if row.word == word {
			return readKids(op, row.kids, rest)
		}
	}
	return impl.Rule{}, "", false
}

func readKids(op int, kids int, rest string) (impl.Rule, string, bool) {
	rule, ok := impl.Rule{Op: op}, true
	for i := range kids {
		var kid impl.Rule
		if i > 0 {
			if rest, ok = strings.CutPrefix(rest, ","); !ok {
				return rule, "", false
			}
		}
		if kid, rest, ok = readOf(rest); !ok {
			return rule, "", false
		}
		rule.Kids = append(rule.Kids, kid)
	}
	if op == 10 {
		var marks string
		if rest, ok = strings.CutPrefix(rest, ";"); !ok {
			return rule, "", false
		}
		if marks, rest, ok = strings.Cut(rest, ")"); !ok {
			return rule, "", false
		}
		rule.Marks, ok = readMarks(marks, ",")
		return rule, rest, ok
	}
	rest, ok = strings.CutPrefix(rest, ")")
	return rule, rest, ok
}

// fineText says which rule a text is, and whether it is one.
func fineText(text string) (impl.Rule, bool) {
	rule, rest, ok := readOf(text)
	if !ok || rest != "" || !fineRule(rule) {
		return impl.Rule{}, false
	}
	return rule, true
}

// saysOf is what an op from RuleAdd to RuleMax, or RuleTiers, says of numbers, without any wrapping around.
func saysOf(op int, n []int, marks []impl.Mark) (int, int) {
	var list []*big.Int
	for _, x := range n {
		list = append(list, big.NewInt(int64(x)))
	}
	all := new(big.Int)
	switch op {
	case 3:
		all.Add(list[0], list[1])
	case 4:
		all.Sub(list[0], list[1])
	case 5:
		all.Mul(list[0], list[1])
	case 6:
		if n[2] == 0 {
			return 0, 3
		}
		if n[1] < 0 || n[1] > 1000000 || n[2] < 1 || n[2] > 1000000 {
			return 0, 2
		}
		part, ok := partOf(n[0], n[1], n[2])
		if !ok {
			return 0, 2
		}
		all.SetInt64(int64(part))
	case 7:
		all.SetInt64(int64(min(n[0], n[1])))
	case 8:
		all.SetInt64(int64(max(n[0], n[1])))
	case 10:
		if n[0] < 0 {
			return 0, 2
		}
		all = tiersTotal(n[0], marks)
	}
	if all.CmpAbs(big.NewInt(1000000000000)) > 0 {
		return 0, 2
	}
	return int(all.Int64()), 0
}

// tiersTotal is what so many cost: all by the first price, and from each mark on the difference to the price ahead.
func tiersTotal(n int, marks []impl.Mark) *big.Int {
	all, ahead := new(big.Int), 0
	for _, m := range marks {
		if n > m.From {
			all.Add(all, new(big.Int).Mul(big.NewInt(int64(n-m.From)), big.NewInt(int64(m.Price-ahead))))
		}
		ahead = m.Price
	}
	return all
}

// numberOf is the number of the first pair of a name, or a code.
func numberOf(text string, names []impl.Pair) (int, int) {
	i := slices.IndexFunc(names, func(p impl.Pair) bool { return p.Name == text })
	if i < 0 {
		return 0, 4
	}
	if n := names[i].Num; -1000000000000 <= n && n <= 1000000000000 {
		return n, 0
	}
	return 0, 2
}

// ruleOf is what a rule that is ok says, the code, and how much fuel it took.
func ruleOf(r impl.Rule, names []impl.Pair, fuel int) (int, int, int) {
	used, kids := 0, r.Kids
	if r.Op == 9 {
		kids = kids[:2]
	}
	var n []int
	for _, kid := range kids {
		x, code, more := ruleOf(kid, names, fuel-used)
		used += more
		if code != 0 {
			return 0, code, used
		}
		n = append(n, x)
	}
	if fuel-used < 1+len(r.Marks) {
		return 0, 1, used
	}
	used += 1 + len(r.Marks)
	switch r.Op {
	case 1:
		return r.Num, 0, used
	case 2:
		x, code := numberOf(r.Name, names)
		return x, code, used
	case 9:
		way := 3
		if n[0] < n[1] {
			way = 2
		}
		x, code, more := ruleOf(r.Kids[way], names, fuel-used)
		return x, code, used + more
	}
	x, code := saysOf(r.Op, n, r.Marks)
	return x, code, used
}

// costOf is the most fuel that a rule may take.
func costOf(r impl.Rule) int {
	var costs []int
	for _, kid := range r.Kids {
		costs = append(costs, costOf(kid))
	}
	if r.Op == 9 {
		return 1 + costs[0] + costs[1] + max(costs[2], costs[3])
	}
	all := 1 + len(r.Marks)
	for _, cost := range costs {
		all += cost
	}
	return all
}

// namesOf is all names of a rule, ascending, each once.
func namesOf(r impl.Rule) []string {
	var list []string
	var look func(r impl.Rule)
	look = func(r impl.Rule) {
		if r.Op == 2 && !slices.Contains(list, r.Name) {
			list = append(list, r.Name)
		}
		for _, kid := range r.Kids {
			look(kid)
		}
	}
	look(r)
	slices.Sort(list)
	return list
}

// anyOf is one of a list.
func anyOf[T any](r *numbers, list ...T) T {
	return list[r.below(len(list))]
}

func (r *numbers) marks() []impl.Mark {
	marks := []impl.Mark{{Price: anyOf(r, 0, 1, 7, 500, impl.PartMax, r.below(impl.PartMax))}}
	for range r.below(impl.RuleMaxMarks) {
		from := marks[len(marks)-1].From + anyOf(r, 1, 1, 3, 10, 1000, 1000000)
		marks = append(marks, impl.Mark{From: from, Price: anyOf(r, 0, 1, 7, 500, impl.PartMax, r.below(impl.PartMax))})
	}
	return marks
}

// rule is a rule that begins at a level, and may have too many parts, levels or bytes.
func (r *numbers) rule(level int) impl.Rule {
	if r.below(8) < level || level >= 7 {
		if r.below(2) == 0 {
			return name(anyOf(r, "a", "b", "use", "add", "if", "tiers", "zz", "abcdefgh", "big", "low"))
		}
		return num(anyOf(r, 0, 1, -1, 2, 3, 10, 1001, -50, impl.PartMax, impl.PartMax+1, impl.RuleMaxNum, -impl.RuleMaxNum, r.below(2000)-1000))
	}
	rule := impl.Rule{Op: 3 + r.below(8)}
	for range opRows()[rule.Op].kids {
		rule.Kids = append(rule.Kids, r.rule(level+1))
	}
	if rule.Op == 10 {
		rule.Marks = r.marks()
	}
	return rule
}

// ruleList is rules that are ok: those of each op, those at the limits, and any others.
func ruleList() []impl.Rule {
	list := []impl.Rule{
		num(0), num(-1), num(impl.RuleMaxNum), num(-impl.RuleMaxNum), name("a"), name("abcdefgh"), name("zzzzzzzz"), name("add"), name("tiers"), name("if"),
		with(3, num(1), num(-2)), with(4, name("a"), name("b")), with(5, name("use"), name("use")), with(6, name("big"), num(1), num(2)), with(6, num(1), num(-1), num(0)), with(7, name("a"), num(3)), with(8, name("b"), num(3)),
		with(9, name("a"), name("b"), name("zz"), num(1)), with(9, name("if"), name("if"), name("if"), name("if")), with(9, num(1), num(1), num(2), with(6, num(1), num(1), num(0))),
		tiers(name("use"), impl.Mark{Price: 5}), tiers(name("tiers"), impl.Mark{}, impl.Mark{From: 1, Price: 1}, impl.Mark{From: 2, Price: impl.PartMax}, impl.Mark{From: 3}, impl.Mark{From: impl.RuleMaxNum, Price: 9}),
		levelRule(6), partsRule(30), bytesRule(300), bytesRule(299), with(9, num(0), num(1), levelRule(5), name("a")), with(9, num(0), num(1), name("a"), levelRule(5)),
	}
	r := numbers{10}
	for len(list) < 400 {
		if rule := r.rule(1 + r.below(2)); fineRule(rule) {
			list = append(list, rule)
		}
	}
	return list
}

// levelRule is a rule of so many levels, and few parts.
func levelRule(levels int) impl.Rule {
	rule := num(1)
	for range levels - 1 {
		rule = with(3, num(2), rule)
	}
	return rule
}

// partsRule is a rule of 23 to 31 parts, in 5 levels.
func partsRule(parts int) impl.Rule {
	rows := []impl.Rule{}
	for range 8 {
		rows = append(rows, with(3, num(1), num(1)))
	}
	for i := range 31 - parts {
		rows[i] = tiers(num(1), impl.Mark{Price: 1})
	}
	for len(rows) > 1 {
		rows = append(rows[2:], with(8, rows[0], rows[1]))
	}
	return rows[0]
}

// bytesRule is a rule of 286 to 306 bytes.
func bytesRule(bytes int) impl.Rule {
	long := []impl.Mark{{Price: impl.PartMax}}
	for i := 3; i >= 0; i-- {
		long = append(long, impl.Mark{From: impl.RuleMaxNum - i, Price: impl.PartMax})
	}
	size := 1
	kids := []impl.Rule{name("a"), name("a"), name("a")}
	for i := 0; ; i++ {
		rule := with(3, tiers(kids[0], long...), with(3, tiers(kids[1], long...), tiers(kids[2], long...)))
		if len(textOf(rule)) == bytes {
			return rule
		}
		if i%3 == 0 {
			size++
		}
		kids[i%3] = name(strings.Repeat("q", size))
	}
}

// nameLists are numbers of names: usual ones, ones twice, ones that are no amounts, none.
func nameLists() [][]impl.Pair {
	return [][]impl.Pair{
		nil,
		{{Name: "use", Num: 9}, {Name: "b", Num: 0}, {Name: "use", Num: 1}, {Name: "a", Num: 3}, {Name: "add", Num: 70}, {Name: "if", Num: -2}, {Name: "tiers", Num: 40}, {Name: "abcdefgh", Num: 12}, {Name: "zz", Num: 1}, {Name: "big", Num: 999999}, {Name: "low", Num: -999}},
		{{Name: "big", Num: impl.MoneyMax}, {Name: "low", Num: -impl.MoneyMax}, {Name: "", Num: 1}, {Name: "a", Num: 1000000}, {Name: "b", Num: 1000001}, {Name: "A", Num: 2}, {Name: "use", Num: 0}, {Name: "abcdefghi", Num: 2}, {Name: "abcdefgh", Num: -1}, {Name: "add", Num: 5}},
		{{Name: "big", Num: impl.MoneyMax + 1}, {Name: "low", Num: -impl.MoneyMax - 1}, {Name: "a", Num: ends[0]}, {Name: "b", Num: ends[5]}, {Name: "use", Num: 5}, {Name: "use", Num: ends[0]}, {Name: "if", Num: ends[2]}, {Name: "tiers", Num: 1}},
	}
}
