package impl

import (
	"sort"
	"strconv"
)

// Limits of money.
const (
	MoneyMax   = 1000000000000
	PartMax    = 1000000
	ShareMax   = 8
	MoneyCents = 100
)

// amount is money in cents.
type amount int

// MoneyOk says whether a number is an amount.
func MoneyOk(n int) bool {
	return amount(n).ok()
}

// MoneyAdd is two amounts together.
func MoneyAdd(a int, b int) (int, bool) {
	// Both are looked at first: a sum that wraps around may look like an amount.
	if !MoneyOk(a) || !MoneyOk(b) || !MoneyOk(a+b) {
		return 0, false
	}
	return a + b, true
}

// MoneyPart is so many parts of an amount: the nearest one, of two the even one.
func MoneyPart(a int, n int, of int) (int, bool) {
	if !MoneyOk(a) || n < 0 || n > PartMax || of < 1 || of > PartMax {
		return 0, false
	}
	part := amount(a).part(n, of)
	if !part.ok() {
		return 0, false
	}
	return int(part), true
}

// MoneyShare shares an amount out by weights, to the last cent.
func MoneyShare(total int, weights []int) []int {
	all := weightsTogether(weights)
	if !MoneyOk(total) || all == 0 {
		return nil
	}
	sign := amount(total).sign()
	shares := amount(total*sign).shares(weights, all)
	for i := range shares {
		shares[i] *= sign
	}
	return shares
}

// MoneyWrite writes an amount.
func MoneyWrite(n int) string {
	if !MoneyOk(n) {
		return ""
	}
	return amount(n).text()
}

// MoneyRead reads an amount.
func MoneyRead(text string) (int, bool) {
	dot := len(text) - 3
	if dot < 0 {
		return 0, false
	}
	n, err := strconv.Atoi(text[:dot] + text[dot+1:])
	// Written again it shows any sign, nought or point that should not be where it is.
	if err != nil || MoneyWrite(n) != text {
		return 0, false
	}
	return n, true
}

func (a amount) ok() bool {
	return -MoneyMax <= a && a <= MoneyMax
}

func (a amount) sign() int {
	if a < 0 {
		return -1
	}
	return 1
}

// part is a times n divided by of: what is rounded is without its sign, so that both signs are rounded alike.
func (a amount) part(n int, of int) amount {
	sign := a.sign()
	times := int(a) * sign * n
	whole, left := times/of, times%of
	if 2*left > of || 2*left == of && whole%2 == 1 {
		whole++
	}
	return amount(whole * sign)
}

// shares is the shares of an amount that is not below 0, by weights that are all together.
func (a amount) shares(weights []int, all int) []int {
	shares := make([]int, len(weights))
	left := make([]int, len(weights))
	order := make([]int, len(weights))
	cents := int(a)
	for i, weight := range weights {
		shares[i] = int(a) * weight / all
		left[i] = int(a) * weight % all
		order[i] = i
		cents -= shares[i]
	}
	sort.SliceStable(order, func(i int, j int) bool {
		return left[order[i]] > left[order[j]]
	})
	for _, place := range order[:cents] {
		shares[place]++
	}
	return shares
}

func (a amount) text() string {
	sign, cents := "", int(a)
	if cents < 0 {
		sign, cents = "-", -cents
	}
	return sign + strconv.Itoa(cents/MoneyCents) + "." + strconv.Itoa(cents/10%10) + strconv.Itoa(cents%10)
}

// weightsTogether is the sum of weights, 0 if they are not ok.
func weightsTogether(weights []int) int {
	if len(weights) > ShareMax {
		return 0
	}
	all := 0
	for _, weight := range weights {
		if weight < 0 || weight > PartMax {
			return 0
		}
		all += weight
	}
	if all > PartMax {
		return 0
	}
	return all
}
