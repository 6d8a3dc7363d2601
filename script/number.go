package script

import (
	"math"

	"embrasure/api"
	"embrasure/word"
)

// digits is how many a number has at most.
const digits = 4

// number is the one that a word says; false: it says none. What the machine's words are written with beside digits is no number of a line.
func number(s string) (int, bool) {
	if len(s) > digits {
		return 0, false
	}
	for _, r := range s {
		if r < '0' || r > '9' {
			return 0, false
		}
	}
	n, e := word.Parse(s)
	return int(n), e == api.OK
}

// The signs of numbers that have no limit of their own, and of steps. The other ones, E and F, are of an environment and of frames.
const (
	signN     = 'N'
	signSteps = 'S'
)

// longest is how many steps a line does at most.
const longest = 50

// fits tells whether a number is within the limit of its sign: what would pass it is refused, and nothing less is done in its place.
func fits(n int, sign rune) bool {
	switch sign {
	case signN:
		return true
	case signSteps:
		return n <= longest
	}
	return n <= math.MaxUint8
}

// signs are those of the numbers behind a first word; false: there is no line of numbers with it.
func signs(first string) (string, bool) {
	switch first {
	case "load":
		return "FNN", true
	case "step", "deliver":
		return "N", true
	case "run":
		return "NS", true
	case "regs", "maps", "frames":
		return "E", true
	case "revoke":
		return "EFN", true
	case "sector":
		return "ENN", true
	case "time", "envs":
		return "", true
	}
	return "", false
}

// numbers are those that words say behind a first word; false: there is no such line, or the words do not fit.
func numbers(first string, words []string) ([]int, bool) {
	asked, ok := signs(first)
	if !ok || len(words) != len(asked) {
		return nil, false
	}
	var l []int
	for i, sign := range asked {
		n, ok := number(words[i])
		if !ok || !fits(n, sign) {
			return nil, false
		}
		l = append(l, n)
	}
	return l, true
}
