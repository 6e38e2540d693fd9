package impl

import (
	"strconv"
	"strings"
)

const mostNumber = 999999
const mostInt = 999999999999

func FormatInt(n int) string { return strconv.Itoa(n) }

// The results of both parsers have no names: after a recovered panic they are the zero values, which are the answer to a malformed integer.

func ParseNumber(s string) (int, bool) {
	defer func() { recover() }()
	n := mustParse(s, 0, mostNumber)
	return n, true
}

func ParseInt(s string) (int, bool) {
	defer func() { recover() }()
	n := mustParse(s, -mostInt, mostInt)
	return n, true
}

// mustParse panics unless s is the FormatInt of an integer from least to most.
func mustParse(s string, least int, most int) int {
	n, err := strconv.Atoi(s)
	if err != nil || n < least || n > most {
		panic("malformed integer")
	}
	// Atoi takes "+5", "-0" and "007" too; only the text that FormatInt returns is meant.
	if FormatInt(n) != s {
		panic("malformed integer")
	}
	return n
}

func SplitByte(s string, by byte) []string {
	// string(by) would be the encoding of a rune, two bytes from 128 on.
	return strings.Split(s, string([]byte{by}))
}

func Join(list []string, by string) string { return strings.Join(list, by) }
