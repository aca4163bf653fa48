package code

import (
	"cloister/api"
	"strconv"
	"strings"
)

const (
	blanks  = " \t"
	newline = "\n"
	remark  = ";"
)

// Parse are the instructions of a text.
func Parse(s string) ([]api.Instr, api.Errno, int) {
	if len(s) > api.MaxScript {
		return nil, api.ErrLong, 0
	}
	var out []api.Instr
	var places []int
	for at, more := 0, true; more; {
		var line string
		line, _, more = strings.Cut(s[at:], newline)
		if words := wordsOf(line); words != "" {
			first := at + len(line) - len(strings.TrimLeft(line, blanks))
			i, ok := instruction(words)
			if !ok {
				return nil, api.ErrCode, first
			}
			out, places = append(out, i), append(places, first)
		}
		at += len(line) + len(newline)
	}
	// All lines must have been read by now: a line of no instruction counts
	// ahead of one that may not be, and of too many.
	e, k := Check(out)
	switch e {
	case api.OK:
		return out, api.OK, 0
	case api.ErrCode:
		return nil, e, places[k]
	}
	return nil, e, 0
}

// wordsOf is what a line has beside its remark and the blanks around.
func wordsOf(line string) string {
	words, _, _ := strings.Cut(line, remark)
	return strings.Trim(words, blanks)
}

// instruction is the one that a name, and a number behind it, tell; false, if
// they tell none.
func instruction(words string) (api.Instr, bool) {
	name, rest := words, ""
	if end := strings.IndexAny(words, blanks); end >= 0 {
		name, rest = words[:end], strings.Trim(words[end:], blanks)
	}
	for k, o := range operations {
		if o.name != name {
			continue
		}
		if o.with == nothing {
			return api.Instr{Op: api.Push + k}, rest == ""
		}
		a, ok := number(rest)
		return api.Instr{Op: api.Push + k, A: a}, ok
	}
	return api.Instr{}, false
}

// number is the one that a text tells. (strconv also reads a + and noughts
// ahead: such a text is not what the number is written as.)
func number(s string) (int, bool) {
	n, err := strconv.Atoi(s)
	return n, err == nil && strconv.Itoa(n) == s
}
