package row

import (
	"cloister/api"
	"cloister/label"
)

// reader reads what a text begins with, and tells how many bytes that takes;
// false, if it is not there.
type reader func(s string) (size int, ok bool)

// chain reads one behind the other.
func chain(links ...reader) reader {
	return func(s string) (int, bool) {
		at := 0
		for _, read := range links {
			size, ok := read(s[at:])
			if !ok {
				return 0, false
			}
			at += size
		}
		return at, true
	}
}

// counted reads a number between bounds, and then what the number asks for.
func counted(least, most int, then func(n int) reader) reader {
	return func(s string) (int, bool) {
		n, head := number(s)
		if head == 0 || n < least || n > most {
			return 0, false
		}
		size, ok := then(n)(s[head:])
		if !ok {
			return 0, false
		}
		return head + size, true
	}
}

// readText reads a text of so many bytes.
func readText(least, most int, take func(text string)) reader {
	return counted(least, most, func(n int) reader {
		return func(s string) (int, bool) {
			if n > len(s) {
				return 0, false
			}
			// The answer must share no memory with what was handed in.
			take(string([]byte(s[:n])))
			return n, true
		}
	})
}

// readCells reads a row's cells, one by one.
func readCells(take func(cell string)) reader {
	return counted(0, api.MaxCells, func(n int) reader {
		var links []reader
		for range n {
			links = append(links, readText(0, api.MaxCell, take))
		}
		return chain(links...)
	})
}

// readLabel reads a label.
func readLabel(take func(l api.Label)) reader {
	return func(s string) (int, bool) {
		l, size, e := label.Of(s)
		if e != api.OK {
			return 0, false
		}
		take(l)
		return size, true
	}
}

// readWho reads whose a row is.
func readWho(take func(who int)) reader {
	return counted(0, api.MaxUsers, func(n int) reader {
		take(n - 1)
		return chain()
	})
}

// longest is how many bytes the greatest number takes that a row has outside
// its label: one that takes more in its shortest form need not be read to its
// end.
const longest = 2

// number is the number that bytes begin with, and how many it takes; none of
// them, if it is not in its shortest form or takes too many.
func number(s string) (n, size int) {
	for i := 0; i < len(s) && i < longest; i++ {
		n |= int(s[i]&0x7f) << (7 * i)
		if s[i] >= 0x80 {
			continue
		}
		if i > 0 && s[i] == 0 {
			return 0, 0
		}
		return n, i + 1
	}
	return 0, 0
}
