package code_test

import (
	"cloister/api"
	"cloister/code"
	"math"
	"math/big"
	"math/rand"
	"regexp"
	"slices"
	"strings"
	"testing"
)

// lineForm is what the document says of a line, told by a pattern: what it
// begins with, then an operation and its number, an operation alone, or none of
// both.
var lineForm = regexp.MustCompile(`(?s)^[ \t]*(?:(push|dup|jump|if|call|trap)[ \t]+(0|-?[1-9][0-9]*)|(pop|swap|add|sub|mul|div|rem|and|or|xor|shl|shr|eq|less|not|load|store|ret|halt))?[ \t]*(?:;.*)?$`)

// read is a line by the pattern: false, if it is wrong; none, if it has nothing.
func read(line string) (i api.Instr, none, ok bool) {
	found := lineForm.FindStringSubmatch(line)
	if found == nil {
		return i, false, false
	}
	name := found[1] + found[3]
	if name == "" {
		return i, true, true
	}
	i.Op = 1 + slices.Index(strings.Fields(names), name)
	if found[2] == "" {
		return i, false, true
	}
	n, _ := new(big.Int).SetString(found[2], 10)
	i.A = int(n.Int64())
	return i, false, n.IsInt64()
}

// parsed is what the document says of Parse.
func parsed(s string) ([]api.Instr, api.Errno, int) {
	if len(s) > 262144 {
		return nil, api.ErrLong, 0
	}
	var out []api.Instr
	var places []int
	at := 0
	for _, line := range strings.Split(s, "\n") {
		i, none, ok := read(line)
		first := at + strings.IndexFunc(line, func(r rune) bool { return r != ' ' && r != '\t' })
		if !ok {
			return nil, api.ErrCode, first
		}
		if !none {
			out, places = append(out, i), append(places, first)
		}
		at += len(line) + 1
	}
	switch e, k := checked(out); e {
	case api.OK:
		return out, e, 0
	case api.ErrCode:
		return nil, e, places[k]
	default:
		return nil, e, 0
	}
}

// likeTold tells whether Parse answers as the document says, and whether what it
// takes prints to a text that is read as the same (Co3).
func likeTold(t *testing.T, s string) api.Errno {
	t.Helper()
	want, wantE, wantAt := parsed(s)
	l, e, at := code.Parse(s)
	if !slices.Equal(l, want) || e != wantE || at != wantAt {
		t.Errorf("%d bytes, %s: %s, %d, %d, not %s, %d, %d", len(s), shown(s), shown(l), e, at, shown(want), wantE, wantAt)
	}
	if e != api.OK {
		return e
	}
	text, e := code.Print(l)
	if back, e2, _ := code.Parse(text); e != api.OK || e2 != api.OK || !slices.Equal(back, l) {
		t.Errorf("%s prints to %s, %d, which is read as %s, %d", shown(s), shown(text), e, shown(back), e2)
	}
	return api.OK
}

// wantParse tells whether Parse takes a text, and as which instructions.
func wantParse(t *testing.T, s string, want ...api.Instr) {
	t.Helper()
	if l, e, at := code.Parse(s); !slices.Equal(l, want) || e != api.OK || at != 0 {
		t.Errorf("%s: %s, %d, %d, not %s", shown(s), shown(l), e, at, shown(want))
	}
	likeTold(t, s)
}

// wantRefused tells whether Parse refuses a text, by which error and where.
func wantRefused(t *testing.T, s string, want api.Errno, place int) {
	t.Helper()
	if l, e, at := code.Parse(s); len(l) != 0 || e != want || at != place {
		t.Errorf("%d bytes, %s: %s, %d, %d, not %d, %d", len(s), shown(s), shown(l), e, at, want, place)
	}
	likeTold(t, s)
}

// The document's examples.
func TestExamples(t *testing.T) {
	wantParse(t, "push 5 ; five\n\n halt", in(api.Push, 5), in(api.Halt, 0))
	wantRefused(t, "push", api.ErrCode, 0)
	wantParse(t, "jump 1\nhalt", in(api.Jump, 1), in(api.Halt, 0))
	wantRefused(t, "jump 2\nhalt", api.ErrCode, 0)
	wantRefused(t, "pop 0", api.ErrCode, 0)
}

// Co2: how long a text may be, and that this counts ahead of all else.
func TestParseLong(t *testing.T) {
	const most = 1 << 18
	for _, fill := range []string{" ", "\t", "\n", ";", "\x00", "p", "7"} {
		for _, size := range []int{most, most + 1} {
			for _, begin := range []string{"", "halt\n", "halt;", "halt ", "push 7\n", "wrong\n", "push "} {
				s := begin + strings.Repeat(fill, size-len(begin))
				e := likeTold(t, s)
				if (e == api.ErrLong) != (size > most) {
					t.Error(begin, fill, size, e)
				}
			}
		}
	}
	wantParse(t, strings.Repeat(" ", most-4)+"halt", in(api.Halt, 0))
	wantParse(t, "halt ;"+strings.Repeat("x", most-6), in(api.Halt, 0))
	wantParse(t, strings.Repeat("\n", most-5)+"halt\n", in(api.Halt, 0))
	wantRefused(t, strings.Repeat(" ", most-3)+"halt", api.ErrLong, 0)
	wantRefused(t, "halt ;"+strings.Repeat("x", most-5), api.ErrLong, 0)
	wantRefused(t, strings.Repeat("\n", most-4)+"wrong", api.ErrLong, 0)
	wantRefused(t, strings.Repeat("\n", most-5)+"wrong", api.ErrCode, most-5)
	wantRefused(t, strings.Repeat("\n", most-1)+"x", api.ErrCode, most-1)
	wantRefused(t, strings.Repeat("\n", most), api.ErrFull, 0)
	wantRefused(t, strings.Repeat("x", most+1), api.ErrLong, 0)
	wantRefused(t, strings.Repeat("or\n", most/3), api.ErrFull, 0)
	wantRefused(t, strings.Repeat("or\n", most/3)+"x", api.ErrCode, most/3*3)
	wantRefused(t, "push 1"+strings.Repeat("0", most-6), api.ErrCode, 0)
	wantRefused(t, "push 0"+strings.Repeat("0", most-6), api.ErrCode, 0)
	wantParse(t, "push"+strings.Repeat(" \t", most/2-3)+"-7", in(api.Push, -7))
}

// Co2: texts without an instruction.
func TestParseNothing(t *testing.T) {
	for _, s := range []string{"", "\n", "\n\n\n", " ", "\t", " \t \n\t\n", ";", ";\n", " ; halt", ";halt\n;push 5\n", "; one ; two", "\t;\x00\r\xff;", ";;;\n\n ;"} {
		wantRefused(t, s, api.ErrFull, 0)
	}
}

// Co2: newlines at the end, lines without anything, blanks, tabs and remarks at
// every place.
func TestParseAround(t *testing.T) {
	push, halt := in(api.Push, 5), in(api.Halt, 0)
	for _, end := range []string{"", "\n", "\n\n", "\n \t\n", "\n;", "\n; x\n"} {
		wantParse(t, "halt"+end, halt)
		wantParse(t, "push 5"+end, push)
		wantParse(t, "push 5\nhalt"+end, push, halt)
		wantParse(t, "\n\npush 5\n\n;\n \t\nhalt"+end, push, halt)
	}
	gaps := []string{"", " ", "\t", "  ", " \t", "\t \t "}
	for _, ahead := range gaps {
		for _, between := range gaps[1:] {
			for _, behind := range gaps {
				for _, remark := range []string{"", ";", "; five", ";push 6", " ; ;", ";\x00\x80\r"} {
					wantParse(t, ahead+"push"+between+"5"+behind+remark, push)
					wantParse(t, ahead+"halt"+behind+remark, halt)
					wantParse(t, "halt"+remark+"\n"+ahead+"push"+between+"5"+behind+remark+"\n"+ahead+"halt"+behind+remark+"\n", halt, push, halt)
				}
			}
		}
	}
	for _, s := range []string{"pu;sh 5", "push;5", "push ;5", "push\n5", "push \n 5", "push - 5", "push -\n5", "ha lt", "ha\nlt", "pus h 5", "push5", "push-5", "halt.", "halt,", ".halt", "halt halt", "halt push 5", "push 5 halt", "push 5\thalt", "push 1 2", "push 1 2 3", "5", "5 push", "push push 5"} {
		wantRefused(t, s, api.ErrCode, 0)
	}
}

// Co2: each operation's name, with and without a number, and names near it.
func TestParseNames(t *testing.T) {
	ops(func(op int, name string) {
		if hasA(name) {
			wantParse(t, name+" 1\nhalt", in(op, 1), in(api.Halt, 0))
			wantRefused(t, name, api.ErrCode, 0)
			wantRefused(t, name+" ", api.ErrCode, 0)
			wantRefused(t, name+" ; 1", api.ErrCode, 0)
			wantRefused(t, name+"1", api.ErrCode, 0)
			wantRefused(t, name+" 1 1", api.ErrCode, 0)
			wantRefused(t, name+" 1\t0", api.ErrCode, 0)
			wantRefused(t, name+" x", api.ErrCode, 0)
		} else {
			wantParse(t, name, in(op, 0))
			wantParse(t, name+" ;0", in(op, 0))
			for _, behind := range []string{" 0", "\t0", " 1", " -1", "0", " x", " 0 0", " +", " " + name} {
				wantRefused(t, name+behind, api.ErrCode, 0)
			}
		}
		for _, behind := range []string{"", " 1", " 0"} {
			for _, wrong := range []string{name + "s", name + name[:1], "s" + name, name[:len(name)-1], name[1:], strings.ToUpper(name), strings.ToUpper(name[:1]) + name[1:], name[:len(name)-1] + strings.ToUpper(name[len(name)-1:]), name + "\x00", name + "\xff", name + ":", name + "\u00a0", "\u00a0" + name, name + "_", "'" + name + "'"} {
				if wrong == "or" { // what xor ends in
					continue
				}
				wantRefused(t, wrong+behind, api.ErrCode, 0)
				wantRefused(t, "halt\n "+wrong+behind+"\nhalt", api.ErrCode, 6)
			}
		}
	})
	for _, wrong := range []string{"nop", "x", "go", "mod", "neg", "inc", "0", "-1", "?", "Status", "push pop", "pop dup"} {
		wantRefused(t, wrong, api.ErrCode, 0)
	}
}

// Co2, R5: the forms of numbers.
func TestParseNumbers(t *testing.T) {
	for s, a := range map[string]int{
		"0": 0, "1": 1, "-1": -1, "9": 9, "10": 10, "-10": -10, "100": 100, "1000000000": 1000000000, "-2147483648": -2147483648, "2147483648": 2147483648,
		"4294967296": 4294967296, "-4294967297": -4294967297, "999999999999999999": 999999999999999999, "-999999999999999999": -999999999999999999,
		"1000000000000000000": 1000000000000000000, "-1000000000000000000": -1000000000000000000,
		"9223372036854775806": math.MaxInt64 - 1, "9223372036854775807": math.MaxInt64, "-9223372036854775807": math.MinInt64 + 1, "-9223372036854775808": math.MinInt64,
	} {
		wantParse(t, "push "+s, in(api.Push, a))
		wantParse(t, "\tpush \t"+s+" ;"+s, in(api.Push, a))
	}
	for _, s := range []string{
		"00", "01", "007", "-00", "-01", "-0", "+0", "+1", "+", "-", "--1", "-+1", "+-1", "1-", "1+", "0x1", "0x", "0b1", "0o7", "1_0", "_1", "1.", "1.0", ".5", "1e3", "1,0", "a", "a1", "1a", "- 1", "+ 1",
		"9223372036854775808", "-9223372036854775809", "9223372036854775810", "10000000000000000000", "-10000000000000000000", "18446744073709551615", "18446744073709551616", "18446744073709551621", "-18446744073709551615", "99999999999999999999", "100000000000000000000000000000000000000005",
		"09223372036854775807", "-09223372036854775808", "0000000000000000000000001", "\u0661", "\uff11", "1\u00a0", "\u00a01", "inf", "NaN", "''", "\"1\"", "(1)", "$1", "1;1\n2", "/", ":", "1/", "1:",
	} {
		for _, name := range []string{"push", "dup", "jump", "if", "call", "trap"} {
			if strings.HasPrefix(s, "1;") {
				wantRefused(t, name+" "+s, api.ErrCode, len(name)+5)
				continue
			}
			wantRefused(t, name+" "+s, api.ErrCode, 0)
			wantRefused(t, "; here\n\n \t"+name+"\t"+s+"\t\nhalt", api.ErrCode, 10)
		}
	}
}

// Co2: other bytes than blank, tab and newline are not passed over.
func TestParseBytes(t *testing.T) {
	for b := range 256 {
		sign := string([]byte{byte(b)})
		for _, s := range []string{sign, "halt" + sign, sign + "halt", "ha" + sign + "lt", "push" + sign + "5", "push " + sign + "5", "push 5" + sign, "push 5 " + sign, "push" + sign + " 5", "halt;" + sign, "halt ;" + sign + ";", sign + "\nhalt", "halt\n" + sign, "halt" + sign + "\nhalt", "halt" + sign + "halt", "halt" + sign + "; x", "push 1" + sign + "2", "push -" + sign + "2"} {
			likeTold(t, s)
		}
		if b < 33 && !strings.Contains(" \t\n", sign) || b == 127 || b == 160 || b == 0x85 {
			wantRefused(t, "halt"+sign, api.ErrCode, 0)
			wantRefused(t, sign, api.ErrCode, 0)
			wantRefused(t, "halt\n "+sign+"halt\n", api.ErrCode, 6)
			wantRefused(t, "push"+sign+"5", api.ErrCode, 0)
			wantRefused(t, "push 5"+sign, api.ErrCode, 0)
			wantParse(t, "halt;"+sign, in(api.Halt, 0))
		}
	}
	wantRefused(t, "halt\r\nhalt\r\n", api.ErrCode, 0)
	wantRefused(t, "push 5\r\n", api.ErrCode, 0)
	wantRefused(t, "halt\n\r\n", api.ErrCode, 5)
	wantRefused(t, "halt\n\ufeffhalt\n", api.ErrCode, 5)
	wantRefused(t, "halt\n\u2003halt\n", api.ErrCode, 5)
}

// Co2, R2: which place is told: of a wrong line the first's, wherever it stands,
// ahead of all that Check would refuse.
func TestParsePlaces(t *testing.T) {
	wantRefused(t, "halt\n jump 2", api.ErrCode, 6)
	wantRefused(t, "halt\n\n; x\n\t \tpush\nhalt", api.ErrCode, 13)
	wantRefused(t, "halt ; one\n  pop 0 ; two\nwrong", api.ErrCode, 13)
	wantRefused(t, "wrong\nwrong", api.ErrCode, 0)
	wantRefused(t, "halt\nwrong\nwronger\n", api.ErrCode, 5)
	wantRefused(t, "halt\nhalt\nwrong", api.ErrCode, 10)
	wantRefused(t, " \t wrong ; halt", api.ErrCode, 3)
	// The first line is one of an instruction that may not be, the second of none.
	wantRefused(t, "jump 9\n wrong", api.ErrCode, 8)
	wantRefused(t, "trap 0\npush 00\n", api.ErrCode, 7)
	wantRefused(t, "dup 64\n\nhalt\n\n push 9223372036854775808", api.ErrCode, 15)
	// What Check refuses, with remarks and empty lines ahead of it and behind.
	wantRefused(t, "; remark\n\n \t\nhalt\n\n\t jump 7 ; there is none\nhalt\n", api.ErrCode, 21)
	wantRefused(t, "\n\n  trap 100\n", api.ErrCode, 4)
	wantRefused(t, ";\n;\n;\ndup -1", api.ErrCode, 6)
	wantRefused(t, "halt\ntrap 0\ntrap 0\n", api.ErrCode, 5)
	wantRefused(t, "halt\n\n\ndup 64\ntrap 0\n", api.ErrCode, 7)
	wantRefused(t, "; x\njump 1\n; y\n", api.ErrCode, 4)
	wantParse(t, "; x\njump 0\n; y\n", in(api.Jump, 0))
	wantParse(t, "\n\nif 1\n;\n\nhalt\n", in(api.If, 1), in(api.Halt, 0))
	wantRefused(t, "\n\nif 2\n;\n\nhalt\n", api.ErrCode, 2)
	for _, s := range []string{"dup -1", "dup 64", "jump -1", "jump 3", "if -1", "if 3", "call -1", "call 3", "trap 0", "trap 100", "trap -1", "jump 9223372036854775807", "dup -9223372036854775808"} {
		wantRefused(t, s+"\nhalt\nhalt", api.ErrCode, 0)
		wantRefused(t, "halt\n\n\t"+s+";\nhalt", api.ErrCode, 7)
		wantRefused(t, "halt\nhalt;\n;\n "+s, api.ErrCode, 14)
	}
	for _, s := range []string{"push -9223372036854775808", "dup 0", "dup 63", "jump 0", "jump 2", "if 0", "if 2", "call 0", "call 2", "trap 1", "trap 99"} {
		if e := likeTold(t, s+"\nhalt\nhalt"); e != api.OK {
			t.Error(s, e)
		}
	}
}

// Co2: as many instructions as there may be, and one more; lines of none are not
// counted.
func TestParseCount(t *testing.T) {
	halts := func(n int) string { return strings.Repeat("halt\n", n) }
	for _, n := range []int{1, 2, 1023, 1024} {
		wantParse(t, halts(n), many(n, in(api.Halt, 0))...)
		wantParse(t, halts(n)+"\n;\n \n", many(n, in(api.Halt, 0))...)
		wantParse(t, strings.Repeat("\n; x\n\t\n", 2000)+halts(n), many(n, in(api.Halt, 0))...)
		wantParse(t, strings.Repeat("halt ; x\n\n;\n", n), many(n, in(api.Halt, 0))...)
		wantRefused(t, halts(n-1)+" trap 0", api.ErrCode, 5*n-4)
		wantRefused(t, halts(n)+" wrong", api.ErrCode, 5*n+1)
	}
	wantParse(t, halts(1023)+"halt", many(1024, in(api.Halt, 0))...)
	wantParse(t, halts(1023)+"jump 1023", among(1024, 1023, in(api.Jump, 1023))...)
	for _, n := range []int{1025, 1026, 3000} {
		wantRefused(t, halts(n), api.ErrFull, 0)
		wantRefused(t, " \n"+halts(n), api.ErrFull, 0)
		wantRefused(t, "trap 0\n"+halts(n-1), api.ErrFull, 0)
		wantRefused(t, halts(n-1)+"trap 0\n", api.ErrFull, 0)
		wantRefused(t, halts(n)+" wrong", api.ErrCode, 5*n+1)
		wantRefused(t, "\nwrong\n"+halts(n), api.ErrCode, 1)
	}
	wantRefused(t, halts(1024)+"halt", api.ErrFull, 0)
	wantRefused(t, halts(1024)+"push", api.ErrCode, 5120)
}

// Co2 and Co3 on all short texts of some pieces.
func TestParseShort(t *testing.T) {
	pieces := []string{"push", "halt", "if", "0", "1", "-", " ", "\t", "\n", ";", "x", "\r"}
	var walk func(s string, left int)
	walk = func(s string, left int) {
		likeTold(t, s)
		if left == 0 {
			return
		}
		for _, piece := range pieces {
			walk(s+piece, left-1)
		}
	}
	walk("", 5)
}

// Co2 and Co3 on texts that are drawn.
func TestParseDrawn(t *testing.T) {
	from := rand.New(rand.NewSource(213))
	one := func(l ...string) string { return l[from.Intn(len(l))] }
	numbers := []string{"0", "0", "1", "1", "2", "3", "7", "63", "64", "99", "100", "-1", "-9223372036854775808", "9223372036854775807", "9223372036854775808", "00", "+1", "-0", "-", ""}
	line := func() string {
		name := one(strings.Fields(names)...)
		out := one("", "", " ", "\t ") + name
		if hasA(name) != (from.Intn(60) == 0) {
			n := one(numbers[:5]...)
			if from.Intn(12) == 0 {
				n = one(numbers...)
			}
			if name == "trap" && n == "0" && from.Intn(5) > 0 {
				n = "9"
			}
			out += one(" ", " ", "\t", "  ") + n
		}
		if from.Intn(80) == 0 {
			out += one("x", "\r", " 5", "\x00", ":")
		}
		return out + one("", "", " ", "\t", " ; remark", ";;")
	}
	told := [256]int{}
	for range 20000 {
		var s strings.Builder
		for range 1 + from.Intn(12) {
			s.WriteString(line())
			s.WriteString(one("\n", "\n", "\n", "\n\n", "\n \n", "\n; x\n"))
		}
		told[likeTold(t, strings.TrimSuffix(s.String(), one("", "\n")))]++
	}
	if told[api.OK] < 2000 || told[api.ErrCode] < 2000 {
		t.Error(told[api.OK], told[api.ErrCode])
	}
}

// R1: no text makes Parse fail to answer.
func FuzzParse(f *testing.F) {
	for _, s := range []string{"", "push 5 ; five\n\n halt", "jump 2\nhalt", "trap 100", "push -9223372036854775808\r\n", ";\n\n\t dup 0\n"} {
		f.Add(s)
	}
	f.Fuzz(func(t *testing.T, s string) { likeTold(t, s) })
}
