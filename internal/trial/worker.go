package trial

import (
	"cloister/api"
	"cloister/code"
	"strconv"
	"strings"
)

// worker does commands of four bytes each, which a request to / has as its
// body: what it does, and three more, of which o is 1 for open and 0 for not:
//
//	i key cell o     inserts a row of a key and a cell of one byte each
//	u key cell o     updates it
//	d key .    o     deletes it
//	g key .    .     gets it
//	c key .    .     counts the rows whose keys begin so
//	s to  byte o     sends a message of one byte to a user (a digit)
//	r .   .    .     takes a message
//	m .   .    .     makes a category
//	v to  high low   gives a user a category, of two bytes
//	w .   .    .     asks who it is
//	l .   .    .     goes on for ever
//	h .   .    .     halts
//
// At any other one it replies by what was told: of each command the last byte
// of the number, and behind it what was got or taken. What goes on stands on the
// stack: where the command is, and where its answer is laid.
const worker = `
push 512
push 2048
trap 2
pop
push 520
push 2048
loop:
dup 1
load
dup 0
push 105
eq
if insert
dup 0
push 117
eq
if update
dup 0
push 100
eq
if delete
dup 0
push 103
eq
if get
dup 0
push 99
eq
if count
dup 0
push 115
eq
if send
dup 0
push 114
eq
if take
dup 0
push 109
eq
if make
dup 0
push 118
eq
if give
dup 0
push 119
eq
if who
dup 0
push 108
eq
if forever
dup 0
push 104
eq
if halts
pop
push 200
push 2048
dup 2
push 2048
sub
trap 1

insert:
call row
trap 3
jump tell
update:
call row
trap 4
jump tell

row:
pop
dup 1
push 1
add
push 1
dup 3
push 2
add
push 1
dup 5
push 3
add
load
push 48
sub
ret

delete:
pop
dup 1
push 1
add
push 1
dup 3
push 3
add
load
push 48
sub
trap 5
jump tell

get:
pop
dup 1
push 1
add
push 1
dup 2
push 1
add
push 64
trap 6
jump tellmore

count:
pop
dup 1
push 1
add
push 1
trap 7
jump tell

send:
pop
dup 1
push 1
add
load
push 48
sub
dup 2
push 2
add
push 1
dup 4
push 3
add
load
push 48
sub
trap 8
jump tell

take:
pop
dup 0
push 1
add
push 64
trap 9
jump tellmore

make:
pop
trap 10
jump tell

give:
pop
dup 1
push 1
add
load
push 48
sub
dup 2
push 2
add
load
push 8
shl
dup 3
push 3
add
load
add
trap 11
jump tell

who:
pop
trap 12
jump tell

forever:
jump forever
halts:
halt

tellmore:
dup 0
dup 2
store
dup 0
push 0
less
add
jump skip
tell:
dup 1
store
push 0
skip:
add
push 1
add
swap
push 4
add
swap
jump loop
`

// WorkerText is the worker's code as layer 13's Parse reads it.
func WorkerText() string {
	names := map[string]int{}
	var lines []string
	for _, line := range strings.Fields(strings.ReplaceAll(worker, " ", "_")) {
		if name, ok := strings.CutSuffix(line, ":"); ok {
			names[name] = len(lines)
		} else {
			lines = append(lines, strings.ReplaceAll(line, "_", " "))
		}
	}
	for i, line := range lines {
		name, to, _ := strings.Cut(line, " ")
		if at, ok := names[to]; ok {
			lines[i] = name + " " + strconv.Itoa(at)
		}
	}
	return strings.Join(lines, "\n") + "\n"
}

// Worker is the worker's code.
func Worker() []api.Instr {
	l, _, _ := code.Parse(WorkerText())
	return l
}

// Give is the command by which the worker gives a user a category.
func Give(to, cat int) string {
	return "v" + strconv.Itoa(to) + string([]byte{byte(cat >> 8), byte(cat)})
}
