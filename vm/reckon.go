package vm

import "cloister/api"

// shiftBits are those of a number that tell how far another one is moved.
const shiftBits = 63

// reckon is what an operation makes of two numbers; false, if it fails.
func reckon(op, x, y int) (int, bool) {
	switch op {
	case api.Add:
		return x + y, true
	case api.Sub:
		return x - y, true
	case api.Mul:
		return x * y, true
	case api.Div, api.Rem:
		return divide(op, x, y)
	case api.And:
		return x & y, true
	case api.Or:
		return x | y, true
	case api.Xor:
		return x ^ y, true
	case api.Shl:
		return x << (uint(y) & shiftBits), true
	case api.Shr:
		return x >> (uint(y) & shiftBits), true
	case api.Eq:
		return truth(x == y), true
	case api.Less:
		return truth(x < y), true
	}
	return 0, false
}

// divide is the quotient towards 0, or what is left; false, if y is 0.
func divide(op, x, y int) (int, bool) {
	if y == 0 {
		return 0, false
	}
	if op == api.Div {
		return x / y, true
	}
	return x % y, true
}

// truth is 1 of what is so, 0 of what is not.
func truth(so bool) int {
	if so {
		return 1
	}
	return 0
}
