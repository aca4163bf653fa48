package sha

import (
	"math/big"
	"math/bits"
	"testing"
)

// The words K and the first state, out of the roots of the primes, as the
// document says them.
func TestWordsOfRoots(t *testing.T) {
	prime := 1
	for i := range rounds {
		for prime++; !big.NewInt(int64(prime)).ProbablyPrime(0); prime++ {
		}
		if want := behindPoint(prime, 3); rounds[i] != want {
			t.Errorf("K %d: %08x, not %08x", i, rounds[i], want)
		}
		if start := begin().state; i < len(start) && start[i] != behindPoint(prime, 2) {
			t.Errorf("h %d: %08x, not %08x", i, start[i], behindPoint(prime, 2))
		}
	}
	if prime != 311 {
		t.Error("the last prime:", prime)
	}
}

// behindPoint are the first 32 bits behind the point of a root: those of the
// greatest number whose power is not above the prime, moved left likewise.
func behindPoint(prime, degree int) uint32 {
	whole := new(big.Int).Lsh(big.NewInt(int64(prime)), uint(32*degree))
	var root uint64
	for bit := 40; bit >= 0; bit-- {
		next := new(big.Int).SetUint64(root | 1<<bit)
		if next.Exp(next, big.NewInt(int64(degree)), nil).Cmp(whole) <= 0 {
			root |= 1 << bit
		}
	}
	return uint32(root)
}

func TestTurn(t *testing.T) {
	for by := range uint(64) {
		x := uint64(0x8123456789abcdef)
		if got := turn(x, by); got != bits.RotateLeft64(x, -int(by)) {
			t.Errorf("64 bits by %d: %x", by, got)
		}
		if y := uint32(x); by < 32 && turn(y, by) != bits.RotateLeft32(y, -int(by)) {
			t.Errorf("32 bits by %d: %x", by, turn(y, by))
		}
		if y := uint16(x); by < 16 && turn(y, by) != bits.RotateLeft16(y, -int(by)) {
			t.Errorf("16 bits by %d: %x", by, turn(y, by))
		}
		if y := uint8(x); by < 8 && turn(y, by) != bits.RotateLeft8(y, -int(by)) {
			t.Errorf("8 bits by %d: %x", by, turn(y, by))
		}
	}
}

// Of what was taken just the bytes behind the last whole block are kept.
func TestNothingKept(t *testing.T) {
	h := New()
	for taken := 1; taken <= 200; taken++ {
		h.Write("x")
		h.Sum()
		for at, b := range h.text.block {
			if (b != 0) != (at < taken%64) {
				t.Fatalf("%d bytes: the block at %d is %d", taken, at, b)
			}
		}
	}
}
