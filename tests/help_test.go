package tests

import (
	"bytes"
	"math/rand"
	"strconv"
	"strings"
	"testing"

	"loop.example/g00142/impl"
)

const (
	greatest = 1<<63 - 1
	least    = -1 << 63
	mark     = 0xA5
)

// guarded is bytes with room behind their end, so that a write behind it shows.
type guarded struct {
	all  []byte
	size int
	was  []byte
}

func guard(b []byte) guarded {
	all := append(append([]byte{}, b...), bytes.Repeat([]byte{mark}, 64)...)
	return guarded{all: all, size: len(b), was: bytes.Clone(all)}
}

func (g guarded) arg() []byte { return g.all[:g.size] }

func (g guarded) same() bool { return bytes.Equal(g.all, g.was) }

// spoil writes over bytes and over the room behind their end.
func spoil(b []byte) {
	b = b[:cap(b)]
	for i := range b {
		b[i] ^= 0xFF
	}
}

func copyList(list [][]byte) [][]byte {
	var out [][]byte
	for _, b := range list {
		out = append(out, bytes.Clone(b))
	}
	return out
}

func sameList(a, b [][]byte) bool {
	if len(a) != len(b) {
		return false
	}
	for i := range a {
		if !bytes.Equal(a[i], b[i]) {
			return false
		}
	}
	return true
}

func filled(size int) []byte {
	b := make([]byte, size)
	for i := range b {
		b[i] = byte(i*7 + i/251)
	}
	return b
}

func frameOf(t *testing.T, payload []byte) []byte {
	t.Helper()
	b, code := impl.Frame(payload)
	if code != impl.OK {
		t.Fatalf("Frame of %d bytes: code %d", len(payload), code)
	}
	return b
}

func framesOf(t *testing.T, payloads [][]byte) []byte {
	t.Helper()
	var b []byte
	for _, p := range payloads {
		b = append(b, frameOf(t, p)...)
	}
	return b
}

// cutUp parts bytes into chunks of at most the given size, or of sizes that a
// source of numbers chooses (empty ones too) if size is 0.
func cutUp(b []byte, size int, r *rand.Rand) [][]byte {
	var out [][]byte
	for len(b) > 0 {
		n := size
		if n == 0 {
			n = r.Intn(9)
		}
		n = min(n, len(b))
		out = append(out, b[:n])
		b = b[n:]
	}
	return out
}

func long(size int) string { return strings.Repeat("a", size) }

func itoa(n int) string { return strconv.Itoa(n) }
