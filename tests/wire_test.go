package tests

import (
	"bytes"
	"encoding/binary"
	"hash/crc32"
	"math/rand"
	"testing"

	"loop.example/g00142/impl"
)

// numbers are the ends of each piece of seven bits, and what stands beside them.
func numbers() []int {
	out := []int{0, 1, 2, 63, 64, 126, 300, 4096, 1000000, greatest - 1, greatest}
	for bits := 7; bits < 63; bits += 7 {
		out = append(out, 1<<bits-1, 1<<bits, 1<<bits+1)
	}
	return out
}

func TestPutNumber(t *testing.T) {
	for _, n := range numbers() {
		b, code := impl.PutNumber(n)
		if want := binary.AppendUvarint(nil, uint64(n)); code != impl.OK || !bytes.Equal(b, want) {
			t.Errorf("PutNumber %d: %v %d, want %v", n, b, code, want)
		}
	}
	for n, want := range map[int]int{0: 1, 127: 1, 128: 2, 16383: 2, 16384: 3, 1 << 55: 8, 1<<56 - 1: 8, 1 << 56: 9, greatest: 9} {
		if b, _ := impl.PutNumber(n); len(b) != want {
			t.Errorf("PutNumber %d has %d bytes", n, len(b))
		}
	}
	for _, n := range []int{-1, -2, -127, -128, -129, -1 << 32, least, least + 1} {
		if b, code := impl.PutNumber(n); code != impl.ErrRange || len(b) != 0 {
			t.Errorf("PutNumber %d: %v %d", n, b, code)
		}
	}
}

func TestGetNumber(t *testing.T) {
	for _, n := range numbers() {
		bare := binary.AppendUvarint(nil, uint64(n))
		for _, ahead := range [][]byte{nil, {0}, {255, 255, 1}, bytes.Repeat([]byte{128}, 20)} {
			for _, behind := range [][]byte{nil, {0}, {128}, {255, 7}} {
				b := append(append(append([]byte{}, ahead...), bare...), behind...)
				got, next, code := impl.GetNumber(b, len(ahead))
				if got != n || next != len(ahead)+len(bare) || code != impl.OK {
					t.Errorf("GetNumber %v at %d: %d %d %d", b, len(ahead), got, next, code)
				}
			}
		}
	}
}

func wantNumberCode(t *testing.T, b []byte, at, want int) {
	t.Helper()
	n, next, code := impl.GetNumber(b, at)
	if n != 0 || next != 0 || code != want {
		t.Errorf("GetNumber of %d bytes at %d: %d %d %d, want code %d", len(b), at, n, next, code, want)
	}
}

func TestGetNumberCutOff(t *testing.T) {
	for _, n := range numbers() {
		b := binary.AppendUvarint(nil, uint64(n))
		for size := range len(b) {
			wantNumberCode(t, b[:size], 0, impl.ErrForm)
			wantNumberCode(t, append([]byte{9, 9}, b[:size]...), 2, impl.ErrForm)
		}
	}
}

func TestGetNumberForm(t *testing.T) {
	for zeros := 1; zeros < 12; zeros++ { // more bytes than needed: a piece of nought at the end
		b := append(bytes.Repeat([]byte{129}, zeros), 0)
		wantNumberCode(t, b, 0, impl.ErrForm)
		b = append(bytes.Repeat([]byte{128}, zeros), 0)
		wantNumberCode(t, b, 0, impl.ErrForm)
	}
	for size := 9; size < 30; size++ { // at most 9 bytes
		wantNumberCode(t, bytes.Repeat([]byte{255}, size), 0, impl.ErrForm)
		wantNumberCode(t, append(bytes.Repeat([]byte{128}, size), 1), 0, impl.ErrForm)
	}
	if n, next, code := impl.GetNumber([]byte{255, 128, 1, 5}, 0); n != 127+1<<14 || next != 3 || code != 0 {
		t.Error("a piece of nought within a number", n, next, code)
	}
}

func TestGetNumberPlaces(t *testing.T) {
	for _, b := range [][]byte{nil, {}, {5}, {5, 6}, {128, 1, 7}} {
		for _, at := range []int{-1, -2, least, len(b) + 1, len(b) + 2, greatest} {
			wantNumberCode(t, b, at, impl.ErrRange)
		}
		wantNumberCode(t, b, len(b), impl.ErrForm)
	}
	wantNumberCode(t, []byte{128, 0}, 3, impl.ErrRange)
	if n, next, code := impl.GetNumber([]byte{128, 1, 7}, 1); n != 1 || next != 2 || code != 0 {
		t.Error("GetNumber within", n, next, code)
	}
}

func TestGetNumberLong(t *testing.T) {
	b := filled(impl.MaxText)
	b[impl.MaxText-1] = 7
	if n, next, code := impl.GetNumber(b, impl.MaxText-1); n != 7 || next != impl.MaxText || code != 0 {
		t.Error("GetNumber of MaxText bytes", n, next, code)
	}
	wantNumberCode(t, b, impl.MaxText, impl.ErrForm)
	wantNumberCode(t, b, impl.MaxText+1, impl.ErrRange)
	b = append(b, 7)
	for _, at := range []int{0, -1, impl.MaxText, impl.MaxText + 1, impl.MaxText + 2, least, greatest} {
		wantNumberCode(t, b, at, impl.ErrLong)
	}
}

func TestCrc(t *testing.T) {
	for s, want := range map[string]int{"": 0, "a": 0xE8B7BE43, "abc": 0x352441C2, "123456789": 0xCBF43926,
		"\x00": 0xD202EF8D, "\xff\xff\xff\xff": 0xFFFFFFFF} {
		if got := impl.Crc([]byte(s)); got != want {
			t.Errorf("Crc %q %x", s, got)
		}
	}
	for c := range 256 {
		b := []byte{byte(c)}
		if got, want := impl.Crc(b), int(crc32.ChecksumIEEE(b)); got != want {
			t.Errorf("Crc %v %x, want %x", b, got, want)
		}
	}
	for _, size := range []int{2, 3, 255, 256, 4096, 4097, impl.MaxText - 1, impl.MaxText} {
		if got, want := impl.Crc(filled(size)), int(crc32.ChecksumIEEE(filled(size))); got != want || got == 0 {
			t.Errorf("Crc of %d bytes %x, want %x", size, got, want)
		}
	}
	for _, size := range []int{impl.MaxText + 1, impl.MaxText + 2, 2 * impl.MaxText} {
		if got := impl.Crc(filled(size)); got != 0 {
			t.Errorf("Crc of %d bytes %x", size, got)
		}
	}
}

func TestFrame(t *testing.T) {
	for _, size := range []int{0, 1, 2, 126, 127, 128, 129, 4095, 4096} {
		p := filled(size)
		want := append(binary.AppendUvarint(nil, uint64(size)), p...)
		want = binary.LittleEndian.AppendUint32(want, crc32.ChecksumIEEE(p))
		if b, code := impl.Frame(p); code != impl.OK || !bytes.Equal(b, want) {
			t.Errorf("Frame of %d bytes: %d bytes, code %d", size, len(b), code)
		}
	}
	for size, want := range map[int]int{4097: impl.ErrRange, 4098: impl.ErrRange, impl.MaxText: impl.ErrRange,
		impl.MaxText + 1: impl.ErrLong, 2 * impl.MaxText: impl.ErrLong} {
		if b, code := impl.Frame(filled(size)); code != want || len(b) != 0 {
			t.Errorf("Frame of %d bytes: %d bytes, code %d, want %d", size, len(b), code, want)
		}
	}
}

func wantUnframe(t *testing.T, b []byte, payloads [][]byte, at, want int) {
	t.Helper()
	list, place, code := impl.Unframe(b)
	if !sameList(list, payloads) || place != at || code != want {
		t.Errorf("Unframe of %d bytes: %d payloads, place %d, code %d; want %d, %d, %d",
			len(b), len(list), place, code, len(payloads), at, want)
	}
}

// samples are payloads of the lengths at which a frame's number grows, and small ones.
func samples() [][]byte {
	return [][]byte{{}, {1}, []byte("frame"), filled(127), filled(128), {}, filled(300), {128, 128}, []byte("end")}
}

func TestUnframeWhole(t *testing.T) {
	wantUnframe(t, nil, nil, 0, impl.OK)
	wantUnframe(t, []byte{}, nil, 0, impl.OK)
	for _, size := range []int{0, 1, 127, 128, 4095, 4096} {
		b := frameOf(t, filled(size))
		wantUnframe(t, b, [][]byte{filled(size)}, len(b), impl.OK)
	}
	b := framesOf(t, samples())
	wantUnframe(t, b, samples(), len(b), impl.OK)
}

func TestUnframeNotWholeYet(t *testing.T) {
	ahead := framesOf(t, samples())
	for _, p := range [][]byte{{}, {1}, []byte("payload"), filled(128), filled(4096)} {
		b := frameOf(t, p)
		for size := range len(b) {
			wantUnframe(t, b[:size], nil, 0, impl.OK)
		}
	}
	b := frameOf(t, filled(130))
	for size := range len(b) {
		wantUnframe(t, append(bytes.Clone(ahead), b[:size]...), samples(), len(ahead), impl.OK)
	}
	for size := range 9 { // a number that is still to end, however great it will be
		wantUnframe(t, append(bytes.Clone(ahead), bytes.Repeat([]byte{255}, size)...), samples(), len(ahead), impl.OK)
	}
}

func TestUnframeFaults(t *testing.T) {
	sum := frameOf(t, []byte("payload"))
	sum[3] ^= 1
	cases := []struct {
		bytes []byte
		code  int
	}{
		{[]byte{128, 0}, impl.ErrForm},
		{[]byte{129, 128, 0}, impl.ErrForm},
		{[]byte{128, 0, 1, 2, 3, 4}, impl.ErrForm},
		{bytes.Repeat([]byte{255}, 9), impl.ErrForm},
		{bytes.Repeat([]byte{128}, 10), impl.ErrForm},
		{append(bytes.Repeat([]byte{128}, 9), 1), impl.ErrForm},
		{binary.AppendUvarint(nil, 4097), impl.ErrRange},
		{append(binary.AppendUvarint(nil, 4097), filled(4101)...), impl.ErrRange},
		{[]byte{255, 255, 3}, impl.ErrRange},
		{binary.AppendUvarint(nil, greatest), impl.ErrRange},
		{sum, impl.ErrSum},
		{[]byte{0, 1, 0, 0, 0}, impl.ErrSum},
		{[]byte{0, 0, 0, 0, 128}, impl.ErrSum},
	}
	ahead := framesOf(t, samples())
	good := frameOf(t, []byte("good"))
	for _, c := range cases {
		wantUnframe(t, c.bytes, nil, 0, c.code)
		wantUnframe(t, append(bytes.Clone(ahead), c.bytes...), nil, len(ahead), c.code)
		wantUnframe(t, append(bytes.Clone(c.bytes), good...), nil, 0, c.code)
	}
	two := append(append(bytes.Clone(good), sum...), 128, 0)
	wantUnframe(t, two, nil, len(good), impl.ErrSum) // the first fault counts
}

func TestUnframeLong(t *testing.T) {
	payloads := make([][]byte, impl.MaxText/5)
	b := framesOf(t, payloads) // of nothing: five bytes each
	wantUnframe(t, append(b, 200), payloads, len(b), impl.OK)
	wantUnframe(t, append(b, 200, 200), nil, 0, impl.ErrLong)
	wrong := bytes.Repeat([]byte{255}, impl.MaxText)
	wantUnframe(t, wrong, nil, 0, impl.ErrForm)
	wantUnframe(t, append(wrong, 255), nil, 0, impl.ErrLong)
}

func TestUnframeBytes(t *testing.T) { // each byte of a whole frame's sum, and each bit
	b := frameOf(t, []byte("payload"))
	for i := len(b) - 4; i < len(b); i++ {
		for bit := range 8 {
			changed := bytes.Clone(b)
			changed[i] ^= 1 << bit
			wantUnframe(t, changed, nil, 0, impl.ErrSum)
		}
	}
}

// P2, its second half.
func TestOneByteChangedIsFound(t *testing.T) {
	ahead := frameOf(t, []byte("ahead"))
	for _, p := range [][]byte{{0}, []byte("payload"), filled(40)} {
		b := frameOf(t, p)
		for i := range p {
			for other := 1; other < 256; other++ {
				changed := append(bytes.Clone(ahead), b...)
				changed[len(ahead)+1+i] ^= byte(other)
				wantUnframe(t, changed, nil, len(ahead), impl.ErrSum)
				if list, rest, code := impl.Feed(changed[:7], [][]byte{changed[7:]}); list != nil || rest != nil || code != impl.ErrSum {
					t.Fatal("Feed", list, rest, code)
				}
			}
		}
	}
	b := frameOf(t, filled(4096))
	for i := range 4096 {
		b[2+i] ^= 64
		wantUnframe(t, b, nil, 0, impl.ErrSum)
		b[2+i] ^= 64
	}
}

func wantFeed(t *testing.T, rest []byte, chunks, payloads [][]byte, left []byte, want int) {
	t.Helper()
	list, behind, code := impl.Feed(rest, chunks)
	if !sameList(list, payloads) || !bytes.Equal(behind, left) || code != want {
		t.Errorf("Feed of %d bytes and %d chunks: %d payloads, %d bytes left, code %d; want %d, %d, %d",
			len(rest), len(chunks), len(list), len(behind), code, len(payloads), len(left), want)
	}
}

// P2, its first half.
func TestFramesComeInAnyPieces(t *testing.T) {
	r := rand.New(rand.NewSource(2))
	all := framesOf(t, samples())
	open := frameOf(t, []byte("not yet"))
	for _, left := range [][]byte{nil, {128}, open[:1], open[:5], open[:len(open)-1]} {
		b := append(bytes.Clone(all), left...)
		for size := 1; size <= len(b); size++ {
			wantFeed(t, nil, cutUp(b, size, r), samples(), left, impl.OK)
		}
		for range 50 {
			wantFeed(t, nil, cutUp(b, 0, r), samples(), left, impl.OK)
		}
		for cut := range b { // what is held ahead, then the rest
			wantFeed(t, b[:cut], [][]byte{b[cut:]}, samples(), left, impl.OK)
		}
	}
}

func TestFeedGoesOn(t *testing.T) { // what is left is the next call's rest
	b := framesOf(t, samples())
	for _, size := range []int{1, 2, 5, 64, 131, 1000} {
		var list [][]byte
		var rest []byte
		for _, chunk := range cutUp(b, size, nil) {
			more, left, code := impl.Feed(rest, [][]byte{chunk})
			if code != impl.OK {
				t.Fatal("Feed", code)
			}
			list, rest = append(list, more...), left
		}
		if !sameList(list, samples()) || len(rest) != 0 {
			t.Error("chunks of", size, len(list), len(rest))
		}
	}
}

func TestFeedNothing(t *testing.T) {
	wantFeed(t, nil, nil, nil, nil, impl.OK)
	wantFeed(t, nil, [][]byte{nil, {}}, nil, nil, impl.OK)
	wantFeed(t, []byte{5, 'x'}, [][]byte{{}}, nil, []byte{5, 'x'}, impl.OK)
	b := frameOf(t, []byte("held"))
	wantFeed(t, b, nil, nil, b, impl.OK) // whole frames go after a chunk, and there is none
	wantFeed(t, []byte{128, 0}, nil, nil, []byte{128, 0}, impl.OK)
	wantFeed(t, b, [][]byte{nil}, [][]byte{[]byte("held")}, nil, impl.OK)
	wantFeed(t, []byte{128, 0}, [][]byte{nil}, nil, nil, impl.ErrForm)
}

func TestFeedFaults(t *testing.T) {
	good := frameOf(t, []byte("good"))
	sum := frameOf(t, []byte("payload"))
	sum[len(sum)-1] ^= 128
	above := binary.AppendUvarint(nil, 4097)
	huge := make([]byte, impl.MaxText+1)
	wantFeed(t, nil, [][]byte{good, {128}, {0}}, nil, nil, impl.ErrForm)
	wantFeed(t, nil, [][]byte{good, bytes.Repeat([]byte{255}, 8), {255}}, nil, nil, impl.ErrForm)
	wantFeed(t, good[:3], [][]byte{good[3:], above[:1], above[1:]}, nil, nil, impl.ErrRange)
	wantFeed(t, sum[:4], [][]byte{sum[4:], good}, nil, nil, impl.ErrSum)
	wantFeed(t, nil, [][]byte{good, sum, huge}, nil, nil, impl.ErrSum) // each ends it
	wantFeed(t, nil, [][]byte{good, huge, sum}, nil, nil, impl.ErrMany)
}

func TestFeedHolds(t *testing.T) {
	frame := frameOf(t, filled(4093)) // 4099 bytes
	var whole [][]byte
	for range 15 {
		whole = append(whole, filled(4093))
	}
	b := framesOf(t, whole)
	left := append([]byte{128, 32}, filled(impl.MaxText-len(b)-2)...) // a frame of 4096, cut off
	full := append(bytes.Clone(b), left...)
	if len(full) != impl.MaxText {
		t.Fatal(len(full))
	}
	wantFeed(t, full, nil, nil, full, impl.OK)
	wantFeed(t, full, [][]byte{nil}, whole, left, impl.OK)
	wantFeed(t, nil, [][]byte{full}, whole, left, impl.OK)
	wantFeed(t, full[:5], [][]byte{full[5:]}, whole, left, impl.OK)
	wantFeed(t, full, [][]byte{{0}}, nil, nil, impl.ErrMany)
	wantFeed(t, full[:6], [][]byte{full[5:]}, nil, nil, impl.ErrMany)
	wantFeed(t, nil, [][]byte{append(full, 0)}, nil, nil, impl.ErrMany)
	wantFeed(t, bytes.Repeat([]byte{255}, 10), [][]byte{full}, nil, nil, impl.ErrMany) // ahead of Unframe's codes
	// What has gone is not held any more: more than MaxText bytes in all may come.
	wantFeed(t, nil, [][]byte{b, b, frame, frame}, append(append(append([][]byte{}, whole...), whole...), filled(4093), filled(4093)), nil, impl.OK)
}

func TestFeedLong(t *testing.T) {
	good := frameOf(t, nil)
	chunks := make([][]byte, impl.MaxList)
	for i := range chunks {
		chunks[i] = good
	}
	payloads := make([][]byte, impl.MaxList)
	wantFeed(t, nil, chunks, payloads, nil, impl.OK)
	wantFeed(t, nil, append(chunks, good), nil, nil, impl.ErrLong)
	wantFeed(t, []byte{128, 0}, append(chunks, good), nil, nil, impl.ErrLong)
	huge := make([]byte, impl.MaxText+1)
	wantFeed(t, huge, nil, nil, nil, impl.ErrLong)
	wantFeed(t, huge, [][]byte{huge}, nil, nil, impl.ErrLong)
	wantFeed(t, nil, append([][]byte{huge}, chunks...), nil, nil, impl.ErrLong)
}

// modelUnframe is Unframe by the library's own numbers and sums.
func modelUnframe(b []byte) ([][]byte, int, int) {
	var list [][]byte
	for at := 0; ; {
		n, size := binary.Uvarint(b[at:])
		switch {
		case size == 0 && len(b)-at < 9:
			return list, at, impl.OK
		case size <= 0 || size > 9 || size > 1 && b[at+size-1] == 0:
			return nil, at, impl.ErrForm
		case n > impl.MaxFrame:
			return nil, at, impl.ErrRange
		}
		end := at + size + int(n)
		if end+4 > len(b) {
			return list, at, impl.OK
		}
		if binary.LittleEndian.Uint32(b[end:]) != crc32.ChecksumIEEE(b[at+size:end]) {
			return nil, at, impl.ErrSum
		}
		list = append(list, b[at+size:end])
		at = end + 4
	}
}

func TestUnframeAsTheModel(t *testing.T) {
	r := rand.New(rand.NewSource(1))
	pieces := [][]byte{{0}, {128}, {255}, {1}, {127}, {0, 0, 0, 0, 0}, {128, 1}, {128, 32}, {129, 32}}
	for _, p := range samples() {
		pieces = append(pieces, frameOf(t, p))
	}
	for range 20000 {
		var b []byte
		for range r.Intn(8) {
			b = append(b, pieces[r.Intn(len(pieces))]...)
		}
		if r.Intn(2) == 0 {
			b = b[:r.Intn(len(b)+1)]
		}
		list, at, code := modelUnframe(b)
		wantUnframe(t, b, list, at, code)
	}
}
