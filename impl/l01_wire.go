package impl

const MaxFrame = 4096

const (
	maxNumberBytes = 9
	sumSize        = 4
	crcTurned      = 0xEDB88320
)

// What a decoder finds where a number is due. A number that is cut off is no
// fault on a wire: its other bytes may still come.
const (
	numberWhole = iota
	numberCut
	numberWrong
)

// decoder goes along bytes; it is embedded in whatever reads them.
type decoder struct {
	data []byte
	at   int
}

func (d *decoder) left() int { return len(d.data) - d.at }

// take goes over n bytes, which must be there. What it answers is a piece of
// data itself: who keeps it must copy it.
func (d *decoder) take(n int) []byte {
	piece := d.data[d.at : d.at+n]
	d.at += n
	return piece
}

// number goes over a number's bytes if they are whole, else it stays.
func (d *decoder) number() (int, int) {
	n := 0
	for i := range maxNumberBytes {
		if d.left() == i {
			return 0, numberCut
		}
		piece := d.data[d.at+i]
		n |= int(piece&127) << (7 * i)
		if piece >= 128 {
			continue
		}
		if piece == 0 && i > 0 {
			return 0, numberWrong
		}
		d.at += i + 1
		return n, numberWhole
	}
	return 0, numberWrong
}

// frame goes over one frame; it tells whether that was a whole one. Its
// payload is a piece of data itself: who keeps it must copy it.
func (d *decoder) frame() ([]byte, bool, int) {
	size, found := d.number()
	switch {
	case found == numberCut:
		return nil, false, OK
	case found == numberWrong:
		return nil, false, ErrForm
	case size > MaxFrame:
		return nil, false, ErrRange
	case d.left() < size+sumSize:
		return nil, false, OK
	}
	payload := d.take(size)
	if sumOf(d.take(sumSize)) != Crc(payload) {
		return nil, false, ErrSum
	}
	return payload, true, OK
}

// frameReader gathers the payloads of the frames that its decoder goes along.
type frameReader struct {
	decoder
	payloads [][]byte
}

// frames goes over all whole frames; with a fault or without, it ends where
// the first frame begins that it could not take.
func (r *frameReader) frames() int {
	for {
		begin := r.at
		payload, whole, code := r.frame()
		if !whole {
			r.at = begin
			return code
		}
		r.payloads = append(r.payloads, join(payload))
	}
}

// join makes new bytes of pieces, one behind the other.
func join(pieces ...[]byte) []byte {
	size := 0
	for _, piece := range pieces {
		size += len(piece)
	}
	all := make([]byte, 0, size)
	for _, piece := range pieces {
		all = append(all, piece...)
	}
	return all
}

// numberBytes is PutNumber of a number that is known not to be below 0.
func numberBytes(n int) []byte {
	var b []byte
	for ; n >= 128; n >>= 7 {
		b = append(b, byte(n&127|128))
	}
	return append(b, byte(n))
}

func sumBytes(sum int) []byte {
	return []byte{byte(sum), byte(sum >> 8), byte(sum >> 16), byte(sum >> 24)}
}

func sumOf(b []byte) int {
	return int(b[0]) | int(b[1])<<8 | int(b[2])<<16 | int(b[3])<<24
}

func PutNumber(n int) ([]byte, int) {
	if n < 0 {
		return nil, ErrRange
	}
	return numberBytes(n), OK
}

func GetNumber(b []byte, at int) (int, int, int) {
	if len(b) > MaxText {
		return 0, 0, ErrLong
	}
	if at < 0 || at > len(b) {
		return 0, 0, ErrRange
	}
	d := decoder{data: b, at: at}
	n, found := d.number()
	if found != numberWhole {
		return 0, 0, ErrForm
	}
	return n, d.at, OK
}

func Crc(b []byte) int {
	if len(b) > MaxText {
		return 0
	}
	sum := ^uint32(0)
	for _, c := range b {
		sum ^= uint32(c)
		for range 8 {
			out := sum & 1
			sum >>= 1
			if out == 1 {
				sum ^= crcTurned
			}
		}
	}
	return int(^sum)
}

func Frame(payload []byte) ([]byte, int) {
	if len(payload) > MaxText {
		return nil, ErrLong
	}
	if len(payload) > MaxFrame {
		return nil, ErrRange
	}
	return join(numberBytes(len(payload)), payload, sumBytes(Crc(payload))), OK
}

func Unframe(b []byte) ([][]byte, int, int) {
	if len(b) > MaxText {
		return nil, 0, ErrLong
	}
	r := frameReader{decoder: decoder{data: b}}
	code := r.frames()
	if code != OK {
		return nil, r.at, code
	}
	return r.payloads, r.at, OK
}

func Feed(rest []byte, chunks [][]byte) ([][]byte, []byte, int) {
	if len(rest) > MaxText || len(chunks) > MaxList {
		return nil, nil, ErrLong
	}
	r := frameReader{decoder: decoder{data: rest}}
	for _, chunk := range chunks {
		if r.left()+len(chunk) > MaxText {
			return nil, nil, ErrMany
		}
		r.decoder = decoder{data: join(r.take(r.left()), chunk)}
		code := r.frames()
		if code != OK {
			return nil, nil, code
		}
	}
	return r.payloads, join(r.take(r.left())), OK
}
