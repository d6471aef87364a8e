package tests

import (
	"bytes"
	"encoding/binary"
	"math/rand"
	"slices"
	"testing"

	"loop.example/g00142/impl"
)

func wantWalOf(t *testing.T, w impl.Wal, want []byte, wantCode int) {
	t.Helper()
	b, code := impl.WalOf(w)
	if code != wantCode || !bytes.Equal(b, want) {
		t.Errorf("WalOf %s: %d bytes, code %d; want %d bytes, code %d", tellWal(w), len(b), code, len(want), wantCode)
	}
}

// wantRoundTrip holds that a state's log is its frames, and that recovery of them is the state.
func wantRoundTrip(t *testing.T, w impl.Wal) {
	t.Helper()
	want := voteFrame(t, w.Term, w.Vote)
	for _, r := range w.Log {
		want = append(want, entryFrame(t, r.Term, r.Index, string(r.Data))...)
	}
	wantWalOf(t, w, want, impl.OK)
	w.Good = len(want)
	wantRecover(t, want, w)
}

// recsOf has one record for each term, with Data of a size.
func recsOf(size int, terms ...int) []impl.Rec {
	var log []impl.Rec
	for i, term := range terms {
		log = append(log, rec(term, i+1, string(filled(size))))
	}
	return log
}

func TestWalOf(t *testing.T) {
	wantRoundTrip(t, impl.Wal{})
	wantRoundTrip(t, impl.Wal{Log: []impl.Rec{}})
	wantRoundTrip(t, impl.Wal{Term: 3, Vote: 2})
	wantRoundTrip(t, impl.Wal{Term: 1000000, Vote: 1000000})
	wantRoundTrip(t, impl.Wal{Term: 3, Vote: 2, Log: recsOf(0, 1)})
	wantRoundTrip(t, impl.Wal{Log: recsOf(1000, 0, 1000000, 3)})
	wantRoundTrip(t, impl.Wal{Term: 1, Log: recsOf(7, 9, 8, 8, 1)}) // terms that fall, and above the state's
	wantRoundTrip(t, impl.Wal{Term: 5, Log: recsOf(20, make([]int, 100)...)})
}

func TestWalOfDoesNotLookAtGood(t *testing.T) {
	want, _ := impl.WalOf(impl.Wal{Term: 3, Vote: 2, Log: recsOf(4, 1, 2)})
	for _, good := range []int{least, -1, 1, 8, impl.MaxText + 1, greatest} {
		wantWalOf(t, impl.Wal{Term: 3, Vote: 2, Log: recsOf(4, 1, 2), Good: good}, want, impl.OK)
	}
}

func TestWalOfBad(t *testing.T) {
	for _, n := range []int{least, -1, 1000001, greatest} {
		wantWalOf(t, impl.Wal{Term: n}, nil, impl.ErrBad)
		wantWalOf(t, impl.Wal{Vote: n}, nil, impl.ErrBad)
		wantWalOf(t, impl.Wal{Log: recsOf(3, 1, n)}, nil, impl.ErrBad)
		wantWalOf(t, impl.Wal{Log: recsOf(3, n, 1)}, nil, impl.ErrBad)
	}
	for _, n := range []int{least, -1, 1, 2, 1000000, greatest} {
		wantWalOf(t, impl.Wal{Base: n}, nil, impl.ErrBad)
		wantWalOf(t, impl.Wal{BaseTerm: n}, nil, impl.ErrBad)
	}
	wantWalOf(t, impl.Wal{Base: 1, BaseTerm: 1, Log: []impl.Rec{rec(1, 2, "")}}, nil, impl.ErrBad)
	for _, size := range []int{1001, impl.MaxText, impl.MaxText + 1} {
		wantWalOf(t, impl.Wal{Log: recsOf(size, 1)}, nil, impl.ErrBad)
		log := append(recsOf(3, 1, 1), rec(1, 3, string(filled(size))))
		wantWalOf(t, impl.Wal{Log: log}, nil, impl.ErrBad)
	}
}

func TestWalOfIndexes(t *testing.T) {
	for _, indexes := range [][]int{{0}, {2}, {-1}, {least}, {greatest}, {1000000}, {1, 1}, {1, 3}, {1, 0}, {2, 1}, {2, 3},
		{1, 2, 4}, {1, 2, 2}, {0, 1, 2}, {1, 3, 2}, {1, 2, 3, 1}} {
		var log []impl.Rec
		for _, i := range indexes {
			log = append(log, rec(1, i, "x"))
		}
		wantWalOf(t, impl.Wal{Log: log}, nil, impl.ErrBad)
	}
}

func TestWalOfHowManyRecords(t *testing.T) {
	wantRoundTrip(t, impl.Wal{Log: recsOf(0, make([]int, 99)...)})
	wantRoundTrip(t, impl.Wal{Log: recsOf(0, make([]int, 100)...)})
	for _, size := range []int{101, 102, impl.MaxList, impl.MaxList + 1} { // within a struct: no list of its own
		wantWalOf(t, impl.Wal{Log: recsOf(0, make([]int, size)...)}, nil, impl.ErrBad)
	}
}

// fullLog is a state whose log has just as many bytes as given.
func fullLog(t *testing.T, size int) impl.Wal {
	t.Helper()
	w := impl.Wal{Term: 1, Vote: 1}
	left := size - len(voteFrame(t, 1, 1))
	for i := 1; left > 0; i++ {
		each := len(entryFrame(t, 1, i, long(1000)))
		data := 1000
		if left < each+200 { // the last one or two
			data = 1000 - (each - left)
			if data > 1000 {
				data = 500
			}
		}
		w.Log = append(w.Log, rec(1, i, string(filled(data))))
		left -= len(entryFrame(t, 1, i, long(data)))
	}
	if left != 0 {
		t.Fatal("no such log", size, left)
	}
	return w
}

func TestWalOfHowManyBytes(t *testing.T) {
	for _, size := range []int{impl.MaxText - 1, impl.MaxText} {
		w := fullLog(t, size)
		if b, code := impl.WalOf(w); len(b) != size || code != impl.OK {
			t.Errorf("WalOf of %d bytes: %d, code %d", size, len(b), code)
		}
		wantRoundTrip(t, w)
	}
	for _, size := range []int{impl.MaxText + 1, impl.MaxText + 2, 100000} {
		wantWalOf(t, fullLog(t, size), nil, impl.ErrMany)
	}
	wantWalOf(t, impl.Wal{Log: recsOf(1000, make([]int, 100)...)}, nil, impl.ErrMany)
}

func TestWalOfBadIsAheadOfMany(t *testing.T) {
	big := impl.Wal{Term: 1, Log: recsOf(1000, make([]int, 100)...)}
	spoilers := []func(w *impl.Wal){
		func(w *impl.Wal) { w.Term = -1 },
		func(w *impl.Wal) { w.Vote = 1000001 },
		func(w *impl.Wal) { w.Base = 1 },
		func(w *impl.Wal) { w.BaseTerm = 1 },
		func(w *impl.Wal) { w.Log[99].Term = -1 },
		func(w *impl.Wal) { w.Log[99].Index = 101 },
		func(w *impl.Wal) { w.Log[99].Data = filled(1001) },
		func(w *impl.Wal) { w.Log = append(w.Log, rec(1, 101, "")) },
	}
	wantWalOf(t, big, nil, impl.ErrMany)
	for _, spoilOne := range spoilers {
		w := big
		w.Log = slices.Clone(big.Log)
		spoilOne(&w)
		wantWalOf(t, w, nil, impl.ErrBad)
	}
}

func TestRoundTripsAtRandom(t *testing.T) {
	r := rand.New(rand.NewSource(21))
	for range 300 {
		w := impl.Wal{Term: r.Intn(1000001), Vote: r.Intn(1000001)}
		for i := range r.Intn(60) {
			w.Log = append(w.Log, rec(r.Intn(1000001), i+1, string(filled(r.Intn(1001)))))
		}
		wantRoundTrip(t, w)
	}
}

// modelPayload reads a payload by the library's numbers: its kind, numbers and what is behind them; kind 0 if it is none.
func modelPayload(p []byte) (byte, int, int, []byte) {
	if len(p) == 0 || p[0] < 1 || p[0] > 3 {
		return 0, 0, 0, nil
	}
	var n [2]int
	kind, p := p[0], p[1:]
	for i := range n {
		x, size := binary.Uvarint(p)
		if size <= 0 || size > 1 && p[size-1] == 0 || x > 1000000 {
			return 0, 0, 0, nil
		}
		n[i], p = int(x), p[size:]
	}
	if kind != 2 && len(p) > 0 || kind == 2 && (n[1] < 1 || len(p) > 1000) {
		return 0, 0, 0, nil
	}
	return kind, n[0], n[1], p
}

// modelWal keeps the records by their indexes.
type modelWal struct {
	term, vote, base, baseTerm, last int
	recs                             map[int]impl.Rec
}

func (m *modelWal) take(payload []byte) bool {
	kind, first, second, data := modelPayload(payload)
	switch kind {
	case 1:
		if first < m.term {
			return false
		}
		m.term, m.vote = first, second
	case 2:
		if second <= m.base || second > m.last+1 || second > m.base+100 {
			return false
		}
		m.recs[second] = impl.Rec{Term: first, Index: second, Data: data}
		m.last = second
	case 3:
		was := m.recs[first].Term
		if first == m.base {
			was = m.baseTerm
		}
		if first < m.base || first > m.last || second != was {
			return false
		}
		m.base, m.baseTerm = first, second
	}
	return kind != 0
}

func modelRecover(b []byte) impl.Wal {
	m := modelWal{recs: map[int]impl.Rec{}}
	good := 0
	for {
		list, next := firstFrame(b, good)
		if next == 0 || !m.take(list) {
			break
		}
		good = next
	}
	w := impl.Wal{Term: m.term, Vote: m.vote, Base: m.base, BaseTerm: m.baseTerm, Good: good}
	for i := m.base + 1; i <= m.last; i++ {
		w.Log = append(w.Log, m.recs[i])
	}
	return w
}

// firstFrame is the payload of the frame at a place and the place behind it, 0 if none is whole and right there.
func firstFrame(b []byte, at int) ([]byte, int) {
	for end := at + 5; end <= len(b); end++ {
		if list, place, code := modelUnframe(b[at:end]); code == impl.OK && len(list) == 1 {
			return list[0], at + place
		}
	}
	return nil, 0
}

// randomLog is frames that mostly fit, and now and then one that does not.
func randomLog(t *testing.T, r *rand.Rand) []byte {
	t.Helper()
	var all []byte
	term, base, last := 0, 0, 0
	terms := []int{0} // by index; what goes may stay here, so that some bases do not fit
	for range r.Intn(40) {
		switch pick := r.Intn(40); {
		case pick < 8:
			term += r.Intn(2)
			all = append(all, voteFrame(t, term, r.Intn(4))...)
		case pick < 28:
			index := min(base+1+r.Intn(last-base+1), last+1)
			if r.Intn(4) > 0 {
				index = last + 1
			}
			terms = append(terms[:index], r.Intn(3))
			last = index
			all = append(all, entryFrame(t, terms[index], index, string(filled(r.Intn(9))))...)
		case pick < 38:
			base += r.Intn(last - base + 1)
			all = append(all, baseFrame(t, base, terms[base])...)
		default:
			all = append(all, oddFrame(t, r, last)...)
		}
	}
	return all
}

func oddFrame(t *testing.T, r *rand.Rand, last int) []byte {
	t.Helper()
	payload := payloadOf(byte(r.Intn(5)), r.Intn(3), max(0, last-3+r.Intn(6)), string(filled(r.Intn(2))))
	frame := frameOf(t, payload)
	if r.Intn(3) == 0 {
		frame[r.Intn(len(frame))] ^= 1 << r.Intn(8)
	}
	return frame
}

func TestRecoverAsTheModel(t *testing.T) {
	r := rand.New(rand.NewSource(22))
	longest := 0
	for range 4000 {
		b := randomLog(t, r)
		if r.Intn(3) == 0 {
			b = b[:r.Intn(len(b)+1)]
		}
		want := modelRecover(b)
		wantRecover(t, b, want)
		longest = max(longest, want.Base)
		if t.Failed() {
			return
		}
	}
	if longest < 10 {
		t.Error("no log got far", longest)
	}
}
