package tests

import (
	"bytes"
	"encoding/binary"
	"fmt"
	"slices"
	"strings"
	"testing"

	"loop.example/g00142/impl"
)

func rec(term, index int, data string) impl.Rec {
	return impl.Rec{Term: term, Index: index, Data: []byte(data)}
}

// number is a number's bytes by the library.
func number(n int) []byte { return binary.AppendUvarint(nil, uint64(n)) }

// payloadOf lays out what a record's payload is, whether it is in its bounds or not.
func payloadOf(kind byte, first, second int, data string) []byte {
	return slices.Concat([]byte{kind}, number(first), number(second), []byte(data))
}

func voteFrame(t *testing.T, term, vote int) []byte {
	t.Helper()
	b, code := impl.VoteRecord(term, vote)
	if code != impl.OK {
		t.Fatalf("VoteRecord %d %d: code %d", term, vote, code)
	}
	return b
}

func entryFrame(t *testing.T, term, index int, data string) []byte {
	t.Helper()
	b, code := impl.EntryRecord(rec(term, index, data))
	if code != impl.OK {
		t.Fatalf("EntryRecord %d %d: code %d", term, index, code)
	}
	return b
}

func baseFrame(t *testing.T, index, term int) []byte {
	t.Helper()
	b, code := impl.BaseRecord(index, term)
	if code != impl.OK {
		t.Fatalf("BaseRecord %d %d: code %d", index, term, code)
	}
	return b
}

func sameRecs(a, b []impl.Rec) bool {
	return slices.EqualFunc(a, b, func(x, y impl.Rec) bool {
		return x.Term == y.Term && x.Index == y.Index && bytes.Equal(x.Data, y.Data)
	})
}

func sameWal(a, b impl.Wal) bool {
	return a.Term == b.Term && a.Vote == b.Vote && a.Base == b.Base && a.BaseTerm == b.BaseTerm &&
		a.Good == b.Good && sameRecs(a.Log, b.Log)
}

func tellWal(w impl.Wal) string {
	text := fmt.Sprintf("term %d vote %d base %d/%d good %d log", w.Term, w.Vote, w.Base, w.BaseTerm, w.Good)
	for _, r := range w.Log {
		text += fmt.Sprintf(" %d/%d(%d bytes)", r.Index, r.Term, len(r.Data))
	}
	return text
}

func wantRecover(t *testing.T, b []byte, want impl.Wal) {
	t.Helper()
	w, code := impl.Recover(b)
	if code != impl.OK || !sameWal(w, want) {
		t.Errorf("Recover of %d bytes: code %d, %s; want %s", len(b), code, tellWal(w), tellWal(want))
	}
}

// wantRecord holds a frame, or its code, against what its payload must be.
func wantRecord(t *testing.T, b []byte, code int, payload []byte, want int) {
	t.Helper()
	if want != impl.OK {
		if code != want || len(b) != 0 {
			t.Errorf("record: %d bytes, code %d, want code %d", len(b), code, want)
		}
		return
	}
	if code != impl.OK || !bytes.Equal(b, frameOf(t, payload)) {
		t.Errorf("record %v, code %d, want the frame of %d bytes", b, code, len(payload))
	}
}

func TestWalConstants(t *testing.T) {
	if impl.MaxData != 1000 || impl.MaxTerm != 1000000 || impl.MaxLog != 100 {
		t.Error("bounds", impl.MaxData, impl.MaxTerm, impl.MaxLog)
	}
}

// bounds are numbers just in and just out of 0 to MaxTerm, and those at which a number's bytes grow.
var bounds = []int{least, -2, -1, 0, 1, 2, 127, 128, 16383, 16384, 999999, 1000000, 1000001, 1000002, greatest}

func codeIf(right bool) int {
	if right {
		return impl.OK
	}
	return impl.ErrRange
}

func TestRecordsInTheirBounds(t *testing.T) {
	in := func(n int) bool { return n >= 0 && n <= 1000000 }
	for _, a := range bounds {
		for _, b := range bounds {
			both := codeIf(in(a) && in(b))
			frame, code := impl.VoteRecord(a, b)
			wantRecord(t, frame, code, payloadOf(1, a, b, ""), both)
			frame, code = impl.BaseRecord(a, b)
			wantRecord(t, frame, code, payloadOf(3, a, b, ""), both)
			frame, code = impl.EntryRecord(rec(a, b, "data"))
			wantRecord(t, frame, code, payloadOf(2, a, b, "data"), codeIf(in(a) && in(b) && b >= 1))
		}
	}
}

func TestEntryData(t *testing.T) {
	for _, size := range []int{0, 1, 2, 127, 128, 999, 1000} {
		data := string(filled(size))
		frame, code := impl.EntryRecord(rec(3, 4, data))
		wantRecord(t, frame, code, payloadOf(2, 3, 4, data), impl.OK)
	}
	frame, code := impl.EntryRecord(rec(1000000, 1000000, string(filled(1000))))
	wantRecord(t, frame, code, payloadOf(2, 1000000, 1000000, string(filled(1000))), impl.OK)
	frame, code = impl.EntryRecord(impl.Rec{Term: 3, Index: 4})
	wantRecord(t, frame, code, payloadOf(2, 3, 4, ""), impl.OK)
	// Data stand within a struct: more than MaxText of them are out of their bounds, too.
	for _, size := range []int{1001, 1002, 4096, 4097, impl.MaxText, impl.MaxText + 1} {
		frame, code := impl.EntryRecord(rec(3, 4, long(size)))
		wantRecord(t, frame, code, nil, impl.ErrRange)
	}
	frame, code = impl.EntryRecord(impl.Rec{})
	wantRecord(t, frame, code, nil, impl.ErrRange)
}

func TestRecordBytes(t *testing.T) {
	for want, got := range map[string][]byte{
		"\x03\x01\x03\x02":         voteFrame(t, 3, 2),
		"\x05\x01\xac\x02\x80\x01": voteFrame(t, 300, 128),
		"\x05\x02\x01\x07xy":       entryFrame(t, 1, 7, "xy"),
		"\x03\x02\x00\x01":         entryFrame(t, 0, 1, ""),
		"\x03\x03\x07\x01":         baseFrame(t, 7, 1),
		"\x03\x03\x00\x00":         baseFrame(t, 0, 0),
	} {
		if sum := impl.Crc(got[1 : len(got)-4]); string(got) != want+string(binary.LittleEndian.AppendUint32(nil, uint32(sum))) {
			t.Errorf("record %q, want %q and its sum", got, want)
		}
	}
}

func TestRecoverNothing(t *testing.T) {
	wantRecover(t, nil, impl.Wal{})
	wantRecover(t, []byte{}, impl.Wal{})
}

func TestRecoverOneOfEach(t *testing.T) {
	v := voteFrame(t, 3, 2)
	wantRecover(t, v, impl.Wal{Term: 3, Vote: 2, Good: len(v)})
	e := entryFrame(t, 5, 1, "data")
	wantRecover(t, e, impl.Wal{Log: []impl.Rec{rec(5, 1, "data")}, Good: len(e)})
	b := baseFrame(t, 0, 0)
	wantRecover(t, b, impl.Wal{Good: len(b)})
	all := slices.Concat(v, e, baseFrame(t, 1, 5))
	wantRecover(t, all, impl.Wal{Term: 3, Vote: 2, Base: 1, BaseTerm: 5, Good: len(all)})
}

func TestRecoverAtTheBounds(t *testing.T) {
	full := string(filled(1000))
	for _, c := range []struct {
		frame []byte
		want  impl.Wal
	}{
		{voteFrame(t, 0, 0), impl.Wal{}},
		{voteFrame(t, 1000000, 1000000), impl.Wal{Term: 1000000, Vote: 1000000}},
		{voteFrame(t, 0, 7), impl.Wal{Vote: 7}},
		{entryFrame(t, 0, 1, ""), impl.Wal{Log: []impl.Rec{rec(0, 1, "")}}},
		{entryFrame(t, 1000000, 1, full), impl.Wal{Log: []impl.Rec{rec(1000000, 1, full)}}},
	} {
		c.want.Good = len(c.frame)
		wantRecover(t, c.frame, c.want)
	}
}

// sample is a log of each kind of record, and the state behind each of its first frames.
func sample(t *testing.T) ([][]byte, []impl.Wal) {
	t.Helper()
	frames := [][]byte{
		voteFrame(t, 2, 1), entryFrame(t, 1, 1, "x"), entryFrame(t, 1, 2, string(filled(200))), voteFrame(t, 2, 3),
		entryFrame(t, 2, 2, "z"), entryFrame(t, 2, 3, ""), baseFrame(t, 2, 2), voteFrame(t, 400, 0), entryFrame(t, 9, 4, "end"),
	}
	one, two, z, three, four := rec(1, 1, "x"), rec(1, 2, string(filled(200))), rec(2, 2, "z"), rec(2, 3, ""), rec(9, 4, "end")
	states := []impl.Wal{
		{},
		{Term: 2, Vote: 1},
		{Term: 2, Vote: 1, Log: []impl.Rec{one}},
		{Term: 2, Vote: 1, Log: []impl.Rec{one, two}},
		{Term: 2, Vote: 3, Log: []impl.Rec{one, two}},
		{Term: 2, Vote: 3, Log: []impl.Rec{one, z}},
		{Term: 2, Vote: 3, Log: []impl.Rec{one, z, three}},
		{Term: 2, Vote: 3, Base: 2, BaseTerm: 2, Log: []impl.Rec{three}},
		{Term: 400, Base: 2, BaseTerm: 2, Log: []impl.Rec{three}},
		{Term: 400, Base: 2, BaseTerm: 2, Log: []impl.Rec{three, four}},
	}
	for i := range frames {
		states[i+1].Good = states[i].Good + len(frames[i])
	}
	return frames, states
}

// P4: whatever place a log is cut off at, just its whole records are recovered.
func TestCutOffAtEachPlace(t *testing.T) {
	frames, states := sample(t)
	all := bytes.Join(frames, nil)
	whole := 0
	for size := range len(all) + 1 {
		if whole < len(frames) && size == states[whole+1].Good {
			whole++
		}
		wantRecover(t, all[:size], states[whole])
	}
	if whole != len(frames) {
		t.Error("whole frames", whole)
	}
}

// P4: of records written to a disk that crashes just those are recovered that the crash kept whole.
func TestCrashCutsRecordsOff(t *testing.T) {
	frames, states := sample(t)
	for synced := range len(frames) + 1 {
		d := impl.Disk{Synced: bytes.Join(frames[:synced], nil), Pending: frames[synced:]}
		for keep := range len(frames) - synced + 2 {
			whole := min(synced+keep, len(frames))
			size := 0
			if whole < len(frames) {
				size = len(frames[whole])
			}
			for torn := range size + 1 {
				left, _ := impl.DiskCrash(d, keep, torn)
				b, code := impl.DiskBytes(left)
				want := states[whole]
				if size > 0 && torn == size {
					want = states[whole+1]
				}
				if code != impl.OK {
					t.Fatal("DiskBytes", code)
				}
				wantRecover(t, b, want)
			}
		}
	}
}

// A log goes on where a recovery ends: the bytes up to Good make the same state, and what is written there fits.
func TestGoodIsWhereALogGoesOn(t *testing.T) {
	frames, _ := sample(t)
	all := bytes.Join(frames, nil)
	for size := range len(all) + 1 {
		w, _ := impl.Recover(all[:size])
		wantRecover(t, all[:w.Good], w)
		next := w.Base + len(w.Log) + 1
		b := slices.Concat(all[:w.Good], voteFrame(t, 500, 4), entryFrame(t, 500, next, "more"))
		w.Term, w.Vote, w.Good, w.Log = 500, 4, len(b), append(w.Log, rec(500, next, "more"))
		wantRecover(t, b, w)
	}
}

func TestRecoverLong(t *testing.T) {
	v := voteFrame(t, 1, 1) // eight bytes
	b := bytes.Repeat(v, impl.MaxText/len(v))
	if len(b) != impl.MaxText {
		t.Fatal(len(b))
	}
	wantRecover(t, b, impl.Wal{Term: 1, Vote: 1, Good: impl.MaxText})
	for _, more := range [][]byte{{0}, v} {
		if w, code := impl.Recover(append(bytes.Clone(b), more...)); code != impl.ErrLong || !sameWal(w, impl.Wal{}) {
			t.Error("Recover of more than MaxText bytes", code, tellWal(w))
		}
	}
	wantRecover(t, filled(impl.MaxText), impl.Wal{})
}

// wantStop lays bytes between records that fit: what is recovered ends ahead of them, also if they come first.
func wantStop(t *testing.T, what string, odd []byte) {
	t.Helper()
	ahead := slices.Concat(voteFrame(t, 3, 2), entryFrame(t, 1, 1, "x"))
	state := impl.Wal{Term: 3, Vote: 2, Log: []impl.Rec{rec(1, 1, "x")}, Good: len(ahead)}
	behind := slices.Concat(voteFrame(t, 4, 1), entryFrame(t, 4, 1, "other"), entryFrame(t, 4, 2, "next"))
	for _, tail := range [][]byte{nil, behind} {
		if w, code := impl.Recover(slices.Concat(odd, tail)); code != impl.OK || !sameWal(w, impl.Wal{}) {
			t.Errorf("%s, first: code %d, %s", what, code, tellWal(w))
		}
		if w, code := impl.Recover(slices.Concat(ahead, odd, tail)); code != impl.OK || !sameWal(w, state) {
			t.Errorf("%s: code %d, %s; want %s", what, code, tellWal(w), tellWal(state))
		}
	}
}

func TestRecoverFaultyFrames(t *testing.T) {
	for _, frame := range [][]byte{voteFrame(t, 5, 5), entryFrame(t, 1, 1, "payload"), baseFrame(t, 0, 0)} {
		for i := range len(frame) - 1 {
			sum := bytes.Clone(frame)
			sum[1+i] ^= 16
			wantStop(t, "another sum", sum)
		}
	}
	wantStop(t, "no number", []byte{128, 0})
	wantStop(t, "no number", bytes.Repeat([]byte{255}, 9))
	wantStop(t, "a number above MaxFrame", number(4097))
	wantStop(t, "a number above MaxFrame", append(number(4097), filled(4101)...))
	wantStop(t, "a frame longer than what is behind it", []byte{128, 32, 1})
}

func TestRecoverPayloadsThatAreNone(t *testing.T) {
	for what, payload := range map[string][]byte{
		"an empty payload":               nil,
		"a 1 alone":                      {1},
		"a 2 alone":                      {2},
		"a 3 alone":                      {3},
		"a 1 without Vote":               {1, 5},
		"a 2 without Index":              {2, 1},
		"a 3 without a term":             {3, 0},
		"a 1 whose Term is cut off":      {1, 133},
		"a 1 whose Vote is cut off":      {1, 5, 133},
		"a 2 whose Term is cut off":      {2, 129},
		"a 2 whose Index is cut off":     {2, 1, 129},
		"a 3 whose index is cut off":     {3, 128},
		"a 3 whose term is cut off":      {3, 0, 128},
		"a Term of more bytes":           {1, 133, 0, 5},
		"a Vote of more bytes":           {1, 5, 133, 0},
		"a record's Term of more bytes":  {2, 129, 0, 1},
		"a record's Index of more bytes": {2, 1, 129, 0},
		"an index of more bytes":         {3, 128, 0, 0},
		"a base's term of more bytes":    {3, 0, 128, 0},
		"a Term of ten bytes":            append(append([]byte{1}, bytes.Repeat([]byte{129}, 9)...), 1, 5),
		"something behind a 1":           {1, 5, 5, 0},
		"more behind a 1":                payloadOf(1, 5, 5, "data"),
		"something behind a 3":           {3, 0, 0, 0},
		"more behind a 3":                payloadOf(3, 0, 0, "data"),
	} {
		wantStop(t, what, frameOf(t, payload))
	}
	for kind := range 256 {
		if kind < 1 || kind > 3 {
			for _, data := range []string{"", "x"} {
				wantStop(t, fmt.Sprint("a first byte ", kind), frameOf(t, payloadOf(byte(kind), 5, 1, data)))
			}
			wantStop(t, fmt.Sprint("a first byte alone ", kind), frameOf(t, []byte{byte(kind)}))
		}
	}
}

func TestRecoverOutOfBounds(t *testing.T) {
	for _, n := range []int{1000001, 1000002, 1 << 32, greatest} {
		wantStop(t, "a Term out of its bounds", frameOf(t, payloadOf(1, n, 1, "")))
		wantStop(t, "a Vote out of its bounds", frameOf(t, payloadOf(1, 5, n, "")))
		wantStop(t, "a record's Term out of its bounds", frameOf(t, payloadOf(2, n, 1, "x")))
		wantStop(t, "a record's Index out of its bounds", frameOf(t, payloadOf(2, 1, n, "x")))
		wantStop(t, "an index out of its bounds", frameOf(t, payloadOf(3, n, 0, "")))
		wantStop(t, "a base's term out of its bounds", frameOf(t, payloadOf(3, 0, n, "")))
	}
	wantStop(t, "an Index of 0", frameOf(t, payloadOf(2, 1, 0, "x")))
	for _, size := range []int{1001, 1002, 4090} {
		wantStop(t, "Data out of their bounds", frameOf(t, payloadOf(2, 1, 1, long(size))))
	}
}

// then recovers frames of a log and another behind them, which fits and makes a state, or does not.
func then(t *testing.T, log [][]byte, next []byte, fits bool, want impl.Wal) {
	t.Helper()
	all := bytes.Join(log, nil)
	state, _ := impl.Recover(all)
	if state.Good != len(all) {
		t.Fatalf("the log itself does not fit: %s", tellWal(state))
	}
	if !fits {
		want = state
		wantRecover(t, slices.Concat(all, next, voteFrame(t, 1000000, 9), entryFrame(t, 1, state.Base+1, "later")), want)
	} else {
		want.Good = len(all) + len(next)
	}
	wantRecover(t, slices.Concat(all, next), want)
}

func TestVoteFits(t *testing.T) {
	log := [][]byte{voteFrame(t, 300, 2), entryFrame(t, 500, 1, "x")}
	kept := []impl.Rec{rec(500, 1, "x")}
	for _, vote := range []int{0, 1, 2, 1000000} {
		for _, term := range []int{0, 1, 299} {
			then(t, log, voteFrame(t, term, vote), false, impl.Wal{})
		}
		for _, term := range []int{300, 301, 1000000} {
			then(t, log, voteFrame(t, term, vote), true, impl.Wal{Term: term, Vote: vote, Log: kept})
		}
	}
	top := [][]byte{voteFrame(t, 1000000, 1)}
	then(t, top, voteFrame(t, 999999, 1), false, impl.Wal{})
	then(t, top, voteFrame(t, 1000000, 2), true, impl.Wal{Term: 1000000, Vote: 2})
}

func TestEntryFits(t *testing.T) {
	a, b, c := rec(5, 1, "a"), rec(6, 2, "b"), rec(6, 3, "c")
	log := [][]byte{entryFrame(t, 5, 1, "a"), entryFrame(t, 6, 2, "b"), entryFrame(t, 6, 3, "c")}
	for _, term := range []int{0, 6, 7, 1000000} { // neither the state's Term nor the terms ahead bound a record's
		n := rec(term, 0, "new")
		for index, stay := range map[int][]impl.Rec{1: nil, 2: {a}, 3: {a, b}, 4: {a, b, c}} {
			n.Index = index
			then(t, log, entryFrame(t, term, index, "new"), true, impl.Wal{Log: append(slices.Clone(stay), n)})
		}
		for _, index := range []int{5, 6, 104, 1000000} {
			then(t, log, entryFrame(t, term, index, "new"), false, impl.Wal{})
		}
	}
	then(t, log, entryFrame(t, 6, 2, "b"), true, impl.Wal{Log: []impl.Rec{a, b}}) // an alike one, too
	then(t, nil, entryFrame(t, 1, 1, ""), true, impl.Wal{Log: []impl.Rec{rec(1, 1, "")}})
	then(t, nil, entryFrame(t, 1, 2, ""), false, impl.Wal{})
}

func TestEntryFitsBehindABase(t *testing.T) {
	c := rec(6, 3, "c")
	log := [][]byte{entryFrame(t, 5, 1, "a"), entryFrame(t, 6, 2, "b"), entryFrame(t, 6, 3, "c"), baseFrame(t, 2, 6)}
	for _, index := range []int{1, 2, 5, 6, 102, 103} {
		then(t, log, entryFrame(t, 6, index, "new"), false, impl.Wal{})
	}
	for index, stay := range map[int][]impl.Rec{3: nil, 4: {c}} {
		want := append(slices.Clone(stay), rec(7, index, "new"))
		then(t, log, entryFrame(t, 7, index, "new"), true, impl.Wal{Base: 2, BaseTerm: 6, Log: want})
	}
	log = append(log, baseFrame(t, 3, 6)) // no record is left
	then(t, log, entryFrame(t, 7, 3, "new"), false, impl.Wal{})
	then(t, log, entryFrame(t, 7, 4, "new"), true, impl.Wal{Base: 3, BaseTerm: 6, Log: []impl.Rec{rec(7, 4, "new")}})
	then(t, log, entryFrame(t, 7, 5, "new"), false, impl.Wal{})
}

// run is records of one term from an index on, and their frames.
func run(t *testing.T, term, from, to int) ([]impl.Rec, [][]byte) {
	t.Helper()
	var recs []impl.Rec
	var frames [][]byte
	for i := from; i <= to; i++ {
		data := strings.Repeat("d", i%5)
		recs = append(recs, rec(term, i, data))
		frames = append(frames, entryFrame(t, term, i, data))
	}
	return recs, frames
}

func TestEntryFitsAtMaxLog(t *testing.T) {
	recs, frames := run(t, 4, 1, 99)
	last := entryFrame(t, 4, 100, "last")
	then(t, frames, last, true, impl.Wal{Log: append(slices.Clone(recs), rec(4, 100, "last"))})
	then(t, frames, entryFrame(t, 4, 101, ""), false, impl.Wal{})
	full := append(frames, last)
	then(t, full, entryFrame(t, 4, 101, ""), false, impl.Wal{})
	then(t, full, entryFrame(t, 4, 102, ""), false, impl.Wal{})
	then(t, full, entryFrame(t, 5, 100, "again"), true, impl.Wal{Log: append(slices.Clone(recs), rec(5, 100, "again"))})
	then(t, full, entryFrame(t, 5, 1, "first"), true, impl.Wal{Log: []impl.Rec{rec(5, 1, "first")}})
}

func TestEntryFitsAtBaseAndMaxLog(t *testing.T) {
	_, frames := run(t, 4, 1, 100)
	frames = append(frames, baseFrame(t, 40, 4))
	_, more := run(t, 5, 101, 139)
	kept, _ := run(t, 4, 41, 100)
	added, _ := run(t, 5, 101, 139)
	frames = append(frames, more...)
	all := append(append(kept, added...), rec(5, 140, "last"))
	last := entryFrame(t, 5, 140, "last")
	then(t, frames, last, true, impl.Wal{Base: 40, BaseTerm: 4, Log: all})
	full := append(frames, last)
	then(t, full, entryFrame(t, 5, 141, ""), false, impl.Wal{})
	then(t, full, entryFrame(t, 5, 40, ""), false, impl.Wal{})
	then(t, full, baseFrame(t, 140, 5), true, impl.Wal{Base: 140, BaseTerm: 5})
}

func TestBaseFits(t *testing.T) {
	a, b, c := rec(5, 1, "a"), rec(6, 2, "b"), rec(8, 3, "c")
	log := [][]byte{voteFrame(t, 9, 1), entryFrame(t, 5, 1, "a"), entryFrame(t, 6, 2, "b"), entryFrame(t, 8, 3, "c")}
	for index, term := range []int{0, 5, 6, 8} {
		for other := range 11 {
			want := impl.Wal{Term: 9, Vote: 1, Base: index, BaseTerm: term, Log: []impl.Rec{a, b, c}[index:]}
			then(t, log, baseFrame(t, index, other), other == term, want)
		}
	}
	for _, index := range []int{4, 5, 100, 1000000} {
		for _, term := range []int{0, 5, 6, 8, 9} {
			then(t, log, baseFrame(t, index, term), false, impl.Wal{})
		}
	}
	then(t, nil, baseFrame(t, 0, 0), true, impl.Wal{})
	then(t, nil, baseFrame(t, 0, 1), false, impl.Wal{})
	then(t, nil, baseFrame(t, 1, 0), false, impl.Wal{})
}

func TestBaseFitsBehindABase(t *testing.T) {
	c := rec(8, 3, "c")
	log := [][]byte{entryFrame(t, 5, 1, "a"), entryFrame(t, 6, 2, "b"), entryFrame(t, 8, 3, "c"), baseFrame(t, 2, 6)}
	then(t, log, baseFrame(t, 2, 6), true, impl.Wal{Base: 2, BaseTerm: 6, Log: []impl.Rec{c}})
	then(t, log, baseFrame(t, 3, 8), true, impl.Wal{Base: 3, BaseTerm: 8})
	for _, odd := range [][2]int{{0, 0}, {1, 5}, {2, 0}, {2, 5}, {2, 8}, {3, 6}, {4, 8}} {
		then(t, log, baseFrame(t, odd[0], odd[1]), false, impl.Wal{})
	}
	log = append(log, baseFrame(t, 3, 8)) // no record is left: the base alone has a term
	then(t, log, baseFrame(t, 3, 8), true, impl.Wal{Base: 3, BaseTerm: 8})
	then(t, log, baseFrame(t, 3, 6), false, impl.Wal{})
	then(t, log, baseFrame(t, 4, 8), false, impl.Wal{})
	then(t, log, baseFrame(t, 2, 6), false, impl.Wal{})
}

// A record that another has taken the place of, or that went with it, is none of the log any more.
func TestBaseFitsWhatStands(t *testing.T) {
	log := [][]byte{entryFrame(t, 5, 1, "a"), entryFrame(t, 5, 2, "b"), entryFrame(t, 5, 3, "c"), entryFrame(t, 7, 2, "new")}
	then(t, log, baseFrame(t, 3, 5), false, impl.Wal{})
	then(t, log, baseFrame(t, 2, 5), false, impl.Wal{})
	then(t, log, baseFrame(t, 2, 7), true, impl.Wal{Base: 2, BaseTerm: 7})
	then(t, log, baseFrame(t, 1, 5), true, impl.Wal{Base: 1, BaseTerm: 5, Log: []impl.Rec{rec(7, 2, "new")}})
}

// Good stands ahead of the first one that does not fit, whatever would fit behind it.
func TestGoodIsAheadOfWhatDoesNotFit(t *testing.T) {
	frames, states := sample(t)
	odd := [][]byte{voteFrame(t, 1, 1), entryFrame(t, 1, 9, ""), baseFrame(t, 9, 1), frameOf(t, nil)}
	for place := 1; place <= len(frames); place++ {
		for _, frame := range odd {
			b := slices.Concat(bytes.Join(frames[:place], nil), frame, bytes.Join(frames[place:], nil))
			wantRecover(t, b, states[place])
		}
	}
}
