package tests

import (
	"bytes"
	"math/rand"
	"slices"
	"testing"

	"loop.example/g00142/impl"
)

// guardedLog is a state whose Data, and whose list of records, have room behind their end.
type guardedLog struct {
	w     impl.Wal
	parts []guarded
	recs  []impl.Rec // the list with the room behind it
	was   []impl.Rec
}

func guardLog(w impl.Wal) guardedLog {
	g := guardedLog{w: w}
	for _, r := range w.Log {
		part := guard(r.Data)
		g.parts = append(g.parts, part)
		g.recs = append(g.recs, impl.Rec{Term: r.Term, Index: r.Index, Data: part.arg()})
	}
	g.recs = append(g.recs, impl.Rec{Term: mark}, impl.Rec{Term: mark})
	g.was = slices.Clone(g.recs)
	g.w.Log = g.recs[:len(w.Log)]
	return g
}

func (g guardedLog) same() bool {
	for i, part := range g.parts {
		if !part.same() || len(g.recs[i].Data) != part.size || part.size > 0 && &g.recs[i].Data[0] != &part.all[0] {
			return false
		}
	}
	return sameRecs(g.recs, g.was)
}

// states are right and wrong ones, of each code of WalOf.
func states() []impl.Wal {
	return []impl.Wal{
		{}, {Term: 3, Vote: 2}, {Term: -1}, {Vote: 1000001}, {Base: 1}, {BaseTerm: 1}, {Term: 3, Log: recsOf(9, 1, 2, 3)},
		{Log: recsOf(0, 1)}, {Log: recsOf(1000, make([]int, 65)...)}, {Log: recsOf(1000, make([]int, 100)...)},
		{Log: recsOf(1, make([]int, 101)...)}, {Log: recsOf(1001, 1)}, {Log: []impl.Rec{rec(1, 2, "x")}}, {Good: -1},
	}
}

// logs are bytes of every kind that a recovery meets.
func logs(t *testing.T) [][]byte {
	t.Helper()
	frames, _ := sample(t)
	all := bytes.Join(frames, nil)
	full, _ := impl.WalOf(impl.Wal{Log: recsOf(600, make([]int, 100)...)})
	out := [][]byte{all, all[:len(all)-2], full, slices.Concat(all, voteFrame(t, 1, 1)), slices.Concat(all, frameOf(t, []byte{9}))}
	r := rand.New(rand.NewSource(23))
	for range 50 {
		out = append(out, randomLog(t, r))
	}
	return append(out, inputs(t)...)
}

// spoilWal writes over all that a state holds, and over the room behind it.
func spoilWal(w impl.Wal) {
	for _, r := range w.Log {
		spoil(r.Data)
	}
	log := w.Log[:cap(w.Log)]
	for i := range log {
		log[i] = impl.Rec{Term: mark, Index: mark, Data: []byte{mark}}
	}
}

// P1: arguments stay, and no answer shares memory with one.
func TestWalArgumentsStay(t *testing.T) {
	for _, w := range states() {
		g := guardLog(w)
		b, _ := impl.WalOf(g.w)
		if !g.same() {
			t.Fatalf("a state was changed: %s", tellWal(w))
		}
		spoil(b)
		for _, r := range g.w.Log {
			frame, _ := impl.EntryRecord(r)
			spoil(frame)
		}
		if !g.same() {
			t.Fatalf("an answer shares memory with a state: %s", tellWal(w))
		}
	}
	for _, in := range logs(t) {
		g := guard(in)
		w, _ := impl.Recover(g.arg())
		if !g.same() {
			t.Fatalf("a log of %d bytes was changed", len(in))
		}
		spoilWal(w)
		if !g.same() {
			t.Fatalf("a state shares memory with a log of %d bytes", len(in))
		}
	}
}

// P1: what changes in an argument later does not change an answer.
func TestWalAnswersStay(t *testing.T) {
	for _, in := range logs(t) {
		b := bytes.Clone(in)
		w, _ := impl.Recover(b)
		spoil(b)
		again, _ := impl.Recover(in)
		if !sameWal(w, again) {
			t.Fatalf("a state hangs on its log of %d bytes", len(in))
		}
	}
}

// P1: no two lists of one answer share memory, not even behind their ends.
func TestWalListsShareNothing(t *testing.T) {
	for _, in := range logs(t)[:30] {
		w, _ := impl.Recover(in)
		for i := range w.Log {
			was, _ := impl.Recover(in)
			spoil(w.Log[i].Data)
			_ = append(w.Log[i].Data, mark, mark, mark)
			for k := range w.Log {
				if k != i && !bytes.Equal(w.Log[k].Data, was.Log[k].Data) {
					t.Fatalf("the Data of records %d and %d share memory", i, k)
				}
			}
			spoil(w.Log[i].Data)
		}
	}
}

// P1: alike arguments have alike answers, at other addresses and whatever was called ahead.
func TestWalAnswersHangOnArgumentsAlone(t *testing.T) {
	all := logs(t)
	var first []impl.Wal
	for _, in := range all {
		w, _ := impl.Recover(in)
		first = append(first, w)
	}
	for i := len(all) - 1; i >= 0; i-- {
		w, _ := impl.Recover(guard(all[i]).arg())
		if !sameWal(w, first[i]) {
			t.Fatalf("the state of log %d changed", i)
		}
		spoilWal(w)
	}
	for _, w := range states() {
		b, code := impl.WalOf(w)
		kept := bytes.Clone(b)
		spoil(b)
		wantWalOf(t, guardLog(w).w, kept, code)
	}
	for range 3 {
		b := voteFrame(t, 3, 2)
		wantRecover(t, b, impl.Wal{Term: 3, Vote: 2, Good: len(b)})
		spoil(b)
	}
}

// P1: an empty list and nil are the same value.
func TestWalEmptyIsNil(t *testing.T) {
	one, _ := impl.EntryRecord(impl.Rec{Term: 1, Index: 1})
	two, _ := impl.EntryRecord(impl.Rec{Term: 1, Index: 1, Data: []byte{}})
	if !bytes.Equal(one, two) {
		t.Error("EntryRecord of no Data", one, two)
	}
	for _, data := range [][]byte{nil, {}} {
		wantRoundTrip(t, impl.Wal{Log: []impl.Rec{{Term: 1, Index: 1, Data: data}}})
	}
}

// P1: no call panics, and every call ends, whatever it is given.
func TestWalNothingPanics(t *testing.T) {
	for _, a := range bounds {
		for _, b := range bounds {
			impl.VoteRecord(a, b)
			impl.BaseRecord(a, b)
			impl.EntryRecord(impl.Rec{Term: a, Index: b, Data: filled(3)})
			impl.WalOf(impl.Wal{Term: a, Vote: b, Base: b, BaseTerm: a, Good: a})
			impl.WalOf(impl.Wal{Base: a, Log: []impl.Rec{{Term: a, Index: b}, {Term: b, Index: a}}})
		}
	}
	r := rand.New(rand.NewSource(24))
	for range 20000 { // right sums around anything
		b := make([]byte, r.Intn(8))
		r.Read(b)
		if len(b) > 0 {
			b[0] = byte(r.Intn(5))
		}
		impl.Recover(slices.Concat(frameOf(t, b), b, frameOf(t, b)))
	}
}
