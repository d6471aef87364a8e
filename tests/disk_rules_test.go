package tests

import (
	"bytes"
	"math/rand"
	"slices"
	"testing"

	"loop.example/g00142/impl"
)

// guardedDisk is a disk whose bytes, and whose list of writes, have room behind their end.
type guardedDisk struct {
	d       impl.Disk
	parts   []guarded
	writes  [][]byte // the list with the room behind it
	pending int
}

func guardDisk(d impl.Disk) guardedDisk {
	g := guardedDisk{parts: []guarded{guard(d.Synced)}, pending: len(d.Pending)}
	for _, p := range d.Pending {
		g.parts = append(g.parts, guard(p))
	}
	for _, part := range g.parts[1:] {
		g.writes = append(g.writes, part.arg())
	}
	g.writes = append(g.writes, []byte{mark}, []byte{mark})
	g.d = impl.Disk{Synced: g.parts[0].arg(), Pending: g.writes[:g.pending]}
	return g
}

func (g guardedDisk) same() bool {
	for i, part := range g.parts {
		if !part.same() || i > 0 && (len(g.writes[i-1]) != part.size || &g.writes[i-1][:1][0] != &part.all[0]) {
			return false
		}
	}
	behind := g.writes[g.pending:]
	return len(behind) == 2 && bytes.Equal(behind[0], []byte{mark}) && bytes.Equal(behind[1], []byte{mark})
}

func spoilDisk(d impl.Disk) {
	spoil(d.Synced)
	for _, p := range d.Pending {
		spoil(p)
	}
	all := d.Pending[:cap(d.Pending)]
	for i := range all {
		all[i] = []byte{mark, mark, mark}
	}
}

// P1: the disk of an argument stays, and no answer shares memory with it.
func TestDiskArgumentStays(t *testing.T) {
	for _, d := range append(rightDisks(), wrongDisks()...) {
		for _, c := range [][2]int{{0, 0}, {1, 1}, {2, 2}, {greatest, greatest}, {-1, 0}} {
			g := guardDisk(d)
			b, _ := impl.DiskBytes(g.d)
			left, _ := impl.DiskCrash(g.d, c[0], c[1])
			if !g.same() {
				t.Fatalf("a disk of %d writes was changed", len(d.Pending))
			}
			spoil(b)
			spoilDisk(left)
			if !g.same() {
				t.Fatalf("an answer shares memory with a disk of %d writes", len(d.Pending))
			}
		}
	}
}

// P1: the acts of an argument stay, and no answer shares memory with them.
func TestDiskActsStay(t *testing.T) {
	r := rand.New(rand.NewSource(14))
	for turn := range 100 {
		acts := randomActs(r, turn*2, 30)
		for i := range acts {
			if turn%3 > 0 { // writes that all stay, as they came or synced
				acts[i].Kind = impl.DkWrite
			}
		}
		if turn%3 == 2 {
			acts[len(acts)-1].Kind = impl.DkSync
		}
		room := append(slices.Clone(acts), impl.DiskAct{Kind: mark}, impl.DiskAct{Kind: mark})
		var parts []guarded
		for i := range acts {
			parts = append(parts, guard(acts[i].Data))
			room[i].Data = parts[i].arg()
		}
		codes, d, _ := impl.DiskRun(room[:len(acts)])
		spoilDisk(d)
		for i := range codes {
			codes[i] = mark
		}
		for i, act := range acts {
			got := room[i]
			if !parts[i].same() || got.Kind != act.Kind || got.Keep != act.Keep || got.Torn != act.Torn || !bytes.Equal(got.Data, act.Data) {
				t.Fatalf("act %d of %d was changed", i, len(acts))
			}
		}
		if room[len(acts)].Kind != mark || room[len(acts)+1].Kind != mark {
			t.Fatal("something was written behind the acts")
		}
	}
}

// P1: no two lists of an answer share memory, not even behind their ends.
func TestDiskListsShareNothing(t *testing.T) {
	acts := []impl.DiskAct{write("ab"), syncAct, write("cd"), write(""), write("efg"), write("h")}
	cutBack := append(slices.Clone(acts), cut(4), write("ij"), write("k"))
	crashed := append(slices.Clone(acts), crash(1, 1), write("ij"), write("k"))
	for _, run := range [][]impl.DiskAct{acts, cutBack, crashed} {
		_, d, _ := impl.DiskRun(run)
		lists := append([][]byte{d.Synced}, d.Pending...)
		was := copyList(lists)
		for i := range lists {
			spoil(lists[i])
			_ = append(lists[i], mark, mark, mark)
			for k := range lists {
				if k != i && !bytes.Equal(lists[k], was[k]) {
					t.Fatalf("lists %d and %d share memory", i, k)
				}
			}
			spoil(lists[i])
		}
	}
}

// P1: two answers to alike arguments share nothing either.
func TestDiskKeepsNothing(t *testing.T) {
	acts := []impl.DiskAct{write("ab"), syncAct, write("cd"), write("efg")}
	for range 3 {
		wantRun(t, acts, diskOf("ab", "cd", "efg"), nil)
		codes, d, _ := impl.DiskRun(acts)
		spoilDisk(d)
		codes[0] = mark
		wantCrash(t, diskOf("ab", "cd", "efg"), 1, 2, "abcdef")
		left, _ := impl.DiskCrash(diskOf("ab", "cd", "efg"), 1, 2)
		spoilDisk(left)
		b, _ := impl.DiskBytes(diskOf("ab", "cd", "efg"))
		spoil(b)
		wantBytes(t, diskOf("ab", "cd", "efg"), []byte("abcdefg"), impl.OK)
	}
}

// P1: alike arguments have alike answers, also at other addresses and capacities; empty is nil.
func TestDiskAnswersHangOnArgumentsAlone(t *testing.T) {
	for _, d := range append(rightDisks(), wrongDisks()...) {
		other := guardDisk(d).d
		b, code := impl.DiskBytes(d)
		wantBytes(t, other, b, code)
		for keep := range 4 {
			left, code := impl.DiskCrash(d, keep, 3-keep)
			again, codeAgain := impl.DiskCrash(other, keep, 3-keep)
			if code != codeAgain || !sameDisk(left, again) {
				t.Errorf("DiskCrash of %d writes changed", len(d.Pending))
			}
		}
	}
	empty := impl.Disk{Synced: []byte{}, Pending: [][]byte{}}
	wantBytes(t, empty, nil, impl.OK)
	wantCrash(t, empty, 1, 1, "")
	wantBytes(t, impl.Disk{Pending: [][]byte{{}, nil}}, nil, impl.OK)
	wantRun(t, []impl.DiskAct{}, impl.Disk{}, nil)
	wantRun(t, []impl.DiskAct{{Kind: impl.DkWrite, Data: []byte{}}, {Kind: impl.DkWrite}}, diskOf("", "", ""), nil)
}

// P1: no call panics, whatever it is given.
func TestDiskNothingPanics(t *testing.T) {
	ints := []int{least, -2, -1, 0, 1, 2, 199, 200, 201, impl.MaxDisk, impl.MaxDisk + 1, greatest}
	for _, kind := range append(ints, impl.DkCrash, impl.DkCut) {
		for _, keep := range ints {
			for _, torn := range ints {
				odd := impl.DiskAct{Kind: kind, Keep: keep, Torn: torn, Data: filled(9)}
				impl.DiskRun([]impl.DiskAct{odd, write("ab"), odd, syncAct, write("cd"), odd, odd})
				impl.DiskCrash(diskOf("ab", "cd", ""), keep, torn)
			}
		}
	}
}
