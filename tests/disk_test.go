package tests

import (
	"bytes"
	"math/rand"
	"slices"
	"testing"

	"loop.example/g00142/impl"
)

func write(data string) impl.DiskAct {
	return impl.DiskAct{Kind: impl.DkWrite, Data: []byte(data)}
}

func crash(keep, torn int) impl.DiskAct {
	return impl.DiskAct{Kind: impl.DkCrash, Keep: keep, Torn: torn}
}

func cut(keep int) impl.DiskAct { return impl.DiskAct{Kind: impl.DkCut, Keep: keep} }

var syncAct = impl.DiskAct{Kind: impl.DkSync}

func diskOf(synced string, pending ...string) impl.Disk {
	d := impl.Disk{Synced: []byte(synced)}
	for _, p := range pending {
		d.Pending = append(d.Pending, []byte(p))
	}
	return d
}

func sameDisk(a, b impl.Disk) bool {
	return bytes.Equal(a.Synced, b.Synced) && sameList(a.Pending, b.Pending)
}

// wantRun does acts that are all done, but for those whose code is given by place.
func wantRun(t *testing.T, acts []impl.DiskAct, want impl.Disk, faults map[int]int) {
	t.Helper()
	codes, d, code := impl.DiskRun(acts)
	if code != impl.OK || len(codes) != len(acts) {
		t.Fatalf("DiskRun of %d acts: %d codes, code %d", len(acts), len(codes), code)
	}
	for i := range codes {
		if codes[i] != faults[i] {
			t.Errorf("act %d of %d: code %d, want %d", i, len(acts), codes[i], faults[i])
		}
	}
	if !sameDisk(d, want) {
		t.Errorf("disk %q, want %q", d, want)
	}
}

func wantRunCode(t *testing.T, acts []impl.DiskAct, want int) {
	t.Helper()
	codes, d, code := impl.DiskRun(acts)
	if code != want || len(codes) != 0 || !sameDisk(d, impl.Disk{}) {
		t.Errorf("DiskRun of %d acts: %d codes, disk %q, code %d, want %d", len(acts), len(codes), d, code, want)
	}
}

func wantBytes(t *testing.T, d impl.Disk, want []byte, wantCode int) {
	t.Helper()
	b, code := impl.DiskBytes(d)
	if code != wantCode || !bytes.Equal(b, want) {
		t.Errorf("DiskBytes: %d bytes, code %d, want %d bytes, code %d", len(b), code, len(want), wantCode)
	}
}

func wantCrash(t *testing.T, d impl.Disk, keep, torn int, want string) {
	t.Helper()
	got, code := impl.DiskCrash(d, keep, torn)
	if code != impl.OK || string(got.Synced) != want || len(got.Pending) != 0 {
		t.Errorf("DiskCrash of %q, %d, %d: %q %d, want %q", d, keep, torn, got, code, want)
	}
}

func wantCrashCode(t *testing.T, d impl.Disk, keep, torn, want int) {
	t.Helper()
	got, code := impl.DiskCrash(d, keep, torn)
	if code != want || !sameDisk(got, impl.Disk{}) {
		t.Errorf("DiskCrash of %d writes, %d, %d: %q %d, want %d", len(d.Pending), keep, torn, got, code, want)
	}
}

func TestDiskConstants(t *testing.T) {
	if impl.MaxDisk != 8192 || impl.MaxActs != 200 {
		t.Error("bounds", impl.MaxDisk, impl.MaxActs)
	}
	if impl.DkWrite != 1 || impl.DkSync != 2 || impl.DkCrash != 3 || impl.DkCut != 4 {
		t.Error("kinds", impl.DkWrite, impl.DkSync, impl.DkCrash, impl.DkCut)
	}
}

func TestDiskRunOfNothing(t *testing.T) {
	wantRun(t, nil, impl.Disk{}, nil)
	wantRun(t, []impl.DiskAct{syncAct}, impl.Disk{}, nil)
	wantRun(t, []impl.DiskAct{crash(0, 0), crash(3, 3), crash(greatest, greatest)}, impl.Disk{}, nil)
	wantRun(t, []impl.DiskAct{cut(0)}, impl.Disk{}, nil)
	wantRun(t, []impl.DiskAct{cut(1), cut(-1)}, impl.Disk{}, map[int]int{0: impl.ErrRange, 1: impl.ErrRange})
}

func TestDiskWrite(t *testing.T) {
	wantRun(t, []impl.DiskAct{write("ab")}, diskOf("", "ab"), nil)
	wantRun(t, []impl.DiskAct{write("ab"), write("c"), write("def")}, diskOf("", "ab", "c", "def"), nil)
	wantRun(t, []impl.DiskAct{write("ab"), syncAct, write("c")}, diskOf("ab", "c"), nil)
	odd := write("ab")
	odd.Keep, odd.Torn = -1, -1
	wantRun(t, []impl.DiskAct{odd}, diskOf("", "ab"), nil)
}

// A write of no bytes is a write: a crash counts it.
func TestDiskWriteOfNothing(t *testing.T) {
	none := impl.DiskAct{Kind: impl.DkWrite}
	wantRun(t, []impl.DiskAct{none, write(""), write("a")}, diskOf("", "", "", "a"), nil)
	wantRun(t, []impl.DiskAct{write("ab"), none, write("cd"), crash(2, 1)}, diskOf("abc"), nil)
	wantRun(t, []impl.DiskAct{write("ab"), none, write("cd"), crash(1, 1)}, diskOf("ab"), nil)
}

func TestDiskWriteSize(t *testing.T) {
	full, over := string(filled(impl.MaxDisk)), string(filled(impl.MaxDisk+1))
	many := map[int]int{0: impl.ErrMany}
	wantRun(t, []impl.DiskAct{write(full)}, diskOf("", full), nil)
	wantRun(t, []impl.DiskAct{write(over)}, impl.Disk{}, many)
	wantRun(t, []impl.DiskAct{write(long(impl.MaxText + 1)), write("a")}, diskOf("", "a"), many)
	last := map[int]int{2: impl.ErrMany}
	wantRun(t, []impl.DiskAct{write(full), write(""), write("a")}, diskOf("", full, ""), last)
	wantRun(t, []impl.DiskAct{write(full), syncAct, write("a"), write("")}, diskOf(full, ""), last)
	wantRun(t, []impl.DiskAct{write(full[:8190]), syncAct, write("abc"), write("ab")}, diskOf(full[:8190], "ab"), last)
	wantRun(t, []impl.DiskAct{write(full[:8190]), write("a"), write("bc"), write("d"), write("e")},
		diskOf("", full[:8190], "a", "d"), map[int]int{2: impl.ErrMany, 4: impl.ErrMany})
}

// What a crash or a cut took leaves room for other writes.
func TestDiskRoom(t *testing.T) {
	full := string(filled(impl.MaxDisk))
	half := full[:impl.MaxDisk/2]
	wantRun(t, []impl.DiskAct{write(half), write(half), crash(1, 0), write(half)}, diskOf(half, half), nil)
	wantRun(t, []impl.DiskAct{write(full), syncAct, cut(0), write(full)}, diskOf("", full), nil)
	wantRun(t, []impl.DiskAct{write(full), crash(0, 1), write(full), write(full[1:])},
		diskOf(full[:1], full[1:]), map[int]int{2: impl.ErrMany})
}

func TestDiskSync(t *testing.T) {
	wantRun(t, []impl.DiskAct{write("ab"), write("c"), syncAct}, diskOf("abc"), nil)
	wantRun(t, []impl.DiskAct{write("ab"), syncAct, write("c"), syncAct, syncAct}, diskOf("abc"), nil)
	odd := impl.DiskAct{Kind: impl.DkSync, Keep: -1, Torn: -1, Data: []byte("zz")}
	wantRun(t, []impl.DiskAct{write("ab"), odd}, diskOf("ab"), nil)
}

// crashes are what is left of "ab" and the writes "cd", "", "efg" behind it.
var crashes = []struct {
	keep, torn int
	want       string
}{
	{0, 0, "ab"}, {0, 1, "abc"}, {0, 2, "abcd"}, {0, 3, "abcd"}, {0, greatest, "abcd"},
	{1, 0, "abcd"}, {1, 1, "abcd"}, {1, greatest, "abcd"},
	{2, 0, "abcd"}, {2, 1, "abcde"}, {2, 2, "abcdef"}, {2, 3, "abcdefg"}, {2, 4, "abcdefg"},
	{3, 0, "abcdefg"}, {3, 1, "abcdefg"}, {4, 0, "abcdefg"}, {4, 9, "abcdefg"},
	{greatest, 0, "abcdefg"}, {greatest, greatest, "abcdefg"},
}

func TestDiskCrashKeeps(t *testing.T) {
	begin := []impl.DiskAct{write("ab"), syncAct, write("cd"), write(""), write("efg")}
	for _, c := range crashes {
		wantRun(t, append(slices.Clone(begin), crash(c.keep, c.torn)), diskOf(c.want), nil)
		wantRun(t, append(slices.Clone(begin), crash(c.keep, c.torn), write("x")), diskOf(c.want, "x"), nil)
		wantRun(t, append(slices.Clone(begin), crash(c.keep, c.torn), write("x"), crash(0, 0)), diskOf(c.want), nil)
		wantCrash(t, diskOf("ab", "cd", "", "efg"), c.keep, c.torn, c.want)
	}
	wantCrash(t, diskOf("", "xy"), 0, 1, "x")
	wantCrash(t, diskOf("ab"), 0, 5, "ab")
	wantCrash(t, impl.Disk{}, 0, 0, "")
	wantCrash(t, impl.Disk{}, greatest, greatest, "")
}

func TestDiskCrashRange(t *testing.T) {
	d := diskOf("ab", "cd")
	for _, c := range [][2]int{{-1, 0}, {0, -1}, {-1, -1}, {least, 1}, {1, least}, {5, -1}, {-1, 5}} {
		acts := []impl.DiskAct{write("ab"), syncAct, write("cd"), crash(c[0], c[1])}
		wantRun(t, acts, d, map[int]int{3: impl.ErrRange})
		wantCrashCode(t, d, c[0], c[1], impl.ErrRange)
		wantCrashCode(t, impl.Disk{}, c[0], c[1], impl.ErrRange)
	}
}

func TestDiskCut(t *testing.T) {
	begin := []impl.DiskAct{write("ab"), syncAct, write("cd"), write("ef")}
	for keep := 0; keep <= 6; keep++ {
		want := "abcdef"[:keep]
		wantRun(t, append(slices.Clone(begin), cut(keep)), diskOf(want), nil)
		wantRun(t, append(slices.Clone(begin), cut(keep), crash(0, 0)), diskOf(want), nil)
		wantRun(t, append(slices.Clone(begin), cut(keep), write("x"), write("y")), diskOf(want, "x", "y"), nil)
	}
	for _, keep := range []int{7, 8, greatest, -1, -2, least} {
		wantRun(t, append(slices.Clone(begin), cut(keep)), diskOf("ab", "cd", "ef"), map[int]int{4: impl.ErrRange})
	}
	odd := cut(1)
	odd.Torn, odd.Data = -1, []byte("zz")
	wantRun(t, append(slices.Clone(begin), odd), diskOf("a"), nil)
	full := string(filled(impl.MaxDisk))
	wantRun(t, []impl.DiskAct{write(full), cut(impl.MaxDisk + 1)}, diskOf("", full), map[int]int{1: impl.ErrRange})
	wantRun(t, []impl.DiskAct{write(full), cut(impl.MaxDisk)}, diskOf(full), nil)
}

func TestDiskForm(t *testing.T) {
	for _, kind := range []int{0, 5, 9, -1, least, greatest} {
		odd := impl.DiskAct{Kind: kind, Keep: -1, Torn: -1, Data: []byte("zz")}
		wantRun(t, []impl.DiskAct{write("ab"), syncAct, write("cd"), odd}, diskOf("ab", "cd"), map[int]int{3: impl.ErrForm})
	}
}

func TestDiskRunActs(t *testing.T) {
	var acts []impl.DiskAct
	var want []string
	for i := range impl.MaxActs {
		want = append(want, string(filled(i%41)))
		acts = append(acts, write(want[i]))
	}
	wantRun(t, acts, diskOf("", want...), nil)
	wantRunCode(t, append(acts, write("")), impl.ErrMany)
	wantRunCode(t, make([]impl.DiskAct, impl.MaxActs+1), impl.ErrMany)
	wantRunCode(t, make([]impl.DiskAct, impl.MaxList), impl.ErrMany)
	wantRunCode(t, make([]impl.DiskAct, impl.MaxList+1), impl.ErrLong)
}

func TestDiskBytes(t *testing.T) {
	wantBytes(t, impl.Disk{}, nil, impl.OK)
	wantBytes(t, diskOf("ab"), []byte("ab"), impl.OK)
	wantBytes(t, diskOf("", "ab", "", "c"), []byte("abc"), impl.OK)
	wantBytes(t, diskOf("ab", "cd", "e"), []byte("abcde"), impl.OK)
}

// wrongDisks have a write or a byte too many; rightDisks have just as many as there may be.
func wrongDisks() []impl.Disk {
	full := string(filled(impl.MaxDisk))
	return []impl.Disk{
		diskOf(full + "a"), diskOf(full, "a"), diskOf("", full+"a"), diskOf("a", full), diskOf(full[1:], "", "a", "", "b"),
		diskOf(long(impl.MaxText + 1)), diskOf("", long(impl.MaxText+1)), diskOf(full, full),
		{Pending: make([][]byte, impl.MaxActs+1)}, {Pending: make([][]byte, impl.MaxList+1)},
		{Synced: []byte("a"), Pending: make([][]byte, impl.MaxActs+1)},
	}
}

func rightDisks() []impl.Disk {
	full := string(filled(impl.MaxDisk))
	d := diskOf("")
	for i := range impl.MaxActs {
		d.Pending = append(d.Pending, filled(40+i%2))
	}
	size := 40*impl.MaxActs + impl.MaxActs/2
	d.Synced = filled(impl.MaxDisk - size)
	return []impl.Disk{
		{}, diskOf(full), diskOf("", full), diskOf(full, "", ""), diskOf(full[:1], full[1:]), diskOf(full[2:], "a", "", "b"),
		{Pending: make([][]byte, impl.MaxActs)}, {Synced: []byte("a"), Pending: make([][]byte, impl.MaxActs)}, d,
		diskOf("ab", "cd", "", "efg"),
	}
}

func TestDiskRight(t *testing.T) {
	for _, d := range rightDisks() {
		all := append(slices.Clone(d.Synced), bytes.Join(d.Pending, nil)...)
		wantBytes(t, d, all, impl.OK)
		wantCrash(t, d, len(d.Pending), 0, string(all))
		wantCrash(t, d, 0, 0, string(d.Synced))
	}
	for _, d := range wrongDisks() {
		wantBytes(t, d, nil, impl.ErrBad)
		for _, c := range [][2]int{{0, 0}, {1, 1}, {-1, 0}, {0, -1}, {greatest, greatest}, {least, least}} {
			wantCrashCode(t, d, c[0], c[1], impl.ErrBad) // ahead of ErrRange
		}
	}
}

// doPlainly does an act by the words of the chapter, on lists of bytes of its own.
func doPlainly(d impl.Disk, act impl.DiskAct) (impl.Disk, int) {
	all := append(slices.Clone(d.Synced), bytes.Join(d.Pending, nil)...)
	switch {
	case act.Kind < impl.DkWrite || act.Kind > impl.DkCut:
		return d, impl.ErrForm
	case act.Kind == impl.DkWrite && len(all)+len(act.Data) > impl.MaxDisk:
		return d, impl.ErrMany
	case act.Kind == impl.DkWrite:
		return impl.Disk{Synced: d.Synced, Pending: append(slices.Clone(d.Pending), act.Data)}, impl.OK
	case act.Kind == impl.DkSync:
		return impl.Disk{Synced: all}, impl.OK
	case act.Kind == impl.DkCut && (act.Keep < 0 || act.Keep > len(all)):
		return d, impl.ErrRange
	case act.Kind == impl.DkCut:
		return impl.Disk{Synced: all[:act.Keep]}, impl.OK
	case act.Keep < 0 || act.Torn < 0:
		return d, impl.ErrRange
	}
	left := slices.Clone(d.Synced)
	for i, w := range d.Pending {
		if i < act.Keep {
			left = append(left, w...)
		} else if i == act.Keep {
			left = append(left, w[:min(len(w), act.Torn)]...)
		}
	}
	return impl.Disk{Synced: left}, impl.OK
}

func randomActs(r *rand.Rand, size, bytesEach int) []impl.DiskAct {
	acts := make([]impl.DiskAct, size)
	for i := range acts {
		acts[i] = impl.DiskAct{Kind: []int{1, 1, 1, 1, 1, 2, 3, 4, 5, 0}[r.Intn(10)], Keep: r.Intn(8) - 1, Torn: r.Intn(6) - 1}
		acts[i].Data = make([]byte, r.Intn(bytesEach))
		r.Read(acts[i].Data)
		if acts[i].Kind == impl.DkCut {
			acts[i].Keep = r.Intn(4*bytesEach) - 1
		}
	}
	return acts
}

func TestDiskRunAtRandom(t *testing.T) {
	r := rand.New(rand.NewSource(11))
	for turn := range 400 {
		acts := randomActs(r, r.Intn(impl.MaxActs+1), []int{4, 30, 900}[turn%3])
		var want impl.Disk
		faults := map[int]int{}
		for i, act := range acts {
			want, faults[i] = doPlainly(want, act)
		}
		wantRun(t, acts, want, faults)
	}
}

// A crash is the same in a run and of a disk, and a disk's bytes are those a sync would keep.
func TestDiskCallsAgree(t *testing.T) {
	r := rand.New(rand.NewSource(12))
	for range 300 {
		acts := randomActs(r, r.Intn(40), 20)
		_, d, _ := impl.DiskRun(acts)
		_, synced, _ := impl.DiskRun(append(slices.Clone(acts), syncAct))
		wantBytes(t, d, synced.Synced, impl.OK)
		keep, torn := r.Intn(10), r.Intn(20)
		_, crashed, _ := impl.DiskRun(append(slices.Clone(acts), crash(keep, torn)))
		wantCrash(t, d, keep, torn, string(crashed.Synced))
	}
}

// P3: what was synced is never lost: whatever is written, synced or crashes
// behind it, the bytes synced so far stay at the beginning.
func TestSyncedIsNeverLost(t *testing.T) {
	r := rand.New(rand.NewSource(13))
	for range 200 {
		acts := slices.DeleteFunc(randomActs(r, 60, 40), func(a impl.DiskAct) bool { return a.Kind == impl.DkCut })
		var synced []byte
		for size := range len(acts) + 1 {
			_, d, code := impl.DiskRun(acts[:size])
			if code != impl.OK || !bytes.HasPrefix(d.Synced, synced) {
				t.Fatalf("act %d lost what was synced (code %d)", size-1, code)
			}
			if after, _ := impl.DiskCrash(d, r.Intn(5), r.Intn(5)); !bytes.HasPrefix(after.Synced, d.Synced) {
				t.Fatalf("a crash behind act %d lost what was synced", size-1)
			}
			if size > 0 && acts[size-1].Kind == impl.DkSync && len(d.Pending) != 0 {
				t.Fatalf("act %d did not sync all", size-1)
			}
			synced = d.Synced
		}
	}
}
