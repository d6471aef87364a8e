package tests

import (
	"bytes"
	"crypto/sha256"
	"encoding/hex"
	"math/rand"
	"slices"
	"strconv"
	"strings"
	"testing"

	"loop.example/g00142/impl"
)

func put(data string) impl.BlobAct { return impl.BlobAct{Kind: impl.BlPut, Data: []byte(data)} }

func dropKey(key string) impl.BlobAct { return impl.BlobAct{Kind: impl.BlDrop, Key: key} }

func drop(data string) impl.BlobAct { return dropKey(keyOf(data)) }

var sweep = impl.BlobAct{Kind: impl.BlSweep}

// keyOf is a blob's key by the library's hash, not by the program's.
func keyOf(data string) string {
	sum := sha256.Sum256([]byte(data))
	return hex.EncodeToString(sum[:])
}

func blob(refs int, data string) impl.Blob {
	return impl.Blob{Key: keyOf(data), Refs: refs, Data: []byte(data)}
}

func sameBlobs(a, b []impl.Blob) bool {
	return slices.EqualFunc(a, b, func(x, y impl.Blob) bool {
		return x.Key == y.Key && x.Refs == y.Refs && bytes.Equal(x.Data, y.Data)
	})
}

// wantBlobs does acts that are all done, but for those whose code is given by place.
func wantBlobs(t *testing.T, acts []impl.BlobAct, faults map[int]int, want ...impl.Blob) {
	t.Helper()
	codes, list, code := impl.BlobRun(acts)
	if code != impl.OK || len(codes) != len(acts) {
		t.Fatalf("BlobRun of %d acts: %d codes, code %d", len(acts), len(codes), code)
	}
	for i := range codes {
		if codes[i] != faults[i] {
			t.Errorf("act %d of %d: code %d, want %d", i, len(acts), codes[i], faults[i])
		}
	}
	if !sameBlobs(list, want) {
		t.Errorf("blobs %v, want %v", list, want)
	}
}

func wantBlobsCode(t *testing.T, acts []impl.BlobAct, want int) {
	t.Helper()
	codes, list, code := impl.BlobRun(acts)
	if code != want || len(codes) != 0 || len(list) != 0 {
		t.Errorf("BlobRun of %d acts: %d codes, %d blobs, code %d, want %d", len(acts), len(codes), len(list), code, want)
	}
}

func wantGet(t *testing.T, list []impl.Blob, key, want string) {
	t.Helper()
	if b, code := impl.BlobGet(list, key); code != impl.OK || string(b) != want {
		t.Errorf("BlobGet of %d blobs: %d bytes, code %d, want %d bytes", len(list), len(b), code, len(want))
	}
}

func wantGetCode(t *testing.T, list []impl.Blob, key string, want int) {
	t.Helper()
	if b, code := impl.BlobGet(list, key); code != want || len(b) != 0 {
		t.Errorf("BlobGet of %d blobs, key of %d bytes: %d bytes, code %d, want %d", len(list), len(key), len(b), code, want)
	}
}

func TestBlobConstants(t *testing.T) {
	if impl.MaxBlobs != 60 || impl.MaxBlob != 2000 {
		t.Error("bounds", impl.MaxBlobs, impl.MaxBlob)
	}
	if impl.BlPut != 1 || impl.BlDrop != 2 || impl.BlSweep != 3 {
		t.Error("kinds", impl.BlPut, impl.BlDrop, impl.BlSweep)
	}
}

// The padding has its edges at 55 and 56 bytes of the last block, and at whole blocks.
func TestShaKnown(t *testing.T) {
	for _, c := range []struct {
		data []byte
		want string
	}{
		{nil, "e3b0c44298fc1c149afbf4c8996fb92427ae41e4649b934ca495991b7852b855"},
		{[]byte{}, "e3b0c44298fc1c149afbf4c8996fb92427ae41e4649b934ca495991b7852b855"},
		{[]byte{0}, "6e340b9cffb37a989ca544e6bb780a2c78901d3fb33738768511a30617afa01d"},
		{[]byte("abc"), "ba7816bf8f01cfea414140de5dae2223b00361a396177a9cb410ff61f20015ad"},
		{[]byte("abcdbcdecdefdefgefghfghighijhijkijkljklmklmnlmnomnopnopq"), "248d6a61d20638b8e5c026930c3e6039a33ce45964ff2167f6ecedd419db06c1"},
		{[]byte(long(55)), "9f4390f8d30c2dd92ec9f095b65e2b9ae9b0a925a5258e241c9f1e910f734318"},
		{[]byte(long(56)), "b35439a4ac6f0948b6d6f9e3c6af0f5f590ce20f1bde7090ef7970686ec6738a"},
		{[]byte(long(63)), "7d3e74a05d7db15bce4ad9ec0658ea98e3f06eeecf16b4c6fff2da457ddc2f34"},
		{[]byte(long(64)), "ffe054fe7ae0cb6dc65c3af9b61d5209f439851db43d0ba5997337df154668eb"},
		{[]byte(long(119)), "31eba51c313a5c08226adf18d4a359cfdfd8d2e816b13f4af952f7ea6584dcfb"},
		{[]byte(long(120)), "2f3d335432c70b580af0e8e1b3674a7c020d683aa5f73aaaedfdc55af904c21c"},
		{[]byte(long(impl.MaxText)), "bf718b6f653bebc184e1479f1935b8da974d701b893afcf49e701f3e2f9f9c5a"},
		{filled(impl.MaxText), "568f12ba93e8dab920795c710afd644df68be7132c0e49e8bb72270d8339bc40"},
	} {
		if got := impl.Sha(c.data); got != c.want {
			t.Errorf("Sha of %d bytes: %s, want %s", len(c.data), got, c.want)
		}
	}
}

func TestShaOfEachSize(t *testing.T) {
	sizes := []int{511, 512, 1999, 2000, 2001, 4095, 8191, 8192, 8193, 65471, 65472, 65527, 65528, 65535, 65536}
	for size := range 400 {
		sizes = append(sizes, size)
	}
	r := rand.New(rand.NewSource(31))
	for _, size := range sizes {
		random := make([]byte, size)
		r.Read(random)
		for _, b := range [][]byte{filled(size), make([]byte, size), bytes.Repeat([]byte{255}, size), random} {
			if got := impl.Sha(b); got != keyOf(string(b)) {
				t.Errorf("Sha of %d bytes: %s", size, got)
			}
		}
	}
}

func TestShaTooLong(t *testing.T) {
	for _, size := range []int{impl.MaxText + 1, impl.MaxText + 64, 3 * impl.MaxText} {
		if got := impl.Sha(filled(size)); got != "" {
			t.Errorf("Sha of %d bytes: %s", size, got)
		}
	}
}

func TestBlobPut(t *testing.T) {
	wantBlobs(t, nil, nil)
	wantBlobs(t, []impl.BlobAct{put("a")}, nil, blob(1, "a"))
	wantBlobs(t, []impl.BlobAct{put("b"), put("a"), put("")}, nil, blob(1, "b"), blob(1, "a"), blob(1, ""))
	wantBlobs(t, []impl.BlobAct{put("b"), put("a"), put("b"), put("b")}, nil, blob(3, "b"), blob(1, "a"))
	odd := put("a")
	odd.Key = keyOf("b") // a put does not look at it
	wantBlobs(t, []impl.BlobAct{put("b"), odd}, nil, blob(1, "b"), blob(1, "a"))
	wantBlobs(t, []impl.BlobAct{{Kind: impl.BlPut}, put("")}, nil, blob(2, ""))
}

// A blob without Refs is there until a sweep: a put finds it where it stood.
func TestBlobPutAgain(t *testing.T) {
	wantBlobs(t, []impl.BlobAct{put("a"), put("b"), drop("a"), put("a")}, nil, blob(1, "a"), blob(1, "b"))
	wantBlobs(t, []impl.BlobAct{put("a"), put("b"), drop("a"), sweep, put("a")}, nil, blob(1, "b"), blob(1, "a"))
}

func TestBlobPutSize(t *testing.T) {
	full, over := string(filled(impl.MaxBlob)), string(filled(impl.MaxBlob+1))
	size := map[int]int{1: impl.ErrSize}
	wantBlobs(t, []impl.BlobAct{put("a"), put(full), put(full)}, nil, blob(1, "a"), blob(2, full))
	wantBlobs(t, []impl.BlobAct{put("a"), put(over), put("b")}, size, blob(1, "a"), blob(1, "b"))
	wantBlobs(t, []impl.BlobAct{put("a"), put(long(impl.MaxText + 1)), put("a")}, size, blob(2, "a"))
}

// sixty is puts of MaxBlobs different texts, and the blobs they make.
func sixty() ([]impl.BlobAct, []impl.Blob) {
	var acts []impl.BlobAct
	var list []impl.Blob
	for i := range impl.MaxBlobs {
		acts = append(acts, put(strconv.Itoa(i)))
		list = append(list, blob(1, strconv.Itoa(i)))
	}
	return acts, list
}

func TestBlobPutMany(t *testing.T) {
	acts, list := sixty()
	many := map[int]int{impl.MaxBlobs: impl.ErrMany}
	wantBlobs(t, acts, nil, list...)
	wantBlobs(t, append(slices.Clone(acts), put("x")), many, list...)
	over := string(filled(impl.MaxBlob + 1))
	wantBlobs(t, append(slices.Clone(acts), put(over)), map[int]int{impl.MaxBlobs: impl.ErrSize}, list...)
	twice := slices.Clone(list)
	twice[59].Refs = 2
	wantBlobs(t, append(slices.Clone(acts), put("59")), nil, twice...)
	wantBlobs(t, append(slices.Clone(acts), put("x"), put("59")), many, twice...)
	wantBlobs(t, append(slices.Clone(acts), drop("3"), put("3")), nil, list...)
	none := slices.Clone(list)
	none[3].Refs = 0 // it still is one of them
	wantBlobs(t, append(slices.Clone(acts), drop("3"), put("x")), map[int]int{61: impl.ErrMany}, none...)
	rest := append(slices.Delete(slices.Clone(list), 3, 4), blob(1, "x"))
	wantBlobs(t, append(slices.Clone(acts), drop("3"), sweep, put("x"), put("y")), map[int]int{63: impl.ErrMany}, rest...)
}

func TestBlobDrop(t *testing.T) {
	wantBlobs(t, []impl.BlobAct{put("a"), put("a"), drop("a")}, nil, blob(1, "a"))
	wantBlobs(t, []impl.BlobAct{put("a"), put("b"), drop("b")}, nil, blob(1, "a"), blob(0, "b"))
	none := map[int]int{2: impl.ErrNone}
	wantBlobs(t, []impl.BlobAct{put("a"), drop("a"), drop("a")}, none, blob(0, "a"))
	wantBlobs(t, []impl.BlobAct{put("a"), drop("a"), drop("a"), put("a")}, none, blob(1, "a"))
	wantBlobs(t, []impl.BlobAct{put("a"), put("b"), drop("c")}, none, blob(1, "a"), blob(1, "b"))
	wantBlobs(t, []impl.BlobAct{drop("a")}, map[int]int{0: impl.ErrNone})
	wantBlobs(t, []impl.BlobAct{put("a"), drop("a"), sweep, drop("a")}, map[int]int{3: impl.ErrNone})
	odd := drop("a")
	odd.Data = []byte("b") // a drop does not look at it
	wantBlobs(t, []impl.BlobAct{put("a"), put("b"), odd}, nil, blob(0, "a"), blob(1, "b"))
}

// Keys that are near one, but are none.
func wrongKeys() []string {
	k := keyOf("a")
	return []string{
		"", "a", k[:63], k + "0", k[:62], k + k, strings.ToUpper(k), " " + k[1:], k[:63] + "g", k[:63] + "/", k[:63] + ":",
		k[:63] + "`", k[:63] + "\x00", "g" + k[1:], k[:10] + "A" + k[11:], long(impl.MaxText), strings.Repeat("0", 64),
		k[:63] + string(k[63]^1), string(k[0]^1) + k[1:], strings.Repeat("g", 64),
	}
}

// A drop holds its Key against whole keys; a text of noughts is one of none.
func TestBlobDropOfNoKey(t *testing.T) {
	for _, key := range append(wrongKeys(), long(impl.MaxText+1)) {
		wantBlobs(t, []impl.BlobAct{put("a"), dropKey(key)}, map[int]int{1: impl.ErrNone}, blob(1, "a"))
	}
}

// One byte of a key changed makes it another text, whatever digit it might be taken for.
func TestBlobDropOfKeyChanged(t *testing.T) {
	for _, data := range []string{"a", "b", ""} {
		key := keyOf(data)
		for c := range 256 {
			acts, faults := []impl.BlobAct{put(data)}, map[int]int{}
			for i := range key {
				if key[i] != byte(c) {
					faults[len(acts)] = impl.ErrNone
					acts = append(acts, dropKey(key[:i]+string([]byte{byte(c)})+key[i+1:]))
				}
			}
			wantBlobs(t, acts, faults, blob(1, data))
		}
	}
}

func TestBlobSweep(t *testing.T) {
	wantBlobs(t, []impl.BlobAct{sweep}, nil)
	wantBlobs(t, []impl.BlobAct{put("a"), put("b"), sweep}, nil, blob(1, "a"), blob(1, "b"))
	wantBlobs(t, []impl.BlobAct{put("a"), drop("a"), sweep, sweep}, nil)
	begin := []impl.BlobAct{put("e"), put("d"), put("c"), put("b"), put("a"), put("c")}
	some := append(slices.Clone(begin), drop("d"), drop("c"), drop("b"), sweep)
	wantBlobs(t, some, nil, blob(1, "e"), blob(1, "c"), blob(1, "a"))
	wantBlobs(t, append(slices.Clone(some), put("d"), put("a")), nil, blob(1, "e"), blob(1, "c"), blob(2, "a"), blob(1, "d"))
	ends := append(slices.Clone(begin), drop("e"), drop("a"), sweep)
	wantBlobs(t, ends, nil, blob(1, "d"), blob(2, "c"), blob(1, "b"))
	all := append(slices.Clone(begin), drop("e"), drop("d"), drop("c"), drop("b"), drop("a"), drop("c"), sweep)
	wantBlobs(t, all, nil)
	wantBlobs(t, append(slices.Clone(all), put("a"), put("b")), nil, blob(1, "a"), blob(1, "b"))
	odd := impl.BlobAct{Kind: impl.BlSweep, Data: []byte("a"), Key: keyOf("a")}
	wantBlobs(t, []impl.BlobAct{put("a"), odd}, nil, blob(1, "a"))
}

func TestBlobForm(t *testing.T) {
	for _, kind := range []int{0, 4, 9, -1, least, greatest} {
		odd := impl.BlobAct{Kind: kind, Data: filled(impl.MaxBlob + 1), Key: keyOf("a")}
		acts := []impl.BlobAct{put("a"), put("b"), drop("b"), odd}
		wantBlobs(t, acts, map[int]int{3: impl.ErrForm}, blob(1, "a"), blob(0, "b"))
	}
}

func TestBlobRunActs(t *testing.T) {
	acts := make([]impl.BlobAct, impl.MaxActs)
	for i := range acts {
		acts[i] = put("a")
	}
	wantBlobs(t, acts, nil, blob(impl.MaxActs, "a"))
	wantBlobsCode(t, append(acts, put("a")), impl.ErrMany)
	wantBlobsCode(t, make([]impl.BlobAct, impl.MaxActs+1), impl.ErrMany)
	wantBlobsCode(t, make([]impl.BlobAct, impl.MaxList), impl.ErrMany)
	wantBlobsCode(t, make([]impl.BlobAct, impl.MaxList+1), impl.ErrLong)
}

func TestBlobGet(t *testing.T) {
	list := []impl.Blob{blob(1, "a"), blob(7, "b"), blob(greatest, ""), blob(1, string(filled(impl.MaxText)))}
	for _, b := range list {
		wantGet(t, list, b.Key, string(b.Data))
	}
	wantGetCode(t, nil, keyOf("a"), impl.ErrNone)
	wantGetCode(t, list, keyOf("c"), impl.ErrNone)
	for _, key := range wrongKeys() {
		wantGetCode(t, list, key, impl.ErrNone)
	}
	for _, refs := range []int{0, -1, least} {
		wantGetCode(t, []impl.Blob{blob(refs, "a")}, keyOf("a"), impl.ErrNone)
	}
}

func TestBlobGetSum(t *testing.T) {
	other := impl.Blob{Key: keyOf("a"), Refs: 1, Data: []byte("b")}
	wantGetCode(t, []impl.Blob{blob(1, "b"), other}, keyOf("a"), impl.ErrSum)
	wantGet(t, []impl.Blob{other, blob(1, "b")}, keyOf("b"), "b") // a wrong one that was not asked for
	for _, key := range wrongKeys() {
		wantGetCode(t, []impl.Blob{{Key: key, Refs: 1, Data: []byte("a")}}, key, impl.ErrSum)
	}
	wantGetCode(t, []impl.Blob{{Key: keyOf("a"), Refs: 1}}, keyOf("a"), impl.ErrSum)
	wantGetCode(t, []impl.Blob{{Key: keyOf("a"), Refs: 1, Data: filled(impl.MaxText + 1)}}, keyOf("a"), impl.ErrSum)
	other.Refs = 0
	wantGetCode(t, []impl.Blob{other}, keyOf("a"), impl.ErrNone) // ahead of ErrSum
}

// The first of a key counts, whatever stands behind it.
func TestBlobGetFirst(t *testing.T) {
	none, wrong := blob(0, "a"), impl.Blob{Key: keyOf("a"), Refs: 1, Data: []byte("b")}
	right := blob(1, "a")
	wantGet(t, []impl.Blob{blob(1, "b"), right, none}, right.Key, "a")
	wantGet(t, []impl.Blob{right, wrong}, right.Key, "a")
	wantGetCode(t, []impl.Blob{none, right}, right.Key, impl.ErrNone)
	wantGetCode(t, []impl.Blob{none, wrong}, right.Key, impl.ErrNone)
	wantGetCode(t, []impl.Blob{wrong, right}, right.Key, impl.ErrSum)
	wantGetCode(t, []impl.Blob{wrong, none}, right.Key, impl.ErrSum)
}

func TestBlobGetLong(t *testing.T) {
	full := make([]impl.Blob, impl.MaxList)
	full[impl.MaxList-1] = blob(1, "a")
	wantGet(t, full, keyOf("a"), "a")
	over := append([]impl.Blob{blob(1, "a")}, full...)
	wantGetCode(t, over, keyOf("a"), impl.ErrLong)
	wantGetCode(t, over, "", impl.ErrLong)
	wantGetCode(t, nil, long(impl.MaxText), impl.ErrNone)
	wantGetCode(t, nil, long(impl.MaxText+1), impl.ErrLong)
	wantGetCode(t, []impl.Blob{{Key: long(impl.MaxText + 1), Refs: 1}}, long(impl.MaxText+1), impl.ErrLong)
}

// actPlainly does an act by the words of the chapter, on a list.
func actPlainly(list []impl.Blob, act impl.BlobAct) ([]impl.Blob, int) {
	key := act.Key
	if act.Kind == impl.BlPut {
		key = keyOf(string(act.Data))
	}
	at := slices.IndexFunc(list, func(b impl.Blob) bool { return b.Key == key })
	next := slices.Clone(list)
	switch {
	case act.Kind < impl.BlPut || act.Kind > impl.BlSweep:
		return list, impl.ErrForm
	case act.Kind == impl.BlSweep:
		return slices.DeleteFunc(next, func(b impl.Blob) bool { return b.Refs == 0 }), impl.OK
	case act.Kind == impl.BlDrop && (at < 0 || list[at].Refs < 1):
		return list, impl.ErrNone
	case act.Kind == impl.BlDrop:
		next[at].Refs--
	case len(act.Data) > impl.MaxBlob:
		return list, impl.ErrSize
	case at < 0 && len(list) == impl.MaxBlobs:
		return list, impl.ErrMany
	case at < 0:
		next = append(next, impl.Blob{Key: key, Refs: 1, Data: act.Data})
	default:
		next[at].Refs++
	}
	return next, impl.OK
}

// randomBlobActs are acts over texts of which some are alike and some too large.
func randomBlobActs(r *rand.Rand, size, texts, drops int) []impl.BlobAct {
	acts := make([]impl.BlobAct, size)
	for i := range acts {
		data := strconv.Itoa(r.Intn(texts))
		switch n := r.Intn(20); {
		case n == 0:
			acts[i] = sweep
		case n == 1:
			acts[i] = impl.BlobAct{Kind: r.Intn(9) - 4, Data: []byte(data), Key: keyOf(data)}
		case n == 2:
			acts[i] = put(data + string(filled(impl.MaxBlob-1)))
		case n < 3+drops:
			acts[i] = drop(data)
		default:
			acts[i] = put(data)
		}
	}
	return acts
}

func TestBlobRunAtRandom(t *testing.T) {
	r := rand.New(rand.NewSource(32))
	for turn := range 300 {
		acts := randomBlobActs(r, r.Intn(impl.MaxActs+1), []int{3, 12, 50, 300}[turn%4], []int{8, 1, 4}[turn%3])
		var want []impl.Blob
		faults := map[int]int{}
		for i, act := range acts {
			want, faults[i] = actPlainly(want, act)
		}
		wantBlobs(t, acts, faults, want...)
	}
}

// P5: a blob is found by the key of its bytes as long as something refers to
// it: as many puts as were done, less the drops, whatever is swept.
func TestBlobIsFoundWhileReferred(t *testing.T) {
	r := rand.New(rand.NewSource(33))
	for turn := range 60 {
		acts := randomBlobActs(r, impl.MaxActs, []int{4, 20, 90}[turn%3], 7)
		refs := map[string]int{}
		codes, _, _ := impl.BlobRun(acts)
		for i, act := range acts {
			switch {
			case codes[i] != impl.OK || act.Kind == impl.BlSweep:
			case act.Kind == impl.BlPut:
				refs[string(act.Data)]++
			default:
				for data := range refs {
					if keyOf(data) == act.Key {
						refs[data]--
					}
				}
			}
			if i%20 != 19 {
				continue
			}
			_, list, _ := impl.BlobRun(acts[:i+1])
			for data, n := range refs {
				if n > 0 {
					wantGet(t, list, keyOf(data), data)
				} else {
					wantGetCode(t, list, keyOf(data), impl.ErrNone)
				}
			}
		}
	}
}
