package tests

import (
	"bytes"
	"go/ast"
	"go/parser"
	"go/token"
	"math/rand"
	"slices"
	"strings"
	"sync"
	"testing"

	"loop.example/g00142/impl"
)

// guardedBlobs are blobs whose Data, and whose list, have room behind their end.
type guardedBlobs struct {
	all   []impl.Blob
	was   []impl.Blob
	parts []guarded
}

func guardBlobs(list []impl.Blob) guardedBlobs {
	var g guardedBlobs
	for _, b := range list {
		part := guard(b.Data)
		g.parts = append(g.parts, part)
		g.all = append(g.all, impl.Blob{Key: b.Key, Refs: b.Refs, Data: part.arg()})
	}
	g.all = append(g.all, impl.Blob{Refs: mark}, impl.Blob{Refs: mark})
	g.was = slices.Clone(g.all)
	return g
}

func (g guardedBlobs) arg() []impl.Blob { return g.all[:len(g.parts)] }

func (g guardedBlobs) same() bool {
	for i, part := range g.parts {
		if !part.same() || len(g.all[i].Data) != part.size {
			return false
		}
	}
	return sameBlobs(g.all, g.was)
}

func spoilBlobs(list []impl.Blob) {
	list = list[:cap(list)]
	for i := range list {
		spoil(list[i].Data)
		list[i] = impl.Blob{Key: "z", Refs: mark, Data: []byte{mark}}
	}
}

// blobLists are lists of every kind that BlobGet meets.
func blobLists() [][]impl.Blob {
	_, full := sixty()
	wrong := impl.Blob{Key: keyOf("a"), Refs: 1, Data: []byte("b")}
	return [][]impl.Blob{
		nil, {blob(1, "a")}, {blob(0, "a"), blob(1, "a")}, {wrong}, {blob(1, ""), wrong, blob(1, "a")}, full,
		{blob(2, string(filled(impl.MaxText)))}, {{Key: "", Refs: 1, Data: filled(impl.MaxText + 1)}}, make([]impl.Blob, impl.MaxList+1),
	}
}

// P1: the blobs of an argument stay, and no answer shares memory with them.
func TestBlobGetArgumentStays(t *testing.T) {
	for _, list := range blobLists() {
		g := guardBlobs(list)
		for _, key := range []string{keyOf("a"), keyOf("b"), keyOf(""), keyOf("7"), "", keyOf(string(filled(impl.MaxText)))} {
			b, code := impl.BlobGet(g.arg(), key)
			again, codeAgain := impl.BlobGet(list, key)
			if code != codeAgain || !bytes.Equal(b, again) {
				t.Fatalf("BlobGet of %d blobs hangs on more than its arguments", len(list))
			}
			spoil(b)
			if !g.same() {
				t.Fatalf("a list of %d blobs was changed, or an answer shares memory with it", len(list))
			}
		}
	}
}

func TestShaArgumentStays(t *testing.T) {
	for _, size := range []int{0, 1, 55, 56, 63, 64, 65, 1000, impl.MaxText, impl.MaxText + 1} {
		g := guard(filled(size))
		if impl.Sha(g.arg()) != impl.Sha(filled(size)) || !g.same() {
			t.Errorf("Sha of %d bytes changed them, or hangs on what is behind them", size)
		}
	}
}

// P1: the acts of an argument stay, and no answer shares memory with them.
func TestBlobActsStay(t *testing.T) {
	r := rand.New(rand.NewSource(34))
	for turn := range 60 {
		acts := randomBlobActs(r, turn*3, 40, 1+turn%4)
		room := append(slices.Clone(acts), impl.BlobAct{Kind: mark}, impl.BlobAct{Kind: mark})
		var parts []guarded
		for i := range acts {
			parts = append(parts, guard(acts[i].Data))
			room[i].Data = parts[i].arg()
		}
		codes, list, _ := impl.BlobRun(room[:len(acts)])
		spoilBlobs(list)
		for i := range codes {
			codes[i] = mark
		}
		for i, act := range acts {
			got := room[i]
			if !parts[i].same() || got.Kind != act.Kind || got.Key != act.Key || !bytes.Equal(got.Data, act.Data) {
				t.Fatalf("act %d of %d was changed", i, len(acts))
			}
		}
		if room[len(acts)].Kind != mark || room[len(acts)+1].Kind != mark {
			t.Fatal("something was written behind the acts")
		}
	}
}

// P1: no two lists of an answer share memory, not even behind their ends.
func TestBlobListsShareNothing(t *testing.T) {
	same := []byte("one and the same bytes, put by acts that share them")
	acts := []impl.BlobAct{{Kind: impl.BlPut, Data: same[:9]}, {Kind: impl.BlPut, Data: same}, {Kind: impl.BlPut, Data: same[4:20]}, put(""), put("x")}
	_, list, _ := impl.BlobRun(append(acts, drop(""), drop("x"), sweep, put("y"), put("z")))
	var was [][]byte
	for _, b := range list {
		was = append(was, bytes.Clone(b.Data))
	}
	for i := range list {
		spoil(list[i].Data)
		_ = append(list[i].Data, mark, mark, mark)
		for k := range list {
			if k != i && !bytes.Equal(list[k].Data, was[k]) {
				t.Fatalf("blobs %d and %d share memory", i, k)
			}
		}
		spoil(list[i].Data)
	}
}

// P1: an answer that is written over changes no later one.
func TestBlobsKeepNothing(t *testing.T) {
	for range 3 {
		acts := []impl.BlobAct{put("a"), put("b"), put("a"), drop("b"), drop("c")}
		wantBlobs(t, acts, map[int]int{4: impl.ErrNone}, blob(2, "a"), blob(0, "b"))
		codes, list, _ := impl.BlobRun(acts)
		wantGet(t, list, keyOf("a"), "a")
		b, _ := impl.BlobGet(list, keyOf("a"))
		spoil(b)
		wantGet(t, list, keyOf("a"), "a")
		spoilBlobs(list)
		codes[0] = mark
		wantBlobs(t, []impl.BlobAct{drop("a"), sweep}, map[int]int{0: impl.ErrNone})
	}
}

// P1: whichever call makes the hash's constants, all have the same answers.
func TestShaFromManySides(t *testing.T) {
	var group sync.WaitGroup
	got := make([]string, 32)
	for i := range got {
		group.Go(func() { got[i] = impl.Sha(filled(i)) })
	}
	group.Wait()
	for i := range got {
		if got[i] != keyOf(string(filled(i))) {
			t.Errorf("Sha of %d bytes: %s", i, got[i])
		}
	}
}

// P1: likewise of runs, which read what was made once.
func TestBlobRunFromManySides(t *testing.T) {
	var group sync.WaitGroup
	got := make([][]impl.Blob, 32)
	for i := range got {
		group.Go(func() { _, got[i], _ = impl.BlobRun([]impl.BlobAct{put(long(i)), put(long(i))}) })
	}
	group.Wait()
	for i := range got {
		if !sameBlobs(got[i], []impl.Blob{blob(2, long(i))}) {
			t.Errorf("a run with %d bytes: %v", i, got[i])
		}
	}
}

// An empty list and nil are the same value.
func TestBlobEmptyIsNil(t *testing.T) {
	wantBlobs(t, []impl.BlobAct{}, nil)
	wantBlobs(t, []impl.BlobAct{{Kind: impl.BlPut, Data: []byte{}}, {Kind: impl.BlPut}}, nil, blob(2, ""))
	wantGetCode(t, []impl.Blob{}, "", impl.ErrNone)
	wantGet(t, []impl.Blob{{Key: keyOf(""), Refs: 1}}, keyOf(""), "")
	wantGet(t, []impl.Blob{{Key: keyOf(""), Refs: 1, Data: []byte{}}}, keyOf(""), "")
}

// P1: no call panics, whatever it is given.
func TestBlobNothingPanics(t *testing.T) {
	ints := []int{least, -1, 0, 1, 2, 3, 4, greatest}
	keys := append(wrongKeys(), keyOf("a"), strings.Repeat("\xff", 64), long(impl.MaxText+1))
	for _, key := range keys {
		for _, n := range ints {
			odd := impl.BlobAct{Kind: n, Data: []byte(key), Key: key}
			impl.BlobRun([]impl.BlobAct{odd, put("a"), odd, sweep, odd, {Kind: n}})
			impl.BlobGet([]impl.Blob{{Key: key, Refs: n}, {Key: key, Refs: n, Data: []byte(key)}, {}}, key)
		}
	}
}

// The chapter 'Ways': arrays of bytes are keys of maps; the constants of the hash are made once.
func TestWaysOfTheBlobs(t *testing.T) {
	f, err := parser.ParseFile(token.NewFileSet(), "../impl/l04_blobs.go", nil, 0)
	if err != nil {
		t.Fatal(err)
	}
	arrays, maps, once := map[string]bool{}, []string{}, 0
	ast.Inspect(f, func(n ast.Node) bool {
		switch x := n.(type) {
		case *ast.TypeSpec:
			if a, ok := x.Type.(*ast.ArrayType); ok && a.Len != nil {
				arrays[x.Name.Name] = true
			}
		case *ast.MapType:
			if key, ok := x.Key.(*ast.Ident); ok {
				maps = append(maps, key.Name)
			}
		case *ast.SelectorExpr:
			if x.Sel.Name == "Do" {
				once++
			}
		}
		return true
	})
	if once == 0 || !slices.ContainsFunc(maps, func(key string) bool { return arrays[key] }) {
		t.Error("arrays", arrays, "keys of maps", maps, "made once", once)
	}
}

// namedBy tells, for each function of a file, which names stand in it.
func namedBy(f *ast.File) map[string]map[string]bool {
	names := map[string]map[string]bool{}
	for _, d := range f.Decls {
		fn, ok := d.(*ast.FuncDecl)
		if !ok {
			continue
		}
		names[fn.Name.Name] = map[string]bool{}
		ast.Inspect(fn.Body, func(n ast.Node) bool {
			if id, ok := n.(*ast.Ident); ok {
				names[fn.Name.Name][id.Name] = true
			}
			return true
		})
	}
	return names
}

// reaches tells whether a name is met in what a function names, however far on.
func reaches(names map[string]map[string]bool, from, to string, seen map[string]bool) bool {
	for name := range names[from] {
		if name == to {
			return true
		}
		if !seen[name] {
			seen[name] = true
			if reaches(names, name, to, seen) {
				return true
			}
		}
	}
	return false
}

// The constants that are made once stand beside the function that makes them:
// Sha and BlobGet do without them, and one that answers by that function reads them.
func TestHashVariablesStandBeside(t *testing.T) {
	f, err := parser.ParseFile(token.NewFileSet(), "../impl/l04_blobs.go", nil, 0)
	if err != nil {
		t.Fatal(err)
	}
	names := namedBy(f)
	for _, variable := range []string{"hashOnce", "hashBegin", "hashRounds"} {
		for from, want := range map[string]bool{"Sha": false, "BlobGet": false, "BlobRun": true} {
			if got := reaches(names, from, variable, map[string]bool{}); got != want {
				t.Errorf("%s reaches %s: %t", from, variable, got)
			}
		}
	}
	for _, from := range []string{"Sha", "BlobGet", "BlobRun"} {
		if !reaches(names, from, "newHashRule", map[string]bool{}) {
			t.Errorf("%s is not worked out by newHashRule", from)
		}
	}
}
