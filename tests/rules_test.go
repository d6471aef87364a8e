package tests

import (
	"bytes"
	"math/rand"
	"testing"

	"loop.example/g00142/impl"
)

// inputs are bytes of every kind that the wire meets: right, cut off, wrong, too long.
func inputs(t *testing.T) [][]byte {
	r := rand.New(rand.NewSource(3))
	good := framesOf(t, samples())
	sum := bytes.Clone(good)
	sum[len(sum)-1] ^= 1
	out := [][]byte{nil, {}, {0}, {128}, {128, 0}, {255, 255, 3}, good, good[:len(good)-3], sum,
		bytes.Repeat([]byte{255}, 12), filled(4096), filled(4097), filled(impl.MaxText), filled(impl.MaxText + 1)}
	for range 200 {
		b := make([]byte, r.Intn(40))
		r.Read(b)
		out = append(out, b)
	}
	return out
}

// P1: nothing is written into an argument, nor behind its end.
func TestArgumentsStay(t *testing.T) {
	for _, in := range inputs(t) {
		g := guard(in)
		impl.GetNumber(g.arg(), 0)
		impl.GetNumber(g.arg(), len(in)/2)
		impl.Crc(g.arg())
		impl.Frame(g.arg())
		impl.Unframe(g.arg())
		one, two := guard(in), guard(in)
		chunks := [][]byte{one.arg(), nil, two.arg(), {mark}}
		impl.Feed(g.arg(), chunks[:3])
		if !g.same() || !one.same() || !two.same() || len(chunks[3]) != 1 || chunks[1] != nil {
			t.Fatalf("an argument of %d bytes was changed", len(in))
		}
		if len(in) > 0 && (&chunks[0][0] != &one.all[0] || &chunks[2][0] != &two.all[0]) {
			t.Fatalf("a list of chunks of %d bytes was changed", len(in))
		}
	}
}

// P1: what was answered shares nothing with an argument.
func TestAnswersAreNew(t *testing.T) {
	for _, in := range inputs(t) {
		g, one := guard(in), guard(in)
		b, _ := impl.Frame(g.arg())
		spoil(b)
		list, _, _ := impl.Unframe(g.arg())
		for _, p := range list {
			spoil(p)
		}
		list, rest, _ := impl.Feed(g.arg(), [][]byte{one.arg()})
		for _, p := range list {
			spoil(p)
		}
		spoil(rest)
		_, rest, _ = impl.Feed(g.arg(), nil)
		spoil(rest)
		if !g.same() || !one.same() {
			t.Fatalf("an answer shares memory with an argument of %d bytes", len(in))
		}
	}
}

// P1: no two lists of one answer share any memory.
func TestListsShareNothing(t *testing.T) {
	b := append(framesOf(t, samples()), 9, 'a', 'b', 'c')
	first, _, _ := impl.Unframe(b)
	second, rest, _ := impl.Feed(b[:40], [][]byte{b[40:200], b[200:]})
	lists := append(append(append([][]byte{}, first...), second...), rest)
	for i, spoilt := range lists {
		was := copyList(lists)
		spoil(spoilt)
		for k := range lists {
			if k != i && !bytes.Equal(lists[k], was[k]) {
				t.Fatal("list", i, "and list", k, "share memory")
			}
		}
	}
}

func answers(in []byte) []any {
	var out []any
	n, next, code := impl.GetNumber(in, len(in)/3)
	out = append(out, n, next, code, impl.Crc(in), impl.NameOK(string(in)), impl.CodeOf(string(in)), impl.CodeWord(len(in)))
	b, code := impl.PutNumber(len(in))
	out = append(out, string(b), code)
	b, code = impl.Frame(in)
	out = append(out, string(b), code)
	list, at, code := impl.Unframe(in)
	out = append(out, len(list), string(bytes.Join(list, []byte{','})), at, code)
	list, rest, code := impl.Feed(in, [][]byte{in, {1}, in})
	return append(out, len(list), string(bytes.Join(list, []byte{','})), string(rest), code)
}

// P1: alike arguments have alike answers, whatever was called ahead.
func TestAnswersHangOnArgumentsAlone(t *testing.T) {
	all := inputs(t)
	var first [][]any
	for _, in := range all {
		first = append(first, answers(in))
	}
	for i := len(all) - 1; i >= 0; i-- {
		again := answers(guard(all[i]).arg()) // another address, another capacity
		for k := range again {
			if again[k] != first[i][k] {
				t.Fatalf("answer %d to input %d changed", k, i)
			}
		}
	}
}

// P1: an empty list and nil are the same value.
func TestEmptyIsNil(t *testing.T) {
	a, b := answers(nil), answers([]byte{})
	for i := range a {
		if a[i] != b[i] {
			t.Error("answer", i, a[i], b[i])
		}
	}
	wantFeed(t, nil, [][]byte{}, nil, nil, impl.OK)
	wantFeed(t, []byte{}, [][]byte{{}, nil}, nil, nil, impl.OK)
}

// P1: no call panics, and every call ends, whatever it is given.
func TestNothingPanics(t *testing.T) {
	ints := []int{least, least + 1, -1, 0, 1, 8, 9, 63, 64, impl.MaxText, impl.MaxText + 1, greatest - 1, greatest}
	for _, n := range ints {
		impl.PutNumber(n)
		impl.CodeWord(n)
		for _, in := range inputs(t) {
			impl.GetNumber(in, n)
		}
	}
	for _, in := range inputs(t) {
		answers(in)
		impl.Feed(in, inputs(t))
	}
}
