package tests

import (
	"math/rand"
	"regexp"
	"slices"
	"strings"
	"testing"

	"loop.example/g00142/impl"
)

// slowMatches tells by the table alone whether a tree matches text[i:j].
func slowMatches(r impl.Rx, text string, i, j int) bool {
	switch r.Kind {
	case impl.RxChar:
		return j == i+1 && int(text[i]) == r.N
	case impl.RxAny:
		return j == i+1
	case impl.RxSet:
		return j == i+1 && strings.Contains(r.Set, text[i:j])
	case impl.RxBegin:
		return i == 0 && j == 0
	case impl.RxEnd:
		return i == len(text) && j == len(text)
	case impl.RxGroup:
		return slowMatches(r.Kids[0], text, i, j)
	case impl.RxAlt:
		return slices.ContainsFunc(r.Kids, func(kid impl.Rx) bool { return slowMatches(kid, text, i, j) })
	case impl.RxCat:
		return slowRow(r.Kids, text, i, j)
	}
	return slowTimes(r.Kids[0], r.N, r.M, text, i, j)
}

// slowRow tells whether trees, one behind the other, match text[i:j].
func slowRow(row []impl.Rx, text string, i, j int) bool {
	if len(row) == 0 {
		return i == j
	}
	for k := i; k <= j; k++ {
		if slowMatches(row[0], text, i, k) && slowRow(row[1:], text, k, j) {
			return true
		}
	}
	return false
}

// slowTimes tries each number of times from least to most; of more than must be
// and there are bytes some are empty, and may as well not be.
func slowTimes(kid impl.Rx, least, most int, text string, i, j int) bool {
	enough := least + j - i
	if most < 0 || most > enough {
		most = enough
	}
	for n := least; n <= most; n++ {
		if slowRow(many(n, kid), text, i, j) {
			return true
		}
	}
	return false
}

// slowPart parts text[i:j], which a tree matches, as chapter 7 says it.
func slowPart(r impl.Rx, text string, i, j int, spans []int) {
	switch r.Kind {
	case impl.RxGroup:
		spans[2*r.N], spans[2*r.N+1] = i, j
		slowPart(r.Kids[0], text, i, j, spans)
	case impl.RxAlt:
		for _, kid := range r.Kids {
			if slowMatches(kid, text, i, j) {
				slowPart(kid, text, i, j, spans)
				return
			}
		}
	case impl.RxCat:
		for n, kid := range r.Kids {
			k := j
			for !slowMatches(kid, text, i, k) || !slowRow(r.Kids[n+1:], text, k, j) {
				k--
			}
			slowPart(kid, text, i, k, spans)
			i = k
		}
	case impl.RxRepeat:
		slowPartTimes(r, text, i, j, spans)
	}
}

func slowPartTimes(r impl.Rx, text string, i, j int, spans []int) {
	kid, least, most := r.Kids[0], r.N, r.M
	for least > 0 || i < j {
		least = max(least-1, 0)
		if most > 0 {
			most--
		}
		k := j
		for !slowMatches(kid, text, i, k) || !slowTimes(kid, least, most, text, k, j) {
			k--
		}
		slowPart(kid, text, i, k, spans)
		i = k
	}
}

// slowFind is the match with the least i, of these that with the greatest j.
func slowFind(r impl.Rx, text string, from int) []int {
	for i := from; i <= len(text); i++ {
		for j := len(text); j >= i; j-- {
			if slowMatches(r, text, i, j) {
				spans := []int{i, j}
				for range countGroups(r) {
					spans = append(spans, -1, -1)
				}
				slowPart(r, text, i, j, spans)
				return spans
			}
		}
	}
	return nil
}

// slowAll are the matches one behind the other.
func slowAll(r impl.Rx, text string) [][]int {
	var out [][]int
	from := 0
	for from <= len(text) {
		spans := slowFind(r, text, from)
		if spans == nil {
			break
		}
		empty := spans[0] == spans[1]
		from = spans[1]
		if empty {
			from++
		}
		if empty && len(out) > 0 && out[len(out)-1][1] == spans[0] {
			continue
		}
		out = append(out, spans)
	}
	return out
}

func sameSpans(a, b [][]int) bool {
	return slices.EqualFunc(a, b, func(x, y []int) bool { return slices.Equal(x, y) })
}

// wantSlow holds all three functions against the slow matcher: every pair of
// places, every place to seek from, and the matches one behind the other.
func wantSlow(t *testing.T, r impl.Rx, text string) {
	t.Helper()
	for i := 0; i <= len(text); i++ {
		for j := i; j <= len(text); j++ {
			want := slowMatches(r, text, i, j)
			if got, code := impl.Matches(r, text, i, j); got != want || code != impl.OK {
				t.Fatalf("Matches(%s, %q, %d, %d): %t with code %d, want %t", shown(r), text, i, j, got, code, want)
			}
		}
		want, wantCode := slowFind(r, text, i), impl.OK
		if want == nil {
			wantCode = impl.ErrNone
		}
		if got, code := impl.Find(r, text, i); !slices.Equal(got, want) || code != wantCode {
			t.Fatalf("Find(%s, %q, %d): %v with code %d, want %v with code %d", shown(r), text, i, got, code, want, wantCode)
		}
	}
	want := slowAll(r, text)
	if got, code := impl.MatchAll(r, text); !sameSpans(got, want) || code != impl.OK {
		t.Fatalf("MatchAll(%s, %q): %v with code %d, want %v", shown(r), text, got, code, want)
	}
}

// Every extended pattern of a few signs, over every text of a few bytes.
func TestMatchAllShortPatterns(t *testing.T) {
	var texts []string
	for size := range 4 {
		allOf("ab", make([]byte, 0, size), func(text string) { texts = append(texts, text) })
	}
	right := 0
	for signs, most := range map[string]int{"ab.|()*?+^$": 4, "a|()*": 6, "(a)*?": 6} {
		for size := 1; size <= most; size++ {
			allOf(signs, make([]byte, 0, size), func(p string) {
				r, code, _ := impl.Compile(p, true)
				if code != impl.OK {
					return
				}
				right++
				for _, text := range texts {
					wantSlow(t, r, text)
				}
			})
		}
	}
	if right < 3000 {
		t.Error("too few patterns to tell anything:", right)
	}
}

// smallTree is a right tree with few leaves; spans of its groups hang on how it is parted.
func smallTree(r *rand.Rand, depth int, groups *int) impl.Rx {
	if depth == 0 || r.Intn(5) == 0 {
		return []impl.Rx{char('a'), char('a'), char('b'), {Kind: impl.RxAny}, {Kind: impl.RxSet, Set: "ab"}, {Kind: impl.RxBegin}, {Kind: impl.RxEnd}, cat()}[r.Intn(8)]
	}
	switch r.Intn(4) {
	case 0:
		if *groups == impl.MaxGroups {
			return cat()
		}
		*groups++
		n := *groups
		return group(n, smallTree(r, depth-1, groups))
	case 1:
		n := r.Intn(3)
		return repeat(n, []int{-1, -1, n, n + r.Intn(3)}[r.Intn(4)], smallTree(r, depth-1, groups))
	case 2:
		return alt(smallTree(r, depth-1, groups), smallTree(r, depth-1, groups))
	}
	var kids []impl.Rx
	for range r.Intn(4) {
		kids = append(kids, smallTree(r, depth-1, groups))
	}
	return cat(kids...)
}

func randomText(r *rand.Rand, signs string, size int) string {
	b := make([]byte, size)
	for i := range b {
		b[i] = signs[r.Intn(len(signs))]
	}
	return string(b)
}

// Many small trees over many small texts.
func TestMatchRandomTrees(t *testing.T) {
	r := rand.New(rand.NewSource(61))
	tried := 0
	for range 20000 {
		tree := smallTree(r, 1+r.Intn(4), new(int))
		if !impl.RxOK(tree) || countNodes(tree) > 14 {
			continue
		}
		tried++
		for size := range 4 {
			wantSlow(t, tree, randomText(r, "aab", size))
		}
	}
	if tried < 5000 {
		t.Error("too few trees to tell anything:", tried)
	}
}

// Rows, branches and times of groups that take more or less.
func TestMatchRandomGroups(t *testing.T) {
	r := rand.New(rand.NewSource(62))
	atoms := []string{"a", "b", "ab", "a*", "b*", "(a|ab)", "(a*)", "(b|ba|)", "a?", "(ab)*", "(a|b)*", "(a*)*", "(a*)+", "(a|b|ab){2}", "(a?){2,3}", "((a)|(b))*", "((a)|b)*", "(a){0}", "(a|(b)){1,2}", "((a*)(b*)){2}"}
	for i, atom := range atoms {
		atoms[i] = strings.ReplaceAll(atom, "|)", "|b{0})")
	}
	for range 3000 {
		var p strings.Builder
		for range 1 + r.Intn(3) {
			p.WriteString(atoms[r.Intn(len(atoms))])
			if r.Intn(5) == 0 {
				p.WriteString("|" + atoms[r.Intn(len(atoms))])
			}
		}
		tree, code, _ := impl.Compile(p.String(), true)
		if code != impl.OK {
			continue
		}
		wantSlow(t, tree, randomText(r, "ab", r.Intn(6)))
	}
}

// Times of several lengths, where to take the most at first may need a time too many.
func TestMatchTimesOfLengths(t *testing.T) {
	a := char('a')
	for lengths := 1; lengths < 64; lengths++ {
		kids := []impl.Rx{char('b')}
		for size := range 6 {
			if lengths>>size&1 == 1 {
				kids = append(kids, cat(many(size, a)...))
			}
		}
		for n := range 4 {
			for _, m := range []int{-1, n, n + 1, n + 2, n + 3} {
				tree := repeat(n, m, group(1, alt(kids...)))
				if !impl.RxOK(tree) {
					continue
				}
				for size := range 9 {
					want, code := slowFind(tree, long(size), 0), impl.OK
					if want == nil {
						code = impl.ErrNone
					}
					if got, gotCode := impl.Find(tree, long(size), 0); !slices.Equal(got, want) || gotCode != code {
						t.Fatalf("Find(%s, %d bytes): %v with code %d, want %v", shown(tree), size, got, gotCode, want)
					}
				}
			}
		}
	}
}

// First and longest, as another program of that kind says it, over longer texts.
func TestMatchFirstAndLongestElsewhere(t *testing.T) {
	r := rand.New(rand.NewSource(63))
	tried := 0
	for range 8000 {
		p := rightPattern(r, true, 2)
		tree, code, _ := impl.Compile(p, true)
		other, err := regexp.CompilePOSIX(p)
		if code != impl.OK || err != nil {
			continue
		}
		tried++
		text := randomText(r, p+"abcxyz", r.Intn(impl.MaxLine+1))
		want := other.FindStringIndex(text)
		got, code := impl.Find(tree, text, 0)
		if want == nil != (code == impl.ErrNone) || want != nil && !slices.Equal(got[:2], want) {
			t.Fatalf("Find(%q, %q): %v with code %d, want %v", p, text, got, code, want)
		}
	}
	if tried < 2000 {
		t.Error("too few patterns to tell anything:", tried)
	}
}
