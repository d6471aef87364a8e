package tests

import (
	"math/big"
	"math/rand"
	"regexp"
	"strconv"
	"strings"
	"testing"

	"loop.example/g00142/impl"
)

// shown tells a tree by words, so that two are held against each other at a glance.
func shown(r impl.Rx) string {
	n, m := strconv.Itoa(r.N), strconv.Itoa(r.M)
	var kids []string
	for _, kid := range r.Kids {
		kids = append(kids, shown(kid))
	}
	inner := "(" + strings.Join(kids, " ") + ")"
	switch r.Kind {
	case impl.RxChar:
		if '!' <= r.N && r.N <= '~' {
			return "'" + string(rune(r.N)) + "'"
		}
		return n
	case impl.RxAny:
		return "any"
	case impl.RxSet:
		return "set" + strconv.QuoteToASCII(r.Set)
	case impl.RxBegin:
		return "begin"
	case impl.RxEnd:
		return "end"
	case impl.RxGroup:
		return "group" + n + inner
	case impl.RxCat:
		return "cat" + inner
	case impl.RxAlt:
		return "alt" + inner
	case impl.RxRepeat:
		return "rep" + n + "," + m + inner
	}
	return "kind" + strconv.Itoa(r.Kind)
}

func sameRx(a, b impl.Rx) bool {
	if a.Kind != b.Kind || a.N != b.N || a.M != b.M || a.Set != b.Set || len(a.Kids) != len(b.Kids) {
		return false
	}
	for i := range a.Kids {
		if !sameRx(a.Kids[i], b.Kids[i]) {
			return false
		}
	}
	return true
}

func isZeroRx(r impl.Rx) bool { return sameRx(r, impl.Rx{}) }

func countNodes(r impl.Rx) int {
	n := 1
	for _, kid := range r.Kids {
		n += countNodes(kid)
	}
	return n
}

func countGroups(r impl.Rx) int {
	n := 0
	if r.Kind == impl.RxGroup {
		n = 1
	}
	for _, kid := range r.Kids {
		n += countGroups(kid)
	}
	return n
}

// weightOf is a tree's weight in numbers that have no bound.
func weightOf(r impl.Rx) *big.Int {
	w := big.NewInt(1)
	for _, kid := range r.Kids {
		w.Add(w, weightOf(kid))
	}
	if r.Kind == impl.RxRepeat {
		times := big.NewInt(int64(max(r.N, r.M)))
		w.Mul(w, times.Add(times, big.NewInt(1)))
	}
	return w
}

// modelFault is what the model says of a text that is no pattern.
type modelFault struct{ code, at int }

// modelLevel is the whole pattern, or a group that is open.
type modelLevel struct {
	branches []impl.Rx
	atoms    []impl.Rx
}

func (l *modelLevel) endBranch(ere bool, at int) *modelFault {
	if ere && len(l.atoms) == 0 {
		return &modelFault{impl.ErrSyntax, at}
	}
	l.branches = append(l.branches, impl.Rx{Kind: impl.RxCat, Kids: l.atoms})
	l.atoms = nil
	return nil
}

func (l *modelLevel) tree() impl.Rx {
	if len(l.branches) > 1 {
		return impl.Rx{Kind: impl.RxAlt, Kids: l.branches}
	}
	return l.branches[0]
}

// modelSign is what stands at a place: a word for it and how many bytes it has.
type modelSign struct {
	word string
	size int
	n    byte
}

// modelSignAt names the sign at a place, where it hangs on nothing that is ahead of it.
func modelSignAt(p string, at int, ere bool) modelSign {
	c, next := p[at], byte(0)
	more := at+1 < len(p)
	if more {
		next = p[at+1]
	}
	words := map[byte]string{'(': "open", ')': "close", '{': "bound"}
	switch {
	case c == '\\' && !more:
		return modelSign{word: "fault"}
	case c == '\\' && next >= '1' && next <= '9':
		return modelSign{word: "back"}
	case c == '\\' && next == 'n':
		return modelSign{"byte", 2, 10}
	case c == '\\' && strings.ContainsRune(".[\\*^$/", rune(next)):
		return modelSign{"byte", 2, next}
	case c == '\\' && ere && strings.ContainsRune("(){}+?|", rune(next)):
		return modelSign{"byte", 2, next}
	case c == '\\' && !ere && words[next] != "":
		return modelSign{words[next], 2, next}
	case c == '\\':
		return modelSign{word: "fault"}
	case ere && words[c] != "":
		return modelSign{words[c], 1, c}
	case c == '*' || ere && (c == '+' || c == '?'):
		return modelSign{"repeat", 1, c}
	case ere && c == '|':
		return modelSign{"bar", 1, c}
	case c == '.' || c == '^' || c == '$' || c == '[':
		return modelSign{string(c), 1, c}
	}
	return modelSign{"byte", 1, c}
}

var modelClasses = map[string]func(c int) bool{
	"alpha":  func(c int) bool { return c >= 'a' && c <= 'z' || c >= 'A' && c <= 'Z' },
	"digit":  func(c int) bool { return c >= '0' && c <= '9' },
	"alnum":  func(c int) bool { return c >= 'a' && c <= 'z' || c >= 'A' && c <= 'Z' || c >= '0' && c <= '9' },
	"upper":  func(c int) bool { return c >= 'A' && c <= 'Z' },
	"lower":  func(c int) bool { return c >= 'a' && c <= 'z' },
	"blank":  func(c int) bool { return c == 32 || c == 9 },
	"space":  func(c int) bool { return c == 32 || c >= 9 && c <= 13 },
	"xdigit": func(c int) bool { return strings.IndexByte("0123456789abcdefABCDEF", byte(c)) >= 0 },
	"punct":  func(c int) bool { return strings.IndexByte("!\"#$%&'()*+,-./:;<=>?@[\\]^_`{|}~", byte(c)) >= 0 },
}

var (
	modelSetHead = regexp.MustCompile(`(?s)^\[(\^?)`)
	modelClass   = regexp.MustCompile(`(?s)^\[:(.*?):\]`)
	modelOpening = regexp.MustCompile(`(?s)^\[[:.=]`)
	modelRange   = regexp.MustCompile(`(?s)^(?:(.)-([^\]]))`)
)

// latin turns each byte into a rune of its number, so that regexp goes by bytes.
func latin(p string) string {
	var out []rune
	for i := range len(p) {
		out = append(out, rune(p[i]))
	}
	return string(out)
}

// modelSet reads a set: its bytes, the place behind it.
func modelSet(p string, at int) (string, int, *modelFault) {
	head := modelSetHead.FindStringSubmatch(p[at:])
	var in [256]bool
	start := at + len(head[0])
	i := start
	for {
		if i == len(p) {
			return "", 0, &modelFault{impl.ErrSyntax, i}
		}
		if p[i] == ']' && i != start {
			break
		}
		rest := latin(p[i:])
		if m := modelClass.FindStringSubmatch(rest); m != nil && modelClasses[m[1]] != nil {
			for c := range in {
				in[c] = in[c] || modelClasses[m[1]](c)
			}
			i += len([]rune(m[0]))
		} else if modelOpening.MatchString(rest) {
			return "", 0, &modelFault{impl.ErrSyntax, i}
		} else if m := modelRange.FindStringSubmatch(rest); m != nil {
			low, high := []rune(m[1])[0], []rune(m[2])[0]
			if low > high {
				return "", 0, &modelFault{impl.ErrRange, i}
			}
			for c := low; c <= high; c++ {
				in[c] = true
			}
			i += 3
		} else {
			in[p[i]] = true
			i++
		}
	}
	var set []byte
	for c := range in {
		if in[c] == (head[1] == "") {
			set = append(set, byte(c))
		}
	}
	if len(set) == 0 {
		return "", 0, &modelFault{impl.ErrSyntax, i}
	}
	return string(set), i + 1, nil
}

var modelNumber = regexp.MustCompile(`^[0-9]{1,3}`)

func modelTimes(p string, at int) (int, int, *modelFault) {
	digits := modelNumber.FindString(p[at:])
	n, err := strconv.Atoi(digits)
	if err != nil {
		return 0, 0, &modelFault{impl.ErrSyntax, at}
	}
	if n > 20 {
		return 0, 0, &modelFault{impl.ErrRange, at}
	}
	return n, at + len(digits), nil
}

// modelBound reads the numbers and the end of a repetition that opens at a place.
func modelBound(p string, open, at int, ere bool) (int, int, int, *modelFault) {
	end := `\}`
	if ere {
		end = "}"
	}
	least, i, fault := modelTimes(p, at)
	if fault != nil {
		return 0, 0, 0, fault
	}
	most := least
	if strings.HasPrefix(p[i:], ","+end) {
		return least, -1, i + 1 + len(end), nil
	}
	if strings.HasPrefix(p[i:], ",") {
		if most, i, fault = modelTimes(p, i+1); fault != nil {
			return 0, 0, 0, fault
		}
	}
	if most < least {
		return 0, 0, 0, &modelFault{impl.ErrRange, open}
	}
	if !strings.HasPrefix(p[i:], end) {
		return 0, 0, 0, &modelFault{impl.ErrSyntax, i}
	}
	return least, most, i + len(end), nil
}

// modelCompile reads a pattern sign by sign, with a list of levels in place of
// a reader that calls itself.
func modelCompile(p string, ere bool) (impl.Rx, int, int) {
	none := impl.Rx{}
	switch {
	case len(p) > 65536:
		return none, impl.ErrLong, 0
	case len(p) > 200:
		return none, impl.ErrSize, 0
	case p == "":
		return none, impl.ErrSyntax, 0
	}
	levels := []*modelLevel{{}}
	var numbers []int
	groups := 0
	last := impl.Rx{} // what was read right ahead, zero where an atom begins
	for at := 0; at < len(p); {
		l := levels[len(levels)-1]
		sign := modelSignAt(p, at, ere)
		first := len(l.atoms) == 0
		var atom impl.Rx
		next := at + sign.size
		switch sign.word {
		case "fault":
			return none, impl.ErrSyntax, at
		case "back":
			return none, impl.ErrForbid, at
		case "byte":
			atom = impl.Rx{Kind: impl.RxChar, N: int(sign.n)}
		case ".":
			atom = impl.Rx{Kind: impl.RxAny}
		case "^":
			atom = impl.Rx{Kind: impl.RxChar, N: '^'}
			if ere || first {
				atom = impl.Rx{Kind: impl.RxBegin}
			}
		case "$":
			atom = impl.Rx{Kind: impl.RxChar, N: '$'}
			if ere || p[next:] == "" || len(levels) > 1 && strings.HasPrefix(p[next:], `\)`) {
				atom = impl.Rx{Kind: impl.RxEnd}
			}
		case "[":
			set, behind, fault := modelSet(p, at)
			if fault != nil {
				return none, fault.code, fault.at
			}
			atom, next = impl.Rx{Kind: impl.RxSet, Set: set}, behind
		case "open":
			if groups == 9 {
				return none, impl.ErrMany, at
			}
			groups++
			numbers = append(numbers, groups)
			levels = append(levels, &modelLevel{})
		case "close", "bar":
			if sign.word == "close" && len(levels) == 1 {
				return none, impl.ErrSyntax, at
			}
			if fault := l.endBranch(ere, at); fault != nil {
				return none, fault.code, fault.at
			}
			if sign.word == "close" {
				atom = impl.Rx{Kind: impl.RxGroup, N: numbers[len(numbers)-1], Kids: []impl.Rx{l.tree()}}
				numbers, levels = numbers[:len(numbers)-1], levels[:len(levels)-1]
				l = levels[len(levels)-1]
			}
		case "repeat", "bound":
			if !ere && sign.n == '*' && (first || len(l.atoms) == 1 && last.Kind == impl.RxBegin) {
				atom = impl.Rx{Kind: impl.RxChar, N: '*'}
				break
			}
			if first {
				return none, impl.ErrSyntax, at
			}
			least, most := 0, -1
			switch sign.n {
			case '+':
				least = 1
			case '?':
				most = 1
			case '{':
				var fault *modelFault
				if least, most, next, fault = modelBound(p, at, next, ere); fault != nil {
					return none, fault.code, fault.at
				}
			}
			end := len(l.atoms) - 1
			atom = impl.Rx{Kind: impl.RxRepeat, N: least, M: most, Kids: []impl.Rx{l.atoms[end]}}
			l.atoms = l.atoms[:end]
		}
		if atom.Kind != 0 {
			l.atoms = append(l.atoms, atom)
		}
		last, at = atom, next
	}
	l := levels[len(levels)-1]
	if fault := l.endBranch(ere, len(p)); fault != nil {
		return none, fault.code, fault.at
	}
	if len(levels) > 1 {
		return none, impl.ErrSyntax, len(p)
	}
	tree := l.tree()
	if countNodes(tree) > 120 || weightOf(tree).Cmp(big.NewInt(300)) > 0 {
		return none, impl.ErrMany, 0
	}
	return tree, impl.OK, 0
}

// wantModel holds Compile against the model.
func wantModel(t *testing.T, pattern string, ere bool) {
	t.Helper()
	want, wantCode, wantAt := modelCompile(pattern, ere)
	got, code, at := impl.Compile(pattern, ere)
	if code != wantCode || at != wantAt || !sameRx(got, want) {
		t.Fatalf("Compile(%q, %t): %s %d at %d, want %s %d at %d", pattern, ere, shown(got), code, at, shown(want), wantCode, wantAt)
	}
	if impl.RxOK(got) != (code == impl.OK) {
		t.Fatalf("Compile(%q, %t): a tree that is not right: %s", pattern, ere, shown(got))
	}
}

// Every pattern of a few signs, basic and extended.
func TestCompileAllShort(t *testing.T) {
	for signs, most := range map[string]int{
		`a^$*.|()[]\{},2-:+?n/`: 3,
		`a^$*\()`:               5,
		`a|*()^$`:               5,
		`a\{}(,3*`:              5,
		`[]^-a:.=`:              5,
	} {
		for size := 1; size <= most; size++ {
			allOf(signs, make([]byte, 0, size), func(p string) {
				wantModel(t, p, false)
				wantModel(t, p, true)
			})
		}
	}
}

// allOf tells every text of just as many signs as there is room for.
func allOf(signs string, ahead []byte, tell func(string)) {
	if len(ahead) == cap(ahead) {
		tell(string(ahead))
		return
	}
	for i := range len(signs) {
		allOf(signs, append(ahead, signs[i]), tell)
	}
}

// What random patterns are made of: pieces that may stand in one, and others.
var (
	goodPieces = []string{
		"a", "b", "ab", ".", "^", "$", "*", "+", "?", "|", `\(`, `\)`, "(", ")", `\{2\}`, `\{1,3\}`, `\{0,\}`, `\{20\}`, "{2}", "{1,3}", "{0,}", "{020}",
		"[a-c]", "[^a]", "[]a]", "[^]-a]", "[[:digit:]x]", "[[:space:]-z]", "]", `\n`, `\.`, `\*`, `\/`, `\\`, "}", ",", "3", "-", ":", "\x00", "\xff", "\n",
	}
	oddPieces = []string{
		"[a-", "[", `\|`, `\+`, `\1`, `\9`, `\0`, `\q`, `\`, "{", `\{`, `\}`, "{3,1}", `\{3,1\}`, "{21}", `\{7,21\}`, "{0001}", `\{1234\}`,
		"[z-a]", "[[:x:]]", "[[.a.]]", "[[=a=]]", "[[:digit:", "[^\x00-\xff]",
	}
)

func TestCompileRandom(t *testing.T) {
	r := rand.New(rand.NewSource(5))
	for range 60000 {
		var b strings.Builder
		for range 1 + r.Intn(14) {
			if r.Intn(20) == 0 {
				b.WriteString(oddPieces[r.Intn(len(oddPieces))])
			} else {
				b.WriteString(goodPieces[r.Intn(len(goodPieces))])
			}
		}
		wantModel(t, b.String(), false)
		wantModel(t, b.String(), true)
	}
}

// Any bytes at all, behind an opening of each kind.
func TestCompileRandomBytes(t *testing.T) {
	r := rand.New(rand.NewSource(7))
	for range 4000 {
		b := make([]byte, r.Intn(30))
		for i := range b {
			b[i] = byte(r.Intn(256))
		}
		for _, ahead := range []string{"", "[", "[^", "a{", `a\{`, "(", `\(`, "[[:", "a{1,", `a\{1,`} {
			wantModel(t, ahead+string(b), false)
			wantModel(t, ahead+string(b), true)
		}
	}
}

// Patterns that are right, with many groups and repeats: the last bounds are met.
func TestCompileRandomRight(t *testing.T) {
	r := rand.New(rand.NewSource(6))
	codes := map[int]int{}
	for range 20000 {
		for _, ere := range []bool{false, true} {
			p := rightPattern(r, ere, 3)
			if len(p) == 0 {
				continue
			}
			wantModel(t, p, ere)
			_, code, _ := impl.Compile(p, ere)
			codes[code]++
		}
	}
	if codes[impl.OK] < 1000 || codes[impl.ErrMany] < 200 {
		t.Error("too few of a kind to tell anything:", codes)
	}
}

func rightPattern(r *rand.Rand, ere bool, depth int) string {
	lead := `\`
	if ere {
		lead = ""
	}
	var b strings.Builder
	for i := range 1 + r.Intn(5) {
		if ere && i > 0 && r.Intn(5) == 0 {
			b.WriteByte('|')
		}
		switch k := r.Intn(6); {
		case k == 0 && depth > 0:
			b.WriteString(lead + "(" + rightPattern(r, ere, depth-1) + lead + ")")
		case k == 1:
			b.WriteString([]string{".", "[a-d]", "[^x]", "[[:alpha:]]", "^", "$"}[r.Intn(6)])
		default:
			b.WriteByte(byte('a' + r.Intn(26)))
		}
		for r.Intn(3) == 0 {
			n := r.Intn(5)
			b.WriteString([]string{
				"*", lead + "{" + strconv.Itoa(n) + lead + "}", lead + "{" + strconv.Itoa(n) + "," + lead + "}",
				lead + "{" + strconv.Itoa(n) + "," + strconv.Itoa(n+r.Intn(9)) + lead + "}",
			}[r.Intn(4)])
		}
	}
	return b.String()
}
