package tests

import (
	"go/ast"
	"go/parser"
	"go/token"
	"math/rand"
	"slices"
	"strings"
	"sync"
	"testing"
	"time"

	"loop.example/g00142/impl"
)

// behindEnd is a list with two of its kind in the room behind its end.
func behindEnd[T any](list []T, one T) []T { return append(slices.Clone(list), one, one)[:len(list)] }

func guardRecs(list []impl.Rec) []impl.Rec {
	list = behindEnd(list, rec(mark, mark, "behind"))
	for i := range list {
		list[i].Data = guard(list[i].Data).arg()
	}
	return list
}

// guardCluster is a cluster in memory of its own, with room behind the end of each list.
func guardCluster(c impl.Cluster) impl.Cluster {
	c.Peers, c.Net, c.Chosen = behindEnd(c.Peers, impl.Peer{Term: mark}), behindEnd(c.Net, impl.Msg{Kind: mark}), guardRecs(c.Chosen)
	for i := range c.Peers {
		p := &c.Peers[i]
		p.Log, p.Votes, p.Next, p.Match = guardRecs(p.Log), behindEnd(p.Votes, true), behindEnd(p.Next, mark), behindEnd(p.Match, mark)
	}
	return c
}

func shownRecsWhole(list []impl.Rec) string {
	list = list[:cap(list)]
	var out []string
	for _, r := range list {
		out = append(out, itoa(r.Term)+"."+itoa(r.Index)+string(r.Data[:cap(r.Data)]))
	}
	return strings.Join(out, " ")
}

// shownWhole is a cluster with what stands behind the end of each list.
func shownWhole(c impl.Cluster) string {
	text := shownCluster(c) + shownRecsWhole(c.Chosen)
	for _, p := range c.Peers[:cap(c.Peers)] {
		text += shownPeer(p) + shownRecsWhole(p.Log) + shownNumbers(p.Next[:cap(p.Next)]) + shownNumbers(p.Match[:cap(p.Match)])
	}
	return text + strings.Join(shownNet(c.Net[:cap(c.Net)]), "\n")
}

func roomsOfApplied(s impl.State, replies []impl.Reply) []room {
	return []room{roomOf(s.Files, "files"), roomOf(s.Sessions, "sessions"), roomOf(replies, "replies")}
}

// ruleClusters are clusters behind drawn runs of jobs, and some that do not agree.
func ruleClusters() []impl.Cluster {
	r := rand.New(rand.NewSource(143))
	list, _, _ := mixed()
	clusters := []impl.Cluster{{}, committing(list, 9, 4, 0), committing(list), committing(nil, 0, 0), {Conflict: true}, committing(recsWith(slices.Repeat([]string{"x"}, 101)...), 3)}
	for way := range makers() {
		c, _, _ := impl.ClusterRun(1+way%7, jobRun(r, 1+way%7, 250, way))
		clusters = append(clusters, c)
		if len(c.Chosen) > 1 {
			wrong := cloneCluster(c)
			wrong.Chosen[0].Term++
			clusters = append(clusters, wrong)
		}
	}
	return clusters
}

// P1: arguments stay, no answer shares memory with one or with another answer, nor
// two lists of one answer with each other.
func TestServiceMemory(t *testing.T) {
	for i, was := range ruleClusters() {
		c := guardCluster(was)
		before := shownWhole(c)
		for peer := range len(c.Peers) + 1 {
			s, replies, _ := impl.Applied(c, peer)
			again, repliesAgain, _ := impl.Applied(c, peer)
			wantApart(t, append(append(roomsOf(c, nil), roomsOfApplied(s, replies)...), roomsOfApplied(again, repliesAgain)...))
			want := shownState(s) + shownReplies(replies)
			clear(again.Files)
			clear(again.Sessions)
			clear(repliesAgain)
			if shownState(s)+shownReplies(replies) != want {
				t.Fatal("two answers share memory: cluster", i)
			}
			impl.Answer(c, 1, 1)
			impl.Answer(c, 77, 77)
		}
		if shownWhole(c) != before {
			t.Fatal("an argument was changed: cluster", i)
		}
	}
}

// What was answered stays when the records that it is of are written over.
func TestServiceAnswersAreTheirOwn(t *testing.T) {
	list, states, replies := mixed()
	c := committing(list, 9)
	s, got, _ := impl.Applied(c, 0)
	answer, _ := impl.Answer(c, 2, 4)
	for i := range c.Chosen {
		spoil(c.Chosen[i].Data)
		spoil(c.Peers[0].Log[i].Data)
	}
	if !sameState(s, states[9]) || !slices.Equal(got, replies) || answer != replies[7] {
		t.Errorf("%s and %s, want %s", shownState(s), shownReplies(got), shownState(states[9]))
	}
	for _, line := range []string{"tick 0", "job 0 1 2 a 3 p", "job 0 1 2 a 0"} {
		one, _ := impl.ReadLine(line)
		two, _ := impl.ReadLine(line)
		wantApart(t, []room{roomOf(one.Data, "one"), roomOf(two.Data, "two")})
		want := shownEvent(one)
		spoil(two.Data)
		three, _ := impl.ReadLine(line)
		if shownEvent(one) != want || shownEvent(three) != want {
			t.Error("events share memory:", line)
		}
	}
}

// An empty list and nil are the same value.
func TestServiceEmptyIsNil(t *testing.T) {
	empty := impl.Cluster{Peers: []impl.Peer{{Log: []impl.Rec{}, Votes: []bool{}, Next: []int{}, Match: []int{}}}, Net: []impl.Msg{}, Chosen: []impl.Rec{}}
	wantApplied(t, empty, 0, impl.State{})
	wantApplied(t, impl.Cluster{Peers: make([]impl.Peer, 1)}, 0, impl.State{})
	wantAppliedCode(t, impl.Cluster{Peers: []impl.Peer{}}, 0, impl.ErrRange)
	wantAnswerCode(t, empty, 1, 1, impl.ErrNone)
	wantAnswerCode(t, impl.Cluster{}, 1, 1, impl.ErrNone)
	for _, data := range [][]byte{nil, {}} {
		list := []impl.Rec{{Term: 1, Index: 1, Data: data}}
		c := impl.Cluster{Peers: []impl.Peer{{Log: list, Commit: 1}}, Chosen: []impl.Rec{{Term: 1, Index: 1}}}
		wantApplied(t, c, 0, impl.State{}, failed(impl.ErrForm))
		wantAnswerCode(t, c, 0, 0, impl.ErrNone)
	}
}

// P1: alike arguments have alike answers, whatever was called ahead, and from many sides.
func TestServiceHangsOnNothingElse(t *testing.T) {
	r := rand.New(rand.NewSource(147))
	var asks []func() string
	for _, was := range ruleClusters() {
		asks = append(asks, func() string {
			c, text := guardCluster(was), ""
			for peer := range len(c.Peers) + 1 {
				s, replies, code := impl.Applied(c, peer)
				answer, answerCode := impl.Answer(c, 1+peer%5, 1+peer)
				text += shownState(s) + shownReplies(replies) + itoa(code) + shownReply(answer) + itoa(answerCode)
			}
			return text
		})
	}
	for way := range makers() {
		lines, _ := drawnText(r, 200, way, map[string]int{})
		asks = append(asks, func() string {
			said, code := impl.Service(strings.Join(lines, "\n"))
			for _, line := range lines[:20] {
				e, lineCode := impl.ReadLine(line)
				said += shownEvent(e) + itoa(lineCode)
			}
			return said + itoa(code)
		})
	}
	var want []string
	for _, ask := range asks {
		want = append(want, ask())
	}
	for i, ask := range slices.Backward(asks) {
		if ask() != want[i] {
			t.Fatal("an answer hangs on what was called ahead:", i)
		}
	}
	var all sync.WaitGroup
	for i, ask := range asks {
		all.Go(func() {
			for range 3 {
				if ask() != want[i] {
					t.Error("an answer hangs on what is called beside:", i)
				}
			}
		})
	}
	all.Wait()
}

// P1: nothing panics, and all ends, whatever is handed in; with a code all else is zero.
func TestServiceNothingPanics(t *testing.T) {
	r := rand.New(rand.NewSource(149))
	ints := []int{least, least + 1, -1, 0, 1, 2, 3, 100, 101, 1000000, greatest - 1, greatest}
	some := func() int { return ints[r.Intn(len(ints))] }
	datas := []string{"", "x", dataOf(1, 1, "a", 0, "p", "x"), dataOf(1, 2, "a", 1, "d", ""), dataOf(2, 1, "", 0, "", ""), dataOf(0, 1, "a", 0, "", ""), dataOf(1000000, 1000000, "a", 1000000, "s/(", "")}
	counts := map[int]int{}
	for range 5000 {
		var list []impl.Rec
		for range []int{0, 1, 3, 5, 100, 101}[r.Intn(6)] {
			list = append(list, impl.Rec{Term: some(), Index: some(), Data: []byte(datas[r.Intn(len(datas))])})
		}
		c := impl.Cluster{Chosen: list, Conflict: r.Intn(9) == 0}
		for range r.Intn(9) {
			p := impl.Peer{Log: list[:r.Intn(len(list)+1)], Term: some(), Vote: some(), Role: some()}
			p.Commit = r.Intn(len(p.Log) + 1)
			if r.Intn(30) == 0 {
				p.Commit = some()
			}
			c.Peers = append(c.Peers, p)
		}
		peer := r.Intn(9)
		if r.Intn(4) == 0 {
			peer = some()
		}
		want := impl.OK
		switch {
		case !agreesPlainly(c) || len(list) > 100:
			want = impl.ErrBad
		case peer < 0 || peer >= len(c.Peers):
			want = impl.ErrRange
		}
		s, replies, code := impl.Applied(c, peer)
		if code != want || code != impl.OK && (!isZeroState(s) || replies != nil) || code == impl.OK && (len(replies) != c.Peers[peer].Commit || !impl.StateOK(s)) {
			t.Fatalf("Applied at %d: %.200s and %d replies with code %d, want code %d", peer, shownState(s), len(replies), code, want)
		}
		counts[code]++
		client, seq := 1+r.Intn(2), 1+r.Intn(2)
		if r.Intn(2) == 0 {
			client, seq = some(), some()
		}
		reply, code := impl.Answer(c, client, seq)
		if (code == impl.ErrBad) != (want == impl.ErrBad) || code != impl.OK && reply != (impl.Reply{}) || code != impl.OK && code != impl.ErrBad && code != impl.ErrNone {
			t.Fatalf("Answer: %s with code %d", shownReply(reply), code)
		}
		counts[100+code]++
	}
	for _, code := range []int{impl.OK, impl.ErrBad, impl.ErrRange, 100 + impl.OK, 100 + impl.ErrBad, 100 + impl.ErrNone} {
		if counts[code] < 100 {
			t.Error("too few of code", code, counts)
		}
	}
}

// P1 of texts: any bytes are a line that is none, or a text whose lines are.
func TestServiceOfAnyText(t *testing.T) {
	r := rand.New(rand.NewSource(151))
	for _, in := range inputs(t) {
		text := string(in)
		want := impl.ErrSyntax
		if len(text) > impl.MaxText {
			want = impl.ErrLong
		}
		wantLineCode(t, text, want)
		impl.Service(text)
	}
	for range 3000 {
		text := randomText(r, "tickjobshow 012-#\n\n\n\x00\xff", r.Intn(400))
		said, code := impl.Service(text)
		model := newModelService(map[string]int{})
		for _, line := range strings.Split(text, "\n") {
			model.do(line)
		}
		if code != impl.OK || said != model.said.String() {
			t.Fatalf("Service(%q): %q with code %d, want %q", text, said, code, model.said.String())
		}
	}
}

// Jobs that take their time are not done again whenever they are shown.
func TestServiceShowsInLittleTime(t *testing.T) {
	script := "s/.*/" + long(110) + "/;:a;/a*a*a*a*b/d;b a"
	turns := led(t)
	turns = append(turns, turn{"job 0 1 1 a 0 p", "ok 0\n"}, turn{"job 0 1 2 b 0 " + script, "ok 0\n"}, turn{"job 0 1 3 a 1 " + script, "ok 0\n"})
	turns = append(turns, settled(t)...)
	files := shownFile("a", 1, "one\none\ntwo\ntwo\nthree\nthree\n")
	for len(turns) < 298 {
		turns = append(turns, turn{"show 0", "leader 1 3 3\n" + files}, turn{"show 1", "follower 1 3 3\n" + files})
	}
	text, want := talk(turns)
	began := time.Now()
	wantService(t, text, want)
	if took := time.Since(began); took > 20*time.Second {
		t.Error("the service took", took)
	}
}

// The chapter 'Ways': commands in a map to method values; variadic texts.
func TestWaysOfTheService(t *testing.T) {
	f, err := parser.ParseFile(token.NewFileSet(), "../impl/l11_service.go", nil, 0)
	if err != nil {
		t.Fatal(err)
	}
	values, variadic := map[string]string{}, 0
	ast.Inspect(f, func(n ast.Node) bool {
		switch x := n.(type) {
		case *ast.CompositeLit:
			if of, ok := x.Type.(*ast.MapType); ok {
				if _, ok := of.Value.(*ast.FuncType); ok {
					noteMethodValues(x, values)
				}
			}
		case *ast.FuncDecl:
			list := x.Type.Params.List
			if len(list) > 0 {
				if of, ok := list[len(list)-1].Type.(*ast.Ellipsis); ok {
					if name, ok := of.Elt.(*ast.Ident); ok && name.Name == "string" {
						variadic++
					}
				}
			}
		}
		return true
	})
	for _, word := range []string{"tick", "deliver", "drop", "double", "crash", "start", "job"} {
		if values[`"`+word+`"`] == "" {
			t.Error("no method value of", word, "among", values)
		}
	}
	if variadic == 0 {
		t.Error("no variadic texts")
	}
}

// noteMethodValues notes the methods that a map has as its values, by their keys.
func noteMethodValues(of *ast.CompositeLit, values map[string]string) {
	for _, e := range of.Elts {
		pair, ok := e.(*ast.KeyValueExpr)
		if !ok {
			continue
		}
		key, isText := pair.Key.(*ast.BasicLit)
		value, isMethod := pair.Value.(*ast.SelectorExpr)
		if isText && isMethod {
			values[key.Value] = value.Sel.Name
		}
	}
}
