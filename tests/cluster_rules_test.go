package tests

import (
	"bytes"
	"go/ast"
	"go/parser"
	"go/token"
	"math/rand"
	"slices"
	"sync"
	"testing"
	"unsafe"

	"loop.example/g00142/impl"
)

// room is where a list lies, to the end of its capacity.
type room struct {
	from, to uintptr
	what     string
}

func roomOf[T any](list []T, what string) room {
	var one T
	from := uintptr(unsafe.Pointer(unsafe.SliceData(list)))
	return room{from, from + uintptr(cap(list))*unsafe.Sizeof(one), what}
}

func roomsOfRecs(list []impl.Rec, what string) []room {
	rooms := []room{roomOf(list, what)}
	for i, r := range list {
		rooms = append(rooms, roomOf(r.Data, what+" "+itoa(i)))
	}
	return rooms
}

// roomsOf are those of all lists of an answer.
func roomsOf(c impl.Cluster, codes []int) []room {
	rooms := append(roomsOfRecs(c.Chosen, "chosen"), roomOf(c.Peers, "peers"), roomOf(c.Net, "net"), roomOf(codes, "codes"))
	for i, p := range c.Peers {
		name := "peer " + itoa(i)
		rooms = append(rooms, roomOf(p.Votes, name+" votes"), roomOf(p.Next, name+" next"), roomOf(p.Match, name+" match"))
		rooms = append(rooms, roomsOfRecs(p.Log, name+" log")...)
	}
	for i, m := range c.Net {
		rooms = append(rooms, roomsOfRecs(m.Log, "message "+itoa(i))...)
	}
	return rooms
}

func roomsOfEvents(events []impl.Event) []room {
	rooms := []room{roomOf(events, "events")}
	for i, e := range events {
		rooms = append(rooms, roomOf(e.Data, "data of event "+itoa(i)))
	}
	return rooms
}

// wantApart holds that no two lists lie in the same room.
func wantApart(t *testing.T, rooms []room) {
	t.Helper()
	rooms = slices.DeleteFunc(slices.Clone(rooms), func(r room) bool { return r.from == r.to })
	slices.SortFunc(rooms, func(a, b room) int { return int(a.from) - int(b.from) })
	for i := 1; i < len(rooms); i++ {
		if rooms[i].from < rooms[i-1].to {
			t.Fatal(rooms[i-1].what, "and", rooms[i].what, "share memory")
		}
	}
}

// guardEvents are events whose list and Data have room behind their ends, and
// whether they stayed.
func guardEvents(events []impl.Event) ([]impl.Event, func() bool) {
	list := append(slices.Clone(events), impl.Event{Kind: mark}, impl.Event{Kind: mark})
	var guards []guarded
	for i := range list {
		g := guard(list[i].Data)
		guards = append(guards, g)
		list[i].Data = g.arg()
	}
	was := slices.Clone(list)
	same := func() bool {
		for i, e := range list {
			if !guards[i].same() || e.Kind != was[i].Kind || e.N != was[i].N || len(e.Data) != guards[i].size || unsafe.SliceData(e.Data) != unsafe.SliceData(was[i].Data) {
				return false
			}
		}
		return true
	}
	return list[:len(events)], same
}

// ruleRuns are drawn runs of each way and number of peers.
func ruleRuns() ([]int, [][]impl.Event) {
	r := rand.New(rand.NewSource(113))
	var peers []int
	var runs [][]impl.Event
	for way := range makers() {
		for n := 1; n <= 7; n++ {
			events, _, _ := drawn(r, n, 40+r.Intn(261), way, map[string]int{})
			peers, runs = append(peers, n), append(runs, events)
		}
	}
	return peers, runs
}

// P1: arguments stay; no answer shares memory with one, nor two lists of it with
// each other, nor two answers.
func TestClusterMemory(t *testing.T) {
	peers, runs := ruleRuns()
	for i, n := range peers {
		events, same := guardEvents(runs[i])
		c, codes, _ := impl.ClusterRun(n, events)
		again, codesAgain, _ := impl.ClusterRun(n, events)
		if !same() {
			t.Fatal("the events of run", i, "were changed")
		}
		rooms := append(roomsOf(c, codes), roomsOfEvents(events)...)
		wantApart(t, append(rooms, roomsOf(again, codesAgain)...))
		// What is written into an answer is to be seen nowhere else.
		want := shownCluster(c)
		for k := range again.Peers {
			for _, x := range again.Peers[k].Log {
				spoil(x.Data)
			}
			clear(again.Peers[k].Log)
			clear(again.Peers[k].Match)
		}
		clear(again.Net)
		clear(again.Chosen)
		third, _, _ := impl.ClusterRun(n, events)
		if shownCluster(c) != want || shownCluster(third) != want || !same() {
			t.Fatal("run", i, "hangs on an answer that was written into")
		}
	}
}

// The Data of one event in many places: each has its own.
func TestClusterMemoryOfOneRecord(t *testing.T) {
	s := newStory(t, 7).elect(0, 1, 1, 2, 3).must(proposeOf(0, long(1000))).must(tickOf(0), tickOf(0))
	for to := 1; to <= 6; to++ {
		s.give("append "+pair(0, to), "appended "+pair(to, 0))
	}
	s.must(doubleOf(0), tickOf(0))
	_, codes, _ := impl.ClusterRun(7, s.events)
	if len(s.c.Chosen) != 1 || len(s.c.Net) < 8 || len(s.c.Net[0].Log) != 1 {
		t.Fatal(len(s.c.Net), len(s.c.Chosen))
	}
	wantApart(t, append(roomsOf(s.c, codes), roomsOfEvents(s.events)...))
	// One Data behind several events is copied for each record, too.
	data := filled(9)
	events := []impl.Event{tickOf(0), {Kind: impl.EvPropose, Data: data}, {Kind: impl.EvPropose, Data: data[2:5]}, {Kind: impl.EvPropose, Data: data[:0]}}
	c, codes, _ := impl.ClusterRun(1, events)
	wantApart(t, append(roomsOf(c, codes), roomOf(data, "data")))
	if len(c.Chosen) != 3 || !bytes.Equal(c.Chosen[1].Data, filled(9)[2:5]) || len(c.Chosen[2].Data) != 0 {
		t.Error(shownCluster(c))
	}
}

// P1: Agree changes nothing of what it is given.
func TestAgreeArgumentStays(t *testing.T) {
	peers, runs := ruleRuns()
	for i, n := range peers {
		c, _, _ := impl.ClusterRun(n, runs[i])
		for p := range c.Peers {
			c.Peers[p].Log = append(c.Peers[p].Log, rec(mark, mark, "behind"))[:len(c.Peers[p].Log)]
		}
		was := cloneCluster(c)
		impl.Agree(c)
		if shownCluster(c) != shownCluster(was) {
			t.Fatal("Agree changed its argument: run", i)
		}
		for p := range c.Peers {
			if log := c.Peers[p].Log; shownRecs(log[:len(log)+1][len(log):]) != shownRecs([]impl.Rec{rec(mark, mark, "behind")}) {
				t.Fatal("Agree wrote behind a log: run", i)
			}
		}
	}
}

// An empty list and nil are the same value.
func TestClusterEmptyIsNil(t *testing.T) {
	for n := range 9 {
		one, _, oneCode := impl.ClusterRun(n, nil)
		two, _, twoCode := impl.ClusterRun(n, []impl.Event{})
		if shownCluster(one) != shownCluster(two) || oneCode != twoCode {
			t.Error("no events of", n)
		}
	}
	for _, data := range [][]byte{nil, {}} {
		c, codes, _ := impl.ClusterRun(1, []impl.Event{{Kind: 1, Data: data}, {Kind: 7, Data: data}, {Kind: 6, Data: data}})
		if !slices.Equal(codes, []int{0, 0, impl.ErrStale}) || shownCluster(c) != "leader @1 vote 1 commit 1 [1.1] next 1 match 1\nchosen [1.1]" {
			t.Error(codes, shownCluster(c))
		}
		if !impl.Agree(c) {
			t.Error("a record without Data")
		}
	}
	empty := impl.Peer{Log: []impl.Rec{}, Votes: []bool{}, Next: []int{}, Match: []int{}}
	if !impl.Agree(impl.Cluster{Peers: []impl.Peer{empty, {}}, Net: []impl.Msg{}, Chosen: []impl.Rec{}}) {
		t.Error("Agree of empty lists")
	}
}

// P1: alike arguments have alike answers, whatever was called ahead, and from many sides.
func TestClusterHangsOnNothingElse(t *testing.T) {
	peers, runs := ruleRuns()
	answer := func(i int) string {
		events, _ := guardEvents(runs[i])
		c, codes, code := impl.ClusterRun(peers[i], events)
		text := shownCluster(c) + shownNumbers(codes) + itoa(code)
		if impl.Agree(c) {
			text += " agreed"
		}
		if len(c.Chosen) > 0 {
			c.Chosen[len(c.Chosen)-1].Term++
			if impl.Agree(c) {
				text += " still"
			}
		}
		return text
	}
	var want []string
	for i := range runs {
		want = append(want, answer(i))
	}
	for i := range slices.Backward(runs) {
		if answer(i) != want[i] {
			t.Fatal("an answer hangs on what was called ahead: run", i)
		}
	}
	var all sync.WaitGroup
	for i := range runs {
		all.Go(func() {
			for range 4 {
				if answer(i) != want[i] {
					t.Error("an answer hangs on what is called beside: run", i)
				}
			}
		})
	}
	all.Wait()
}

// P1: nothing panics, and all ends, whatever is handed in; with a code all else is zero.
func TestClusterNothingPanics(t *testing.T) {
	r := rand.New(rand.NewSource(117))
	ints := []int{least, least + 1, -1, 0, 1, 2, 3, 4, 5, 6, 7, 8, 199, 200, 300, 1000000, greatest - 1, greatest}
	some := func() int { return ints[r.Intn(len(ints))] }
	for range 2000 {
		var events []impl.Event
		for range r.Intn(320) {
			e := impl.Event{Kind: 1 + r.Intn(7), N: r.Intn(8)}
			switch r.Intn(6) {
			case 0:
				e.Kind = some()
			case 1:
				e.N = some()
			case 2:
				e.Data = filled(r.Intn(3) * 700)
			}
			events = append(events, e)
		}
		n := some()
		c, codes, code := impl.ClusterRun(n, events)
		want := impl.OK
		if n < 1 || n > 7 {
			want = impl.ErrRange
		} else if len(events) > 300 {
			want = impl.ErrMany
		}
		if code != want || code != impl.OK && (!isZeroCluster(c) || codes != nil) || code == impl.OK && !impl.Agree(c) {
			t.Fatalf("ClusterRun(%d, %d events): code %d, want %d", n, len(events), code, want)
		}
	}
	for range 5000 {
		var c impl.Cluster
		for range r.Intn(10) {
			p := impl.Peer{Up: r.Intn(2) == 0, Term: some(), Vote: some(), Commit: r.Intn(5) - 1, Role: some(), Votes: make([]bool, r.Intn(3)), Next: make([]int, r.Intn(3))}
			for range r.Intn(4) {
				p.Log = append(p.Log, impl.Rec{Term: some(), Index: some(), Data: filled(r.Intn(3))})
			}
			if r.Intn(4) == 0 {
				p.Commit = some()
			}
			c.Peers = append(c.Peers, p)
		}
		for range r.Intn(4) {
			c.Chosen = append(c.Chosen, impl.Rec{Term: some(), Index: some()})
		}
		c.Net, c.Conflict = make([]impl.Msg, r.Intn(3)), r.Intn(9) == 0
		if got, want := impl.Agree(c), agreesPlainly(c); got != want {
			t.Fatalf("Agree: %v, want %v:\n%s", got, want, shownCluster(c))
		}
	}
}

// agreesPlainly asks of each index what each peer has there.
func agreesPlainly(c impl.Cluster) bool {
	for _, p := range c.Peers {
		if p.Commit < 0 || p.Commit > min(len(p.Log), len(c.Chosen)) {
			return false
		}
	}
	for i, r := range c.Chosen {
		for _, p := range c.Peers {
			if p.Commit > i && !sameRecs([]impl.Rec{r}, p.Log[i:i+1]) {
				return false
			}
		}
	}
	return !c.Conflict
}

// The chapter 'Ways': storage that is embedded; messages in a list with a head;
// method values for handlers; Agree alone has goroutines, and receives with ok.
func TestWaysOfTheCluster(t *testing.T) {
	f, err := parser.ParseFile(token.NewFileSet(), "../impl/l10_raft.go", nil, 0)
	if err != nil {
		t.Fatal(err)
	}
	embedded, heads, received, goes, handlers := map[string]bool{}, 0, 0, map[string]int{}, 0
	for _, d := range f.Decls {
		name := ""
		if x, ok := d.(*ast.FuncDecl); ok {
			name = x.Name.Name
		}
		ast.Inspect(d, func(n ast.Node) bool {
			switch x := n.(type) {
			case *ast.StructType:
				for _, field := range x.Fields.List {
					if of, ok := field.Type.(*ast.Ident); ok && len(field.Names) == 0 {
						embedded[of.Name] = true
					}
					if len(field.Names) > 0 && field.Names[0].Name == "head" {
						heads++
					}
				}
			case *ast.AssignStmt:
				if of, ok := x.Rhs[0].(*ast.UnaryExpr); ok && of.Op == token.ARROW && len(x.Lhs) == 2 {
					received++
				}
			case *ast.GoStmt:
				goes[name]++
			case *ast.KeyValueExpr:
				if of, ok := x.Value.(*ast.SelectorExpr); ok && name == "arrive" && of.Sel.Name != "" {
					handlers++
				}
			}
			return true
		})
	}
	if !embedded["storage"] || heads != 1 || received == 0 || len(goes) != 1 || goes["Agree"] == 0 || handlers != 4 {
		t.Error("embedded", embedded, "heads", heads, "received with ok", received, "goroutines", goes, "handlers", handlers)
	}
}
