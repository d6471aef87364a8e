package tests

import (
	"cmp"
	"math/rand"
	"slices"
	"strings"
	"testing"

	"loop.example/g00142/impl"
)

// modelPeer is a peer told otherwise: votes, next and match by the peers' numbers
// as they come, and the role by which of these there are.
type modelPeer struct {
	down               bool
	term, vote, commit int
	log                []impl.Rec
	votes              map[int]bool
	next, match        map[int]int
}

// modelCluster is a second cluster, whose messages and logs are copied whenever
// they go on, and which counts what it meets.
type modelCluster struct {
	peers  []modelPeer
	net    []impl.Msg
	chosen []impl.Rec
	met    map[string]int
}

func newModel(n int, met map[string]int) *modelCluster {
	return &modelCluster{peers: make([]modelPeer, n), met: met}
}

func (p modelPeer) role() int {
	switch {
	case p.match != nil:
		return impl.RlLeader
	case p.votes != nil:
		return impl.RlCandidate
	}
	return impl.RlFollower
}

// end is a peer's last term and index, in the order in which they count.
func (p modelPeer) end() []int {
	if n := len(p.log); n > 0 {
		return []int{p.log[n-1].Term, n}
	}
	return []int{0, 0}
}

func (p *modelPeer) follow(term int) {
	if term > p.term {
		p.term, p.vote = term, 0
	}
	p.votes, p.next, p.match = nil, nil, nil
}

func (c *modelCluster) post(m impl.Msg) {
	if len(c.net) == 200 {
		c.met["lost"]++
		return
	}
	m.Log = cloneRecs(m.Log)
	c.net = append(c.net, m)
}

func (c *modelCluster) records(from, to int) {
	p := c.peers[from]
	n := p.next[to] - 1
	term := 0
	if n > 0 {
		term = p.log[n-1].Term
	}
	c.post(impl.Msg{Kind: 3, From: from, To: to, Term: p.term, A: n, B: term, C: p.commit, Log: p.log[n:]})
}

func (c *modelCluster) allRecords(from int) {
	for to := range c.peers {
		if to != from {
			c.records(from, to)
		}
	}
}

// leader makes one of a candidate, if it has more than half of all votes.
func (c *modelCluster) leader(number int) {
	p := &c.peers[number]
	if 2*len(p.votes) <= len(c.peers) {
		return
	}
	c.met["elected"]++
	p.votes, p.next, p.match = nil, map[int]int{}, map[int]int{number: len(p.log)}
	for i := range c.peers {
		p.next[i] = len(p.log) + 1
	}
	c.commit(number)
	c.allRecords(number)
}

// commit looks at the index that just more than half reach: terms do not fall
// along a log, so if that record is of an earlier one, so are those ahead of it.
func (c *modelCluster) commit(number int) {
	p := &c.peers[number]
	var reached []int
	for i := range c.peers {
		reached = append(reached, p.match[i])
	}
	slices.Sort(reached)
	index := reached[(len(reached)-1)/2]
	if index > p.commit && p.log[index-1].Term != p.term {
		c.met["most have one of an earlier term"]++
	}
	if index > p.commit && p.log[index-1].Term == p.term {
		c.met["commits"]++
		p.commit = index
	}
	c.choose(number)
}

func (c *modelCluster) choose(number int) {
	p := c.peers[number]
	if p.commit > len(c.chosen) {
		c.chosen = append(c.chosen, cloneRecs(p.log[len(c.chosen):p.commit])...)
	}
}

func (c *modelCluster) arrive(m impl.Msg) {
	p := &c.peers[m.To]
	at := []string{"follower", "candidate", "leader"}[p.role()]
	if p.down {
		at = "down"
	}
	kind := []string{"vote", "voted", "append", "appended"}[m.Kind-1]
	term := []string{"earlier", "same", "later"}[cmp.Compare(m.Term, p.term)+1]
	c.met[kind+" "+term+" "+at]++
	if p.down {
		return
	}
	if m.Term > p.term {
		p.follow(m.Term)
	}
	switch m.Kind {
	case 1:
		c.asked(p, m)
	case 2:
		if m.Term == p.term && p.votes != nil && m.Ok {
			p.votes[m.From] = true
			c.leader(m.To)
		}
	case 3:
		c.appends(p, m)
	case 4:
		c.answered(p, m)
	}
}

func (c *modelCluster) asked(p *modelPeer, m impl.Msg) {
	why := "granted"
	switch {
	case m.Term < p.term:
		why = "refused by term"
	case p.vote != 0 && p.vote != m.From+1:
		why = "refused by vote"
	case slices.Compare([]int{m.B, m.A}, p.end()) < 0:
		why = "refused by log"
	case p.vote != 0:
		why = "granted again"
	}
	c.met[why]++
	ok := strings.HasPrefix(why, "granted")
	if ok {
		p.vote = m.From + 1
	}
	c.post(impl.Msg{Kind: 2, From: m.To, To: m.From, Term: p.term, Ok: ok})
}

func (c *modelCluster) appends(p *modelPeer, m impl.Msg) {
	answer := impl.Msg{Kind: 4, From: m.To, To: m.From, Term: p.term}
	if m.Term == p.term {
		p.follow(m.Term)
		switch {
		case m.A > len(p.log):
			c.met["behind none"]++
			answer.A = len(p.log)
		case m.A > 0 && p.log[m.A-1].Term != m.B:
			c.met["behind another"]++
			answer.A = m.A - 1
		default:
			c.take(p, m)
			answer.Ok, answer.A = true, m.A+len(m.Log)
			p.commit = max(p.commit, min(m.C, answer.A))
			c.choose(m.To)
		}
	}
	c.post(answer)
}

// take leaves a log as it is if it has all of the records, else it becomes what
// the sender has.
func (c *modelCluster) take(p *modelPeer, m impl.Msg) {
	sender := append(cloneRecs(p.log[:m.A]), cloneRecs(m.Log)...)
	same := 0
	for same < min(len(sender), len(p.log)) && sender[same].Term == p.log[same].Term {
		same++
	}
	switch {
	case same == len(sender) && same < len(p.log):
		c.met["has more"]++
	case same == len(sender):
		c.met["has all"]++
	case same < len(p.log):
		c.met["cut"]++
		p.log = sender
	default:
		c.met["longer"]++
		p.log = sender
	}
}

func (c *modelCluster) answered(p *modelPeer, m impl.Msg) {
	if m.Term != p.term || p.match == nil {
		return
	}
	if m.Ok {
		if m.A < p.match[m.From] {
			c.met["late ok"]++
		}
		p.match[m.From] = max(p.match[m.From], m.A)
		p.next[m.From] = max(p.next[m.From], m.A+1)
		c.commit(m.To)
		return
	}
	if m.A+1 >= p.next[m.From] {
		c.met["late refusal"]++
		return
	}
	back := m.A + 1
	if back <= p.match[m.From] {
		c.met["refusal below match"]++
		back = p.match[m.From] + 1
	}
	c.met["back"]++
	p.next[m.From] = back
	c.records(m.To, m.From)
}

func (c *modelCluster) tick(number int) {
	p := &c.peers[number]
	if p.match != nil {
		c.allRecords(number)
		return
	}
	p.term++
	p.vote, p.votes = number+1, map[int]bool{number: true}
	end := p.end()
	for to := range c.peers {
		if to != number {
			c.post(impl.Msg{Kind: 1, From: number, To: to, Term: p.term, A: end[1], B: end[0]})
		}
	}
	c.leader(number)
}

// do does an event, and answers its code.
func (c *modelCluster) do(e impl.Event) int {
	onMessage := e.Kind >= 2 && e.Kind <= 4
	switch {
	case e.Kind < 1 || e.Kind > 7:
		return impl.ErrForm
	case e.N < 0 || onMessage && e.N >= len(c.net) || !onMessage && e.N >= len(c.peers):
		return impl.ErrNone
	case onMessage:
		m := c.net[e.N]
		if e.Kind == 4 {
			c.post(m)
			return impl.OK
		}
		c.net = append(slices.Clone(c.net[:e.N]), c.net[e.N+1:]...)
		if e.Kind == 2 {
			c.arrive(m)
		}
		return impl.OK
	}
	p := &c.peers[e.N]
	switch {
	case p.down != (e.Kind == 6) || e.Kind == 7 && p.match == nil:
		return impl.ErrStale
	case e.Kind == 7 && (len(e.Data) > 1000 || len(p.log) >= 100):
		return impl.ErrSize
	case e.Kind == 1:
		c.tick(e.N)
	case e.Kind == 5:
		*p = modelPeer{down: true, term: p.term, vote: p.vote, log: p.log}
	case e.Kind == 6:
		p.down = false
	case e.Kind == 7:
		p.log = append(p.log, impl.Rec{Term: p.term, Index: len(p.log) + 1, Data: slices.Clone(e.Data)})
		p.match[e.N] = len(p.log)
		c.commit(e.N)
	}
	return impl.OK
}

// told is the cluster as the program tells it.
func (c *modelCluster) told() impl.Cluster {
	out := impl.Cluster{Net: c.net, Chosen: c.chosen}
	for _, p := range c.peers {
		one := impl.Peer{Up: !p.down, Term: p.term, Vote: p.vote, Commit: p.commit, Role: p.role(), Log: p.log}
		for i := range c.peers {
			if p.votes != nil {
				one.Votes = append(one.Votes, p.votes[i])
			}
			if p.match != nil {
				one.Next, one.Match = append(one.Next, p.next[i]), append(one.Match, p.match[i])
			}
		}
		out.Peers = append(out.Peers, one)
	}
	return out
}

// clusterMaker draws events that mostly fit the cluster as it stands. Its weights
// are those of the Kinds from 1 on, and of an event that is none's.
type clusterMaker struct {
	*rand.Rand
	model   *modelCluster
	weights [8]int
	order   int // of messages: 0 at random, 1 the first, 2 the last
	data    int
}

func (m *clusterMaker) kind() int {
	sum := 0
	for _, w := range m.weights {
		sum += w
	}
	at := m.Intn(sum)
	for i, w := range m.weights {
		if at -= w; at < 0 {
			return i + 1
		}
	}
	return 8
}

// number is that of a peer of whom the event may be, if there is one.
func (m *clusterMaker) number(kind int) int {
	var fit []int
	for i, p := range m.model.peers {
		if p.down == (kind == impl.EvStart) && (kind != impl.EvPropose || p.match != nil) {
			fit = append(fit, i)
		}
	}
	if len(fit) == 0 || m.Intn(30) == 0 {
		return m.Intn(len(m.model.peers))
	}
	return fit[m.Intn(len(fit))]
}

func (m *clusterMaker) event() impl.Event {
	e := impl.Event{Kind: m.kind()}
	size := len(m.model.net)
	switch {
	case e.Kind == 8:
		odd := []int{least, -1, 0, len(m.model.peers), size, greatest}
		return impl.Event{Kind: m.Intn(11) - 1, N: odd[m.Intn(len(odd))], Data: filled(m.Intn(3))}
	case e.Kind < 2 || e.Kind > 4:
		e.N = m.number(e.Kind)
	case size == 0:
		return impl.Event{Kind: impl.EvTick, N: m.number(impl.EvTick)}
	case m.order == 1 && m.Intn(10) > 0:
		e.N = 0
	case m.order == 2 && m.Intn(10) > 0:
		e.N = size - 1
	default:
		e.N = m.Intn(size)
	}
	if e.Kind == impl.EvPropose {
		m.data++
		e.Data = []byte("d" + itoa(m.data))
		if m.Intn(40) == 0 {
			e.Data = filled(999 + m.Intn(4))
		}
	}
	return e
}

// makers are ways to draw: what is common in them differs.
func makers() [][8]int {
	return [][8]int{
		// tick, deliver, drop, double, crash, start, propose, other
		{4, 40, 0, 0, 0, 0, 10, 0},
		{10, 40, 4, 4, 1, 4, 12, 1},
		{6, 40, 10, 2, 2, 6, 10, 0},
		{6, 40, 2, 12, 1, 4, 10, 0},
		{12, 40, 2, 2, 8, 10, 14, 0},
		{3, 60, 0, 1, 1, 2, 2, 0},
		{20, 30, 3, 3, 2, 4, 10, 3},
		{30, 6, 0, 4, 0, 0, 10, 0},
		{3, 12, 0, 0, 0, 1, 40, 0},
	}
}

// drawn is a run of so many events of n peers, and the model behind it.
func drawn(r *rand.Rand, n, size, way int, met map[string]int) ([]impl.Event, []int, *modelCluster) {
	m := clusterMaker{Rand: r, model: newModel(n, met), weights: makers()[way%len(makers())], order: r.Intn(3)}
	var events []impl.Event
	var codes []int
	for range size {
		e := m.event()
		events, codes = append(events, e), append(codes, m.model.do(e))
	}
	return events, codes, m.model
}

// Drawn runs, against the model: each peer, message, chosen record and code.
func TestClusterAgainstTheModel(t *testing.T) {
	r := rand.New(rand.NewSource(111))
	met := map[string]int{}
	for round := range 3000 {
		n, size := 1+r.Intn(7), r.Intn(301)
		if round%2 == 0 {
			n, size = 3+round/2%3, 300
		}
		events, codes, model := drawn(r, n, size, round, met)
		c, got, code := impl.ClusterRun(n, events)
		if code != impl.OK || !slices.Equal(got, codes) {
			t.Fatalf("round %d: codes %v with code %d, want %v", round, got, code, codes)
		}
		if now, want := shownCluster(c), shownCluster(model.told()); now != want {
			t.Fatalf("round %d: %d peers behind %d events:\n%s\nwant\n%s", round, n, size, now, want)
		}
		if !impl.Agree(c) {
			t.Fatalf("round %d: the peers do not agree:\n%s", round, shownCluster(c))
		}
		for _, code := range codes {
			met["code "+impl.CodeWord(code)]++
		}
	}
	// All that there can be was met: only a leader is met by no records of its own term.
	for _, kind := range []string{"vote", "voted", "append", "appended"} {
		for _, term := range []string{"earlier", "same", "later"} {
			for _, at := range []string{"down", "follower", "candidate", "leader"} {
				name := kind + " " + term + " " + at
				if possible := name != "append same leader"; met[name] < 5 == possible {
					t.Error(name, "was met", met[name], "times")
				}
			}
		}
	}
	for _, name := range []string{"lost", "elected", "commits", "most have one of an earlier term", "granted", "granted again", "refused by term", "refused by vote", "refused by log",
		"behind none", "behind another", "has more", "has all", "cut", "longer", "late ok", "late refusal", "refusal below match", "back",
		"code ok", "code form", "code none", "code stale", "code size"} {
		if met[name] < 50 {
			t.Error(name, "was met", met[name], "times")
		}
	}
}

// Short runs, of every event there is: nothing is passed over because it is rare.
func TestClusterAllShort(t *testing.T) {
	for n := 1; n <= 3; n++ {
		var all []impl.Event
		for kind := 1; kind <= 7; kind++ {
			for at := range 2 {
				all = append(all, impl.Event{Kind: kind, N: at, Data: []byte("x")})
			}
		}
		var events []impl.Event
		var extend func(by int)
		extend = func(by int) {
			if by == 0 {
				wantClusterModel(t, n, events)
				return
			}
			for _, e := range all {
				events = append(events, e)
				extend(by - 1)
				events = events[:len(events)-1]
			}
		}
		extend(4)
	}
}

func wantClusterModel(t *testing.T, n int, events []impl.Event) {
	t.Helper()
	model := newModel(n, map[string]int{})
	var want []int
	for _, e := range events {
		want = append(want, model.do(e))
	}
	c, codes, code := impl.ClusterRun(n, events)
	if code != impl.OK || !slices.Equal(codes, want) || shownCluster(c) != shownCluster(model.told()) {
		t.Fatalf("%d peers behind %v: codes %v\n%s\nwant %v\n%s", n, events, codes, shownCluster(c), want, shownCluster(model.told()))
	}
}
