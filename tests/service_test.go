package tests

import (
	"slices"
	"strings"
	"testing"

	"loop.example/g00142/impl"
)

// turn is a line, and what a service says to it, each line of it with its end.
type turn struct{ line, said string }

// talk is a text of turns, with what is said in all.
func talk(turns []turn) (string, string) {
	var text, said strings.Builder
	for _, x := range turns {
		text.WriteString(x.line + "\n")
		said.WriteString(x.said)
	}
	return text.String(), said.String()
}

func wantService(t *testing.T, text, want string) {
	t.Helper()
	if got, code := impl.Service(text); code != impl.OK || got != want {
		t.Errorf("Service(%.600q): %.600q with code %d, want %.600q", text, got, code, want)
	}
}

func wantServiceCode(t *testing.T, text string, want int) {
	t.Helper()
	if got, code := impl.Service(text); code != want || got != "" {
		t.Errorf("Service of %d bytes: %.100q with code %d, want code %d", len(text), got, code, want)
	}
}

// wantTalk holds what is said to each line, line by line.
func wantTalk(t *testing.T, turns ...turn) {
	t.Helper()
	for size := range turns {
		text, want := talk(turns[:size+1])
		if got, code := impl.Service(text); code != impl.OK || got != want {
			t.Fatalf("behind %d lines %q: %.800q with code %d, want %.800q", size, turns[size].line, got, code, want)
		}
	}
}

// linesSaying are lines that say ok and how many messages there are, a count each.
func linesSaying(t *testing.T, list ...string) []turn {
	t.Helper()
	var turns []turn
	for _, x := range list {
		line, count, there := strings.Cut(x, " > ")
		if !there {
			t.Fatal("no count behind", x)
		}
		turns = append(turns, turn{line, "ok " + count + "\n"})
	}
	return turns
}

// shownFile is what is said of a file.
func shownFile(name string, version int, text string) string {
	return "file " + name + " " + itoa(version) + " " + keyOf(text) + "\n"
}

// led are lines behind which peer 0 leads in term 1, and no message is on its way.
func led(t *testing.T) []turn {
	t.Helper()
	return linesSaying(t, "tick 0 > 2", "deliver 0 > 2", "deliver 1 > 3", "drop 2 > 2", "drop 0 > 1", "drop 0 > 0")
}

func TestServiceConstant(t *testing.T) {
	if impl.MaxLines != 300 {
		t.Error(impl.MaxLines)
	}
}

// Empty lines and remarks say nothing.
func TestServiceSaysNothing(t *testing.T) {
	for _, text := range []string{"", "\n", "\n\n", "\n\n\n", "#", "#\n", "##", "# ", "# x\n#\n\n", "#tick 0", "#tick 0\n# tick 0\n#show 0", "\n#\n", "#\x00\xff\n", "#" + long(5000) + "\n\n#"} {
		wantService(t, text, "")
	}
	turns := []turn{{"", ""}, {"# tick 1", ""}, {"tick 0", "ok 2\n"}, {"", ""}, {"#", ""}, {"#tick 0", ""}, {"tick 0", "ok 4\n"}, {"", ""}, {"", ""}, {"show 0", "candidate 2 0 0\n"}, {"#show 0", ""}}
	wantTalk(t, turns...)
	// What only looks like one of them is a line like any other.
	for _, line := range []string{" ", "  ", "\t", "\r", " #", "  # x", "\t#", "\x00", "-", ";", "// x", "tick#", "x#"} {
		wantService(t, line, "error syntax\n")
		wantService(t, line+"\n"+line+"\n", "error syntax\nerror syntax\n")
	}
	// A remark has its place at the begin of a line alone.
	wantService(t, "tick 0 # x\nshow 0 #\ntick 0 #", "error syntax\nerror syntax\nerror syntax\n")
}

// Lines end with a byte 10; what stands behind the last one is a line if it has a byte.
func TestServiceLines(t *testing.T) {
	for _, c := range []struct{ text, said string }{
		{"tick 0", "ok 2\n"}, {"tick 0\n", "ok 2\n"}, {"tick 0\n\n", "ok 2\n"}, {"\ntick 0", "ok 2\n"}, {"tick 0\ntick 0", "ok 2\nok 4\n"}, {"tick 0\n\ntick 0\n", "ok 2\nok 4\n"},
		{"tick 0\r\n", "error syntax\n"}, {"tick 0\rtick 0", "error syntax\n"}, {"tick 0\x00", "error syntax\n"}, {"tick 0;tick 0", "error syntax\n"}, {"tick 0\n ", "ok 2\nerror syntax\n"}, {"tick 0 \n", "ok 2\n"}, {"tick\n0", "error syntax\nerror syntax\n"},
		{"tick 0\u2028tick 0", "error syntax\n"}, {"tick 0\vtick 0", "error syntax\n"},
	} {
		wantService(t, c.text, c.said)
	}
}

// At first all peers are followers with nothing; there are three.
func TestServiceAtFirst(t *testing.T) {
	for _, n := range []string{"0", "1", "2"} {
		wantService(t, "show "+n, "follower 0 0 0\n")
		wantService(t, "show "+n+" \n", "follower 0 0 0\n")
		wantService(t, "crash "+n+"\nshow "+n, "ok 0\ndown 0 0 0\n")
		wantService(t, "tick "+n+"\nshow "+n, "ok 2\ncandidate 1 0 0\n")
		wantService(t, "tick "+n+" \nshow "+n+" \n", "ok 2\ncandidate 1 0 0\n")
	}
	wantService(t, "show 0\nshow 1\nshow 2\nshow 0", strings.Repeat("follower 0 0 0\n", 4))
}

// N is 0, 1 or 2, with one blank behind it or none.
func TestServiceShowWords(t *testing.T) {
	for _, odd := range []string{"", " ", "3", "4", "7", "-1", "-0", "00", "01", "02", "+1", "10", "20", "0x0", "1.0", "a", "N", "0,1", "999999999999999999", "1000000000000000000", "-999999999999999999", "0\t", "\t0", "0\r", "0\x00",
		"0  ", "0   ", "0 0", "0 1", "0 #", "0 x", " 0", "  0", "0 \t", "０"} {
		wantService(t, "show "+odd, "error syntax\n")
		wantService(t, "tick 0\nshow "+odd+"\nshow 0\n", "ok 2\nerror syntax\ncandidate 1 0 0\n")
	}
	for _, line := range []string{"show", " show 0", "  show 0", "Show 0", "SHOW 0", "shows 0", "show0", "show\t0", "sho 0", "how 0", "show: 0"} {
		wantService(t, line, "error syntax\n")
	}
}

// Each event does to the cluster what it says, and says how many messages there are then.
func TestServiceEvents(t *testing.T) {
	turns := linesSaying(t, "tick 0 > 2", "double 1 > 3", "double 0 > 4", "drop 3 > 3", "drop 2 > 2", "deliver 0 > 2", "crash 2 > 2", "deliver 0 > 1", "start 2 > 1", "deliver 0 > 2", "job 0 1 1 a 0 p > 2", "tick 0 > 4", "deliver 2 > 4", "deliver 3 > 3")
	turns = append(turns, turn{"show 0", "leader 1 1 1\n" + shownFile("a", 1, "one\none\ntwo\ntwo\nthree\nthree\n")}, turn{"show 1", "follower 1 0 1\n"}, turn{"show 2", "follower 0 0 0\n"})
	wantTalk(t, turns...)
}

// Messages are lost where there are MaxNet, and say so by their number.
func TestServiceMessagesMany(t *testing.T) {
	var turns []turn
	for i := range 105 {
		turns = append(turns, turn{"tick 1", "ok " + itoa(min(200, 2*i+2)) + "\n"})
	}
	turns = append(turns, linesSaying(t, "double 0 > 200", "deliver 0 > 200", "drop 199 > 199", "double 198 > 200", "double 0 > 200", "crash 0 > 200")...)
	turns = append(turns, turn{"drop 200", "error none\n"}, turn{"show 1", "candidate 105 0 0\n"})
	text, want := talk(turns)
	wantService(t, text, want)
}

// What is shown goes by the peer: its role, Term, Commit, how many records it has,
// and the files of those that it has committed, in the order in which they came.
func TestServiceShow(t *testing.T) {
	turns := append(led(t), turn{"show 0", "leader 1 0 0\n"}, turn{"show 1", "follower 1 0 0\n"}, turn{"show 2", "follower 0 0 0\n"})
	turns = append(turns, linesSaying(t, "job 0 1 1 b 0 > 0", "job 0 1 2 a 0 s/o/0/ > 0")...)
	turns = append(turns, turn{"show 0", "leader 1 0 2\n"})
	turns = append(turns, linesSaying(t, "tick 0 > 2", "deliver 0 > 2")...)
	turns = append(turns, turn{"show 1", "follower 1 0 2\n"}, turn{"show 0", "leader 1 0 2\n"}, turn{"deliver 1", "ok 1\n"})
	first := shownFile("b", 1, newText) + shownFile("a", 1, "0ne\ntw0\nthree\n")
	turns = append(turns, turn{"show 0", "leader 1 2 2\n" + first}, turn{"show 1", "follower 1 0 2\n"})
	turns = append(turns, turn{"job 0 2 1 b 1 $d", "ok 1\n"}, turn{"show 0", "leader 1 2 3\n" + first})
	turns = append(turns, linesSaying(t, "tick 0 > 3", "deliver 1 > 3")...)
	turns = append(turns, turn{"show 1", "follower 1 2 3\n" + first}, turn{"deliver 2", "ok 2\n"})
	second := shownFile("b", 2, "one\ntwo\n") + shownFile("a", 1, "0ne\ntw0\nthree\n")
	// A peer that knows of less shows less, also behind one that showed more.
	turns = append(turns, turn{"show 0", "leader 1 3 3\n" + second}, turn{"show 1", "follower 1 2 3\n" + first}, turn{"show 2", "follower 0 0 0\n"}, turn{"show 0 ", "leader 1 3 3\n" + second})
	turns = append(turns, turn{"crash 1", "ok 2\n"}, turn{"show 1", "down 1 0 3\n"}, turn{"start 1", "ok 2\n"}, turn{"show 1", "follower 1 0 3\n"})
	turns = append(turns, turn{"deliver 0", "ok 2\n"}, turn{"show 2", "follower 1 0 2\n"})
	// Another one stands: a candidate shows what it had committed, and a leader that is none any more too.
	turns = append(turns, turn{"tick 2", "ok 4\n"}, turn{"show 2", "candidate 2 0 2\n"}, turn{"deliver 2", "ok 4\n"}, turn{"show 0", "follower 2 3 3\n" + second}, turn{"tick 0", "ok 6\n"}, turn{"show 0", "candidate 3 3 3\n" + second})
	turns = append(turns, turn{"crash 0", "ok 6\n"}, turn{"show 0", "down 3 0 3\n"}, turn{"crash 2", "ok 6\n"}, turn{"show 2", "down 2 0 2\n"}, turn{"show 1", "follower 1 0 3\n"})
	wantTalk(t, turns...)
}

// settled are lines behind which what a leader was asked for is committed by peers
// 0 and 1, where nothing is on its way ahead of them and behind.
func settled(t *testing.T) []turn {
	t.Helper()
	return linesSaying(t, "tick 0 > 2", "deliver 0 > 2", "deliver 1 > 1", "drop 0 > 0", "tick 0 > 2", "deliver 0 > 2", "drop 1 > 1", "drop 0 > 0")
}

// Jobs that are refused are records, too, and make no file; a job that comes again is done once.
func TestServiceJobs(t *testing.T) {
	turns := led(t)
	jobs := []string{"job 0 1 1 a 0 s/o/0/g", "job 0 1 1 a 1 d", "job 0 2 1 a 0", "job 0 3 1 a 1 z", "job 0 4 1 a-b 0", "job 0 5 1 0 0 p", "job 0 6 1 b 1", "job 0 7 1 c 0 s/(/", "job 0 1 2 a 1 1d", "job 0 1 1 d 0", "job 0 9 9 d 0 d", "job 0 9 10 a 2 a x y  z "}
	for _, job := range jobs {
		turns = append(turns, turn{job, "ok 0\n"})
	}
	turns = append(turns, settled(t)...)
	files := shownFile("a", 3, "tw0\nx y  z \nthree\nx y  z \n") + shownFile("d", 1, "")
	turns = append(turns, turn{"show 0", "leader 1 12 12\n" + files}, turn{"show 1", "follower 1 12 12\n" + files}, turn{"show 2", "follower 0 0 0\n"})
	wantTalk(t, turns...)
	// Of more files than there may be the first are there, each in its place.
	turns, files = led(t), ""
	for i := range 22 {
		turns = append(turns, turn{"job 0 1 " + itoa(i+1) + " f" + itoa(i) + " 0 " + itoa(i%3+1) + "d", "ok 0\n"})
		if i < 20 {
			files += shownFile("f"+itoa(i), 1, []string{"two\nthree\n", "one\nthree\n", "one\ntwo\n"}[i%3])
		}
	}
	turns = append(append(turns, settled(t)...), turn{"show 1", "follower 1 22 22\n" + files}, turn{"show 0", "leader 1 22 22\n" + files})
	text, want := talk(turns)
	wantService(t, text, want)
}

// Each code that an event can have, and that nothing changes then.
func TestServiceCodes(t *testing.T) {
	turns := []turn{}
	refuse := func(word string, lines ...string) {
		for _, line := range lines {
			turns = append(turns, turn{line, "error " + word + "\n"})
		}
	}
	refuse("none", "tick 3", "tick -1", "tick 999999999999999999", "crash 3", "crash -1", "start 3", "start -1 ", "job 3 1 1 a 0 p", "job -1 1 1 a 0 p", "deliver 0", "deliver -1", "drop 0", "double 0", "double 1 ", "job 999999999999999999 1 1 a 0")
	refuse("stale", "start 0", "start 1 ", "start 2", "job 0 1 1 a 0 p", "job 1 1 1 a 0", "job 2 1 1 a 0", "job 0 1 1 a 0 "+long(2000))
	refuse("syntax", "go", "tick", "tick x", "job 0 1 x", "job 0 0 1 a 0 p", "job 0 1 1 a 0 "+long(2001), "show 3", "error syntax", "ok 2", "job 0 2 3  2 s/o/0/g", "job 0 1 1  0")
	turns = append(turns, turn{"crash 0", "ok 0\n"})
	refuse("stale", "crash 0", "tick 0", "job 0 1 1 a 0 p", "job 0 1 1 a 0 "+long(2000))
	turns = append(turns, turn{"start 0", "ok 0\n"}, turn{"show 0", "follower 0 0 0\n"})
	turns = append(turns, led(t)...)
	refuse("none", "deliver 0", "drop 0", "double 0")
	turns = append(turns, turn{"tick 0", "ok 2\n"})
	refuse("none", "deliver 2", "drop 2", "double 2", "deliver -1")
	refuse("syntax", "job 0 1 1  0 p", "job 0 1 1  0")
	// A record has at most MaxData bytes: these are of a job that makes a file, and of one that does not.
	spare := 1000 - len(dataOf(1, 1, "a", 0, long(500), newText))
	turns = append(turns, turn{"job 0 1 1 a 0 #" + long(499+spare), "ok 2\n"})
	refuse("size", "job 0 1 1 a 0 #"+long(500+spare), "job 0 1 1 a 0 "+long(2000))
	spare += len(newText)
	turns = append(turns, turn{"job 0 1 1 a 1 #" + long(499+spare), "ok 2\n"})
	refuse("size", "job 0 1 1 a 1 #"+long(500+spare))
	turns = append(turns, turn{"show 0", "leader 1 0 2\n"}, turn{"show 1", "follower 1 0 0\n"})
	wantTalk(t, turns...)
}

// A log has at most MaxLog records, and all of them are applied.
func TestServiceLogFull(t *testing.T) {
	turns := led(t)
	for i := range 100 {
		turns = append(turns, turn{"job 0 1 " + itoa(i+1) + " a " + itoa(i) + " $a " + itoa(i), "ok 0\n"})
	}
	turns = append(turns, turn{"job 0 1 101 a 100 p", "error size\n"}, turn{"show 0", "leader 1 0 100\n"})
	turns = append(turns, settled(t)...)
	text := newText
	for i := range 100 {
		text += itoa(i) + "\n"
	}
	turns = append(turns, turn{"show 1", "follower 1 100 100\n" + shownFile("a", 100, text)}, turn{"job 0 1 101 a 100 p", "error size\n"})
	lines, want := talk(turns)
	wantService(t, lines, want)
}

// MaxLines lines are taken, whatever they are, and one more is ErrMany.
func TestServiceLinesMany(t *testing.T) {
	for _, c := range []struct{ line, said string }{{"", ""}, {"#", ""}, {"# tick 0", ""}, {"go", "error syntax\n"}, {"show 2", "follower 0 0 0\n"}, {"drop 0", "error none\n"}, {" ", "error syntax\n"}, {"start 0", "error stale\n"}} {
		for _, size := range []int{1, 299, 300} {
			lines := strings.Repeat(c.line+"\n", size)
			wantService(t, lines, strings.Repeat(c.said, size))
			// Without the last line end, unless that is all there was of the line.
			if c.line != "" {
				wantService(t, strings.TrimSuffix(lines, "\n"), strings.Repeat(c.said, size))
			}
		}
		for _, size := range []int{301, 302, 600, 4096, 4097, 6000} {
			wantServiceCode(t, strings.Repeat(c.line+"\n", size), impl.ErrMany)
		}
		full := strings.Repeat(c.line+"\n", 300)
		wantServiceCode(t, full+"x", impl.ErrMany)
		wantServiceCode(t, full+"#", impl.ErrMany)
		wantServiceCode(t, full+" ", impl.ErrMany)
		wantServiceCode(t, full+"\n", impl.ErrMany)
		wantServiceCode(t, "\n"+full, impl.ErrMany)
	}
	wantServiceCode(t, strings.Repeat("\n", 65536), impl.ErrMany)
}

// A text has at most MaxText bytes; beyond that it is ErrLong, however many lines it has.
func TestServiceSizes(t *testing.T) {
	for _, size := range []int{65535, 65536} {
		wantService(t, "#"+long(size-1), "")
		wantService(t, long(size), "error syntax\n")
		wantService(t, "tick 0\n#"+long(size-8), "ok 2\n")
		lines := strings.Repeat("#"+long(217)+"\n", 299)
		wantService(t, lines+"#"+long(size-len(lines)-1), "")
	}
	for _, size := range []int{65537, 65538, 200000} {
		wantServiceCode(t, long(size), impl.ErrLong)
		wantServiceCode(t, "#"+long(size-1), impl.ErrLong)
		wantServiceCode(t, "tick 0\n#"+long(size-8), impl.ErrLong)
		wantServiceCode(t, strings.Repeat("\n", size), impl.ErrLong)
	}
	// What is said may be longer than any text.
	turns := led(t)
	for i := range 20 {
		turns = append(turns, turn{"job 0 1 " + itoa(i+1) + " " + strings.Repeat(string(rune('a'+i)), 40) + " 0", "ok 0\n"})
	}
	turns = append(turns, settled(t)...)
	text, want := talk(turns)
	files := ""
	for i := range 20 {
		files += shownFile(strings.Repeat(string(rune('a'+i)), 40), 1, newText)
	}
	shows := 300 - len(turns)
	wantService(t, text+strings.Repeat("show 0\n", shows), want+strings.Repeat("leader 1 20 20\n"+files, shows))
	if len(files)*shows < 2*65536 {
		t.Error("what is said is no longer than", len(files)*shows)
	}
}

// Shows change nothing, wherever they stand among the lines.
func TestServiceShowsChangeNothing(t *testing.T) {
	turns := slices.Concat(led(t), []turn{{"job 0 1 1 a 0 p", "ok 0\n"}}, settled(t), []turn{{"job 0 1 2 a 1 d", "ok 0\n"}}, settled(t))
	text, want := talk(turns)
	wantService(t, text, want)
	for at := range turns {
		for _, show := range []string{"show 0\n", "show 1 \n", "show 2\nshow 2\n", "show 3\n", "# x\n\n"} {
			head, _ := talk(turns[:at])
			tail, tailSaid := talk(turns[at:])
			got, code := impl.Service(head + show + tail)
			if code != impl.OK || !strings.HasSuffix(got, tailSaid) {
				t.Fatalf("%q ahead of line %d: %.600q with code %d, want at last %.600q", show, at, got, code, tailSaid)
			}
		}
	}
}
