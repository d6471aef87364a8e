package tests

import (
	"slices"
	"strings"
	"testing"

	"loop.example/g00142/impl"
)

func jobOf(client, seq int, file string, version int, script, text string) impl.Job {
	return impl.Job{Client: client, Seq: seq, File: file, Version: version, Script: script, Text: text}
}

// done is the reply to a job that was done.
func done(version int, said string) impl.Reply {
	return impl.Reply{Version: version, Sha: keyOf(said)}
}

func failed(code int) impl.Reply { return impl.Reply{Code: code} }

func fileOf(name string, version int, text string) impl.File {
	return impl.File{Name: name, Version: version, Text: text}
}

func sessionOf(client, seq int, reply impl.Reply) impl.Session {
	return impl.Session{Client: client, Seq: seq, Reply: reply}
}

func stateOf(files []impl.File, sessions ...impl.Session) impl.State {
	return impl.State{Files: files, Sessions: sessions}
}

// manyFiles are so many, named f1, f2, .., each with its number as its Version.
func manyFiles(n int) []impl.File {
	var files []impl.File
	for i := 1; i <= n; i++ {
		files = append(files, fileOf("f"+itoa(i), i, itoa(i)+"\n"))
	}
	return files
}

// manySessions are of the clients 1, 2, .., each with Seq 5.
func manySessions(n int) []impl.Session {
	var sessions []impl.Session
	for i := 1; i <= n; i++ {
		sessions = append(sessions, sessionOf(i, 5, done(i, itoa(i))))
	}
	return sessions
}

func sameState(a, b impl.State) bool {
	return slices.Equal(a.Files, b.Files) && slices.Equal(a.Sessions, b.Sessions)
}

func isZeroState(s impl.State) bool { return s.Files == nil && s.Sessions == nil }

func shownReply(r impl.Reply) string {
	return "{" + impl.CodeWord(r.Code) + " " + itoa(r.Version) + " " + r.Sha + "}"
}

func shownJob(j impl.Job) string {
	flags := ""
	if j.Ere {
		flags += " ere"
	}
	if j.Quiet {
		flags += " quiet"
	}
	return itoa(j.Client) + ":" + itoa(j.Seq) + " " + quoted(j.File) + "@" + itoa(j.Version) + " " + quoted(j.Script) + " " + quoted(j.Text) + flags
}

func shownState(s impl.State) string {
	var b strings.Builder
	for _, f := range s.Files {
		b.WriteString(" " + f.Name + "@" + itoa(f.Version) + quoted(f.Text))
	}
	for _, x := range s.Sessions {
		b.WriteString(" " + itoa(x.Client) + ":" + itoa(x.Seq) + shownReply(x.Reply))
	}
	return b.String()
}

// wantApply holds what a job makes of a state, and that this is right.
func wantApply(t *testing.T, s impl.State, j impl.Job, want impl.State, reply impl.Reply) {
	t.Helper()
	got, gotReply, code := impl.Apply(s, j)
	if code != impl.OK || gotReply != reply || !sameState(got, want) {
		t.Errorf("Apply(%.200s, %.200s): %.400s and %s with code %d, want %.400s and %s", shownState(s), shownJob(j), shownState(got), shownReply(gotReply), code, shownState(want), shownReply(reply))
	}
	if !impl.StateOK(got) {
		t.Errorf("Apply(%.200s, %.200s) makes a state that is not right: %.400s", shownState(s), shownJob(j), shownState(got))
	}
}

// wantNoted holds that a job changes nothing but its client's session, which has
// its Seq and the reply, in its place or behind the others.
func wantNoted(t *testing.T, s impl.State, j impl.Job, reply impl.Reply) {
	t.Helper()
	wantApply(t, s, j, impl.State{Files: s.Files, Sessions: notedIn(s.Sessions, j, reply)}, reply)
}

func notedIn(sessions []impl.Session, j impl.Job, reply impl.Reply) []impl.Session {
	sessions = slices.Clone(sessions)
	for i := range sessions {
		if sessions[i].Client == j.Client {
			sessions[i] = sessionOf(j.Client, j.Seq, reply)
			return sessions
		}
	}
	return append(sessions, sessionOf(j.Client, j.Seq, reply))
}

// wantUnchanged holds that a job changes nothing at all.
func wantUnchanged(t *testing.T, s impl.State, j impl.Job, reply impl.Reply) {
	t.Helper()
	wantApply(t, s, j, s, reply)
}

// A job of a file that there is not makes it, of its own Text.
func TestJobMakesAFile(t *testing.T) {
	for _, c := range []struct {
		script, text string
		ere, quiet   bool
		said         string
	}{
		{"s/x/y/", "x\n", false, false, "y\n"}, {"", "", false, false, ""}, {"", "a\nb", false, false, "a\nb\n"}, {"p", "a", false, false, "a\na\n"}, {"p", "a", false, true, "a\n"}, {"p", "", false, false, ""}, {"d", "a\nb\n", false, false, ""}, {"", "a\n", false, true, ""}, {"s/a+/x/", "aa+\n", false, false, "ax\n"}, {"s/a+/x/", "aa+\n", true, false, "x+\n"}, {"s/a+/x/p", "aa+\n", true, true, "x+\n"}, {"i x", "\x00\xff\n", false, false, "x\n\x00\xff\n"}, {"1!G;h;$!d", "1\n2\n3\n", false, false, "3\n2\n1\n"}, {"s/.*/&&&/", strings.Repeat(long(10)+"\n", 100), false, false, strings.Repeat(long(30)+"\n", 100)}, {strings.Repeat(";", 2000), strings.Repeat("\n", 2000), false, false, strings.Repeat("\n", 2000)},
	} {
		j := impl.Job{Client: 7, Seq: 3, File: "new", Script: c.script, Text: c.text, Ere: c.ere, Quiet: c.quiet}
		reply := done(1, c.said)
		wantApply(t, impl.State{}, j, stateOf([]impl.File{fileOf("new", 1, c.said)}, sessionOf(7, 3, reply)), reply)
		s := stateOf(manyFiles(2), manySessions(2)...)
		want := stateOf(append(manyFiles(2), fileOf("new", 1, c.said)), append(manySessions(2), sessionOf(7, 3, reply))...)
		wantApply(t, s, j, want, reply)
	}
}

// A job of a file that there is edits its text, in its place; its Version is one more.
func TestJobEditsAFile(t *testing.T) {
	for place := range 20 {
		for _, size := range []int{place + 1, 20} {
			files := manyFiles(size)
			j := jobOf(9, 4, files[place].Name, place+1, "s/$/!/p", "")
			said := itoa(place+1) + "!\n" + itoa(place+1) + "!\n"
			want := manyFiles(size)
			want[place] = fileOf(files[place].Name, place+2, said)
			wantApply(t, stateOf(files), j, stateOf(want, sessionOf(9, 4, done(place+2, said))), done(place+2, said))
		}
	}
	text := strings.Repeat(long(99)+"\n", 80)
	for _, version := range []int{1, 2, 126, 127, 128, 999998, 999999} {
		s := stateOf([]impl.File{fileOf("_", version, text)})
		reply := done(version+1, text)
		wantApply(t, s, jobOf(1, 1, "_", version, "", ""), stateOf([]impl.File{fileOf("_", version+1, text)}, sessionOf(1, 1, reply)), reply)
	}
	// The file's text is asked, by the kind of pattern and as quietly as the job says.
	s := stateOf([]impl.File{fileOf("a", 1, "aa+\n")})
	for _, c := range []struct {
		ere, quiet bool
		said       string
	}{{false, false, "ax\nax\n"}, {true, false, "x+\nx+\n"}, {false, true, "ax\n"}, {true, true, "x+\n"}} {
		j := impl.Job{Client: 1, Seq: 1, File: "a", Version: 1, Script: "s/a+/x/p", Ere: c.ere, Quiet: c.quiet}
		reply := done(2, c.said)
		wantApply(t, s, j, stateOf([]impl.File{fileOf("a", 2, c.said)}, sessionOf(1, 1, reply)), reply)
	}
	// A file of another case, or that begins alike, is another one.
	for _, name := range []string{"A", "aa", "_", "a_", "a1"} {
		reply := done(1, "x\n")
		wantApply(t, s, jobOf(1, 1, name, 0, "", "x"), stateOf([]impl.File{fileOf("a", 1, "aa+\n"), fileOf(name, 1, "x\n")}, sessionOf(1, 1, reply)), reply)
	}
}

// ErrName unless File is a name; the session notes it.
func TestJobNames(t *testing.T) {
	for _, s := range []impl.State{{}, stateOf(manyFiles(20), manySessions(3)...)} {
		for _, name := range []string{"", "-", "1", "1a", "a-", "a b", " a", "a ", "a\n", "\x00", "ä", "a.b", "f1/", long(39) + "-", strings.Repeat("1", 40)} {
			for _, version := range []int{0, 1, 999999, 1000000} {
				wantNoted(t, s, jobOf(2, 6, name, version, "", ""), failed(impl.ErrName))
				wantNoted(t, s, jobOf(9, 1, name, version, "s/(", "x"), failed(impl.ErrName))
			}
		}
	}
	for _, name := range []string{"a", "_", "Z9", long(40), "_" + strings.Repeat("0", 39)} {
		reply := done(1, "x\n")
		wantApply(t, impl.State{}, jobOf(1, 1, name, 0, "", "x"), stateOf([]impl.File{fileOf(name, 1, "x\n")}, sessionOf(1, 1, reply)), reply)
	}
}

// ErrVersion unless Version is the file's, 0 if there is none.
func TestJobVersions(t *testing.T) {
	versions := []int{0, 1, 2, 3, 4, 127, 128, 999999, 1000000}
	for _, version := range versions {
		wantIt := func(s impl.State, name string, there int, text string) {
			t.Helper()
			j := jobOf(3, 8, name, version, "a x", text)
			if version == there && version != impl.MaxTerm && (there == 0 || text == "") {
				if _, reply, code := impl.Apply(s, j); code != impl.OK || reply.Code != impl.OK || reply.Version != version+1 {
					t.Errorf("Apply of Version %d to Version %d: %s with code %d", version, there, shownReply(reply), code)
				}
				return
			}
			wantNoted(t, s, j, failed(impl.ErrVersion))
		}
		for _, there := range versions[1:] {
			files := []impl.File{fileOf("b", 1, "b\n"), fileOf("a", there, "a\n"), fileOf("c", 3, "")}
			for _, text := range []string{"", "x", "a\n", "\n", strings.Repeat(long(99)+"\n", 20)} {
				wantIt(stateOf(files, manySessions(4)...), "a", there, text)
				wantIt(stateOf(files), "none", 0, text)
				wantIt(impl.State{}, "a", 0, text)
			}
		}
	}
}

// A Text is refused where there is a file, also where it would not matter.
func TestJobTextOfAFile(t *testing.T) {
	s := stateOf([]impl.File{fileOf("a", 4, "x\n"), fileOf("empty", 1, "")})
	for _, text := range []string{"x\n", "x", "\n", " ", "\x00", long(2000)} {
		wantNoted(t, s, jobOf(1, 1, "a", 4, "d", text), failed(impl.ErrVersion))
		wantNoted(t, s, jobOf(1, 1, "empty", 1, "d", text), failed(impl.ErrVersion))
	}
	reply := done(5, "")
	wantApply(t, s, jobOf(1, 1, "a", 4, "d", ""), stateOf([]impl.File{fileOf("a", 5, ""), fileOf("empty", 1, "")}, sessionOf(1, 1, reply)), reply)
}

// editFaults have a script and a text for each code that Edit may have of a job.
var editFaults = []struct {
	script, text string
	ere          bool
	code         int
}{
	{"s/(", "x", false, impl.ErrSyntax}, {"z", "", false, impl.ErrSyntax}, {"}", "", false, impl.ErrSyntax}, {"s/(/x/", "", true, impl.ErrSyntax}, {"{p", "x", false, impl.ErrSyntax},
	{"0p", "", false, impl.ErrRange}, {"s/a/b/513", "", false, impl.ErrRange}, {`/a\{21\}/p`, "", false, impl.ErrRange}, {"/a{21}/p", "", true, impl.ErrRange},
	{"w f", "", false, impl.ErrForbid}, {"s/a/b/e", "", false, impl.ErrForbid}, {`/\1/p`, "", true, impl.ErrForbid},
	{"b x", "", false, impl.ErrLabel}, {":x;:x", "", true, impl.ErrLabel},
	{strings.Repeat("p;", 61), "", false, impl.ErrMany}, {"/" + strings.Repeat("()", 10) + "/p", "", true, impl.ErrSyntax}, {"/" + strings.Repeat("(a)", 10) + "/p", "", true, impl.ErrMany},
	{"/" + long(201) + "/p", "", false, impl.ErrSize}, {"p", long(1001), false, impl.ErrSize}, {"/x/p", long(121), false, impl.ErrSize}, {"p;p;p;p;p", strings.Repeat(long(99)+"\n", 20), false, impl.ErrSize},
	{":a;b a", "x", false, impl.ErrSteps}, {":a;s/x/x/;t a", "x", true, impl.ErrSteps}, {"p", strings.Repeat("\n", 2000), false, impl.OK}, {"x;x", strings.Repeat("\n", 1001), false, impl.ErrSteps},
}

// Edit's code of the script is the job's: of the Text, or of a file's text.
func TestJobScripts(t *testing.T) {
	seen := make([]bool, 16)
	for _, c := range editFaults {
		if c.code == impl.OK {
			continue
		}
		seen[c.code] = true
		for _, quiet := range []bool{false, true} {
			j := impl.Job{Client: 2, Seq: 7, File: "new", Script: c.script, Text: c.text, Ere: c.ere, Quiet: quiet}
			for _, s := range []impl.State{{}, stateOf(manyFiles(3), manySessions(4)...)} {
				wantNoted(t, s, j, failed(c.code))
			}
			j.File, j.Version, j.Text = "old", 9, ""
			wantNoted(t, stateOf([]impl.File{fileOf("a", 9, "y\n"), fileOf("old", 9, c.text)}, manySessions(1)...), j, failed(c.code))
		}
	}
	for _, code := range []int{impl.ErrSyntax, impl.ErrRange, impl.ErrMany, impl.ErrForbid, impl.ErrLabel, impl.ErrSteps, impl.ErrSize} {
		if !seen[code] {
			t.Error("no script with code", code)
		}
	}
	// A text of MaxOut bytes is a file's, one byte more is not said.
	for _, c := range []struct {
		text, script string
		code         int
	}{
		{strings.Repeat(long(79)+"\n", 100), "", impl.OK}, {strings.Repeat(long(79)+"\n", 99) + long(79), "", impl.OK}, {strings.Repeat(long(79)+"\n", 99) + long(80), "", impl.ErrSize}, {strings.Repeat(long(79)+"\n", 100), "$s/$/x/", impl.ErrSize}, {strings.Repeat(long(79)+"\n", 100), "1s/a//", impl.OK},
	} {
		s := stateOf([]impl.File{fileOf("a", 1, c.text)})
		if _, reply, code := impl.Apply(s, jobOf(1, 1, "a", 1, c.script, "")); code != impl.OK || reply.Code != c.code {
			t.Errorf("Apply of %q to %d bytes: %s with code %d, want code %d", c.script, len(c.text), shownReply(reply), code, c.code)
		}
	}
}

// with is a job that is changed.
func with(j impl.Job, change func(*impl.Job)) impl.Job {
	change(&j)
	return j
}

// ErrMany if it were file MaxFiles and one; those that there are go on.
func TestJobFilesMany(t *testing.T) {
	full := stateOf(manyFiles(20), manySessions(2)...)
	wantNoted(t, full, jobOf(1, 6, "f21", 0, "", "x"), failed(impl.ErrMany))
	wantNoted(t, full, jobOf(3, 1, "F1", 0, "", ""), failed(impl.ErrMany))
	for i := range 20 {
		said := itoa(i+1) + "\n"
		files := manyFiles(20)
		files[i].Version++
		wantApply(t, full, jobOf(1, 6, "f"+itoa(i+1), i+1, "", ""), impl.State{Files: files, Sessions: notedIn(full.Sessions, jobOf(1, 6, "", 0, "", ""), done(i+2, said))}, done(i+2, said))
	}
	almost := stateOf(manyFiles(19), manySessions(2)...)
	reply := done(1, "x\n")
	wantApply(t, almost, jobOf(3, 1, "f20", 0, "", "x"), stateOf(append(manyFiles(19), fileOf("f20", 1, "x\n")), append(manySessions(2), sessionOf(3, 1, reply))...), reply)
	// A file that would be one too many is not there behind it.
	s, _, _ := impl.Apply(full, jobOf(1, 6, "f21", 0, "", "x"))
	wantNoted(t, s, jobOf(1, 7, "f21", 1, "", ""), failed(impl.ErrVersion))
	wantNoted(t, s, jobOf(1, 7, "f21", 0, "", ""), failed(impl.ErrMany))
}

// Where several faults hold the first one counts: the session's, the name's, the
// version's, the script's, the files'.
func TestJobCodesInOrder(t *testing.T) {
	for faults := range 16 {
		j, want := jobOf(4, 6, "f21", 0, "p", "x"), impl.OK
		files := manyFiles(19)
		if faults&1 != 0 {
			files, want = manyFiles(20), impl.ErrMany
		}
		if faults&2 != 0 {
			j.Script, want = "0p", impl.ErrRange
		}
		if faults&4 != 0 {
			j.Version, want = 1, impl.ErrVersion
		}
		if faults&8 != 0 {
			j.File, want = "f-21", impl.ErrName
		}
		some := stateOf(files, manySessions(4)...)
		_, reply, code := impl.Apply(some, j)
		if code != impl.OK || reply.Code != want {
			t.Errorf("Apply with faults %d: %s with code %d, want code %d", faults, shownReply(reply), code, want)
		}
		if want != impl.OK {
			wantNoted(t, some, j, failed(want))
			wantNoted(t, stateOf(files), j, failed(want))
		}
		wantUnchanged(t, some, with(j, func(j *impl.Job) { j.Seq = 5 }), done(4, "4"))
		wantUnchanged(t, some, with(j, func(j *impl.Job) { j.Seq = 4 }), failed(impl.ErrStale))
		wantUnchanged(t, stateOf(files, manySessions(200)...), with(j, func(j *impl.Job) { j.Client = 201 }), failed(impl.ErrMany))
	}
	// A file that there is: its version's and text's faults come ahead of the script's.
	s := stateOf([]impl.File{fileOf("a", 2, "x\n"), fileOf("top", 1000000, "x\n")})
	wantNoted(t, s, jobOf(1, 1, "a", 1, "0p", ""), failed(impl.ErrVersion))
	wantNoted(t, s, jobOf(1, 1, "a", 0, "0p", "x"), failed(impl.ErrVersion))
	wantNoted(t, s, jobOf(1, 1, "a", 2, "0p", "x"), failed(impl.ErrVersion))
	wantNoted(t, s, jobOf(1, 1, "top", 1000000, "0p", ""), failed(impl.ErrVersion))
	wantNoted(t, s, jobOf(1, 1, "top", 1000000, "", ""), failed(impl.ErrVersion))
	wantNoted(t, s, jobOf(1, 1, "top", 999999, "", ""), failed(impl.ErrVersion))
	wantNoted(t, s, jobOf(1, 1, "a", 2, "0p", ""), failed(impl.ErrRange))
}
