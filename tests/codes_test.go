package tests

import (
	"testing"

	"loop.example/g00142/impl"
)

func TestBounds(t *testing.T) {
	if impl.MaxText != 65536 || impl.MaxList != 4096 || impl.MaxName != 40 || impl.MaxFrame != 4096 {
		t.Error("bounds", impl.MaxText, impl.MaxList, impl.MaxName, impl.MaxFrame)
	}
}

func letter(c int) bool {
	return c >= 'a' && c <= 'z' || c >= 'A' && c <= 'Z' || c == '_'
}

func TestNameBytes(t *testing.T) {
	for c := range 256 {
		b := string([]byte{byte(c)})
		digit := c >= '0' && c <= '9'
		if got := impl.NameOK(b); got != letter(c) {
			t.Errorf("NameOK %q %v", b, got)
		}
		for _, name := range []string{"x" + b, "x" + b + "y", "_9" + b} {
			if got := impl.NameOK(name); got != (letter(c) || digit) {
				t.Errorf("NameOK %q %v", name, got)
			}
		}
		if impl.NameOK("7" + b) {
			t.Errorf("NameOK %q", "7"+b)
		}
	}
}

func TestNameLengths(t *testing.T) {
	for size, want := range map[int]bool{0: false, 1: true, 2: true, 39: true, 40: true, 41: false, 42: false,
		impl.MaxText: false, impl.MaxText + 1: false} {
		if got := impl.NameOK(long(size)); got != want {
			t.Error("NameOK of length", size, got)
		}
	}
}

func TestNameWhole(t *testing.T) {
	for name, want := range map[string]bool{"a": true, "Z": true, "_": true, "__": true, "_0": true, "File_9": true,
		"9": false, "9a": false, "a b": false, " a": false, "a ": false, "a-b": false, "a.b": false, "a\n": false,
		"\x00": false, "é": false, "aé": false} {
		if got := impl.NameOK(name); got != want {
			t.Errorf("NameOK %q %v", name, got)
		}
	}
}

var codes = []struct {
	number, code int
	word         string
}{
	{0, impl.OK, "ok"}, {1, impl.ErrBad, "bad"}, {2, impl.ErrLong, "long"}, {3, impl.ErrForm, "form"},
	{4, impl.ErrSyntax, "syntax"}, {5, impl.ErrRange, "range"}, {6, impl.ErrNone, "none"}, {7, impl.ErrMany, "many"},
	{8, impl.ErrSum, "sum"}, {9, impl.ErrName, "name"}, {10, impl.ErrVersion, "version"}, {11, impl.ErrForbid, "forbid"},
	{12, impl.ErrLabel, "label"}, {13, impl.ErrSteps, "steps"}, {14, impl.ErrSize, "size"}, {15, impl.ErrStale, "stale"},
}

func TestCodes(t *testing.T) {
	for i, c := range codes {
		if c.number != i || c.code != i {
			t.Error("number", c)
		}
		if got := impl.CodeWord(c.code); got != c.word {
			t.Errorf("CodeWord %d %q", c.code, got)
		}
		if got := impl.CodeOf(c.word); got != c.code {
			t.Errorf("CodeOf %q %d", c.word, got)
		}
	}
}

func TestNoCodes(t *testing.T) {
	for _, n := range []int{-1, -2, 16, 17, 100, 255, 256, 65536, greatest, least, least + 15} {
		if got := impl.CodeWord(n); got != "" {
			t.Errorf("CodeWord %d %q", n, got)
		}
	}
	for _, w := range []string{"", " ", "OK", "Ok", "o", "k", "okay", "ok ", " ok", "ok\n", "stal", "stales", "badlong",
		"0", "\x00", long(impl.MaxText), long(impl.MaxText + 1), "ok" + long(impl.MaxText)} {
		if got := impl.CodeOf(w); got != -1 {
			t.Errorf("CodeOf of length %d: %d", len(w), got)
		}
	}
}
