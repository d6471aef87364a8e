package impl

const (
	MaxText = 65536
	MaxList = 4096
	MaxName = 40

	OK         = 0
	ErrBad     = 1
	ErrLong    = 2
	ErrForm    = 3
	ErrSyntax  = 4
	ErrRange   = 5
	ErrNone    = 6
	ErrMany    = 7
	ErrSum     = 8
	ErrName    = 9
	ErrVersion = 10
	ErrForbid  = 11
	ErrLabel   = 12
	ErrSteps   = 13
	ErrSize    = 14
	ErrStale   = 15
)

// codeWords has the word of each code at the code's own place.
var codeWords = [...]string{
	"ok", "bad", "long", "form", "syntax", "range", "none", "many",
	"sum", "name", "version", "forbid", "label", "steps", "size", "stale",
}

func isLetter(c byte) bool {
	return 'a' <= c && c <= 'z' || 'A' <= c && c <= 'Z' || c == '_'
}

func isDigit(c byte) bool { return '0' <= c && c <= '9' }

func NameOK(t string) bool {
	if len(t) == 0 || len(t) > MaxName || !isLetter(t[0]) {
		return false
	}
	for i := 1; i < len(t); i++ {
		if !isLetter(t[i]) && !isDigit(t[i]) {
			return false
		}
	}
	return true
}

func CodeWord(code int) string {
	if code < 0 || code >= len(codeWords) {
		return ""
	}
	return codeWords[code]
}

func CodeOf(word string) int {
	for code := range len(codeWords) {
		if codeWords[code] == word {
			return code
		}
	}
	return -1
}
