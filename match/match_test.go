package match

import (
	"strings"
	"testing"

	"burgess/api"
)

// P15.1: Norm, syntax by syntax.
func TestNorm(t *testing.T) {
	full := strings.Repeat("a", api.MaxValue)
	for i, c := range []struct {
		syntax int
		val    string
		want   string
		ok     bool
	}{
		{api.SynText, "", "", false}, {api.SynText, " ", " ", true}, {api.SynText, "   ", " ", true}, {api.SynText, " A  b", "a b", true}, {api.SynText, full, full, true}, {api.SynText, full + "a", "", false},
		{api.SynText, "\x00\xff", "\x00\xff", true}, {api.SynText, strings.Repeat(" ", 257), "", false},
		{api.SynNumber, "12", "12", true}, {api.SynNumber, "012", "", false}, {api.SynNumber, "", "", false},
		{api.SynName, "", "", true}, {api.SynName, "CN = A  b , o=\\2C", "cn=a b,o=\\,", true}, {api.SynName, "cn", "", false}, {api.SynName, "cn=\\20", "cn=\\ ", true}, {api.SynName, strings.Repeat("a=1,", 12) + "a=1", "", false},
		{api.SynBytes, "", "", true}, {api.SynBytes, " A  ", " A  ", true}, {api.SynBytes, full, full, true}, {api.SynBytes, full + "a", "", false},
		{api.SynPhone, "", "", false}, {api.SynPhone, " - -", "", false}, {api.SynPhone, "+1 23-4A", "+1234A", true}, {api.SynPhone, strings.Repeat("-", 255) + "1", "1", true}, {api.SynPhone, strings.Repeat("-", 256) + "1", "", false},
		{0, "a", "", false}, {6, "a", "", false}, {-1, "", "", false}, {1 << 62, "a", "", false},
	} {
		if got, ok := Norm(c.syntax, c.val); got != c.want || ok != c.ok {
			t.Error(i, got, ok)
		}
	}
}

// P15.2: Number.
func TestNumber(t *testing.T) {
	for _, s := range []string{"0", "1", "-1", "10", "-10", "999999999999999999", "-999999999999999999"} {
		if got, ok := Number(s); got != s || !ok {
			t.Error(s, got)
		}
	}
	for _, s := range []string{"", "-", "-0", "00", "01", "-01", "+1", " 1", "1 ", "--1", "1-", "a", "1a", "1000000000000000000", "-1000000000000000000", "1\x00", "0x1", "1_0", "1.0"} {
		if got, ok := Number(s); got != "" || ok {
			t.Error(s, got)
		}
	}
}

// P15.3: Equal and Less.
func TestEqualLess(t *testing.T) {
	for i, c := range []struct {
		syntax    int
		a, b      string
		equal     bool
		less, can bool
	}{
		{api.SynText, " A  b", "a B", true, false, true}, {api.SynText, "a", "B", false, true, true}, {api.SynText, "b", "A", false, false, true}, {api.SynText, "", "", false, false, false}, {api.SynText, "a", "", false, false, false},
		{api.SynText, "", "a", false, false, false}, {api.SynText, " ", "  ", true, false, true}, {api.SynText, "10", "9", false, true, true},
		{api.SynNumber, "10", "9", false, false, true}, {api.SynNumber, "9", "10", false, true, true}, {api.SynNumber, "-10", "-9", false, true, true}, {api.SynNumber, "-1", "0", false, true, true}, {api.SynNumber, "5", "5", true, false, true},
		{api.SynNumber, "-999999999999999999", "999999999999999999", false, true, true}, {api.SynNumber, "05", "5", false, false, false}, {api.SynNumber, "5", "x", false, false, false},
		{api.SynName, "cn=A", "CN= a", true, false, false}, {api.SynName, "cn=a", "cn=b", false, false, false}, {api.SynName, "", "", true, false, false}, {api.SynName, "x", "x", false, false, false},
		{api.SynBytes, "a", "A", false, false, true}, {api.SynBytes, "A", "a", false, true, true}, {api.SynBytes, "", "", true, false, true}, {api.SynBytes, "", "\x00", false, true, true},
		{api.SynPhone, "1 2-3", "123", true, false, true}, {api.SynPhone, "12", "1-3", false, true, true}, {api.SynPhone, "-", "-", false, false, false}, {0, "a", "a", false, false, false}, {99, "a", "b", false, false, false},
	} {
		if got := Equal(c.syntax, c.a, c.b); got != c.equal {
			t.Error(i, got)
		}
		if less, can := Less(c.syntax, c.a, c.b); less != c.less || can != c.can {
			t.Error(i, less, can)
		}
	}
}

// P15.3: Sub; the example.
func TestSub(t *testing.T) {
	l := func(s ...string) []string { return s }
	many := make([]string, 17)
	for i, c := range []struct {
		syntax   int
		val      string
		subs     []string
		has, can bool
	}{
		{api.SynText, "John Smith", l("jo", "n s", "th"), true, true}, {api.SynText, "John Smith", l("jo", "th"), true, true}, {api.SynText, "John Smith", l("", "SM", ""), true, true},
		{api.SynText, "ab", l("ab", "b"), false, true}, {api.SynText, "ab", l("a", "b"), true, true}, {api.SynText, "aba", l("ab", "ba"), false, true}, {api.SynText, "abab", l("ab", "ab"), true, true},
		{api.SynText, "abcbc", l("a", "bc", "bc"), true, true}, {api.SynText, "abc", l("a", "bc", "c"), false, true}, {api.SynText, "abc", l("", "c", "b", ""), false, true}, {api.SynText, "abc", l("b", ""), false, true}, {api.SynText, "abc", l("", "b"), false, true},
		{api.SynText, "a b", l("a ", "b"), true, true}, {api.SynText, "a  b", l("a   ", ""), true, true}, {api.SynText, "a b", l("", " B"), true, true}, {api.SynText, "a b", l("", "  ", ""), true, true}, {api.SynText, "ab", l("", " ", ""), false, true},
		{api.SynText, "a b", l("a ", " b"), false, true}, {api.SynText, " ab ", l(" a", ""), false, true}, {api.SynText, "ab", l("", "b "), false, true}, {api.SynText, "a b c", l("", " b ", ""), true, true}, {api.SynText, "a B  c", l("", "A  b C", ""), true, true},
		{api.SynText, "   ", l(" ", ""), true, true}, {api.SynText, "abc", l("", ""), true, true}, {api.SynText, "abc", l("", "", ""), true, true}, {api.SynText, "", l("", ""), false, false},
		{api.SynPhone, "12-34 5", l("1 2", "-3", "45"), true, true}, {api.SynPhone, "12345", l("-", " ", "5"), true, true}, {api.SynPhone, "12345", l("12", "24"), false, true}, {api.SynPhone, "-", l("", ""), false, false},
		{api.SynBytes, "a  B", l("a ", " B"), true, true}, {api.SynBytes, "aB", l("A", ""), false, true}, {api.SynBytes, "", l("", ""), true, true}, {api.SynBytes, "a\x00b", l("", "\x00", ""), true, true},
		{api.SynNumber, "12", l("1", "2"), false, false}, {api.SynName, "cn=a", l("c", "a"), false, false}, {0, "a", l("a", ""), false, false}, {9, "a", l("a", ""), false, false},
		{api.SynText, "a", nil, false, false}, {api.SynText, "a", l("a"), false, false}, {api.SynText, "a", many[:16], true, true}, {api.SynText, "a", many, false, false},
		{api.SynBytes, strings.Repeat("a", 257), l("a", ""), false, false}, {api.SynText, "a", l(strings.Repeat("a", 999), ""), false, true},
	} {
		if has, can := Sub(c.syntax, c.val, c.subs); has != c.has || can != c.can {
			t.Error(i, has, can)
		}
	}
	subs := append(make([]string, 0, 3), "A ", "B")
	if Sub(api.SynText, "a b", subs); subs[0] != "A " || subs[:3][2] != "" {
		t.Error(subs)
	}
}

// P15.4: Norm of Norm is Norm.
func TestTwice(t *testing.T) {
	x := uint32(7)
	draw := func(n int) int {
		x = x*1664525 + 1013904223
		return int(x>>8) % n
	}
	some := "  aAzZ-0123,=\\\x00\xffcn"
	for range 20000 {
		b := make([]byte, draw(9))
		for i := range b {
			b[i] = some[draw(len(some))]
		}
		val := string(b)
		if draw(2) == 0 {
			val = "cn=" + val
		}
		for syntax := range 7 {
			n, ok := Norm(syntax, val)
			if !ok {
				continue
			}
			if again, ok := Norm(syntax, n); !ok || again != n || !Equal(syntax, val, n) {
				t.Errorf("%d %q %q %q", syntax, val, n, again)
			}
		}
	}
}
