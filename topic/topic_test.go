package topic_test

import (
	"math/rand"
	"strings"
	"testing"

	"kiosk/api"
	"kiosk/topic"
)

func x(n int) string { return strings.Repeat("x", n) }

func TestName(t *testing.T) {
	for _, s := range []string{"a", "/", "//", "a/b/c", x(64), "$SYS", " ", "é", "\u0001", strings.Repeat("é", 32)} {
		if e := topic.Name(s); e != api.OK {
			t.Errorf("%q: %v", s, e)
		}
	}
	for _, s := range []string{"", x(65), "+", "#", "a/+", "a/#", "a+b", "a#", "\x00", "a\x00", "\xff", "a\xed\xa0\x80", "\xc0\x80", strings.Repeat("é", 32) + "x", x(1 << 20)} {
		if e := topic.Name(s); e != api.ErrForm {
			t.Errorf("%.99q: %v", s, e)
		}
	}
}

func TestFilter(t *testing.T) {
	for _, s := range []string{"a", "/", "+", "#", "+/+", "/+", "+/", "/#", "+/#", "a/+/b/#", "$SYS/#", "a//b", x(62) + "/#", x(64), "é/+"} {
		if e := topic.Filter(s); e != api.OK {
			t.Errorf("%q: %v", s, e)
		}
	}
	for _, s := range []string{"", x(65), "a+", "+a", "a/b+/c", "++", "##", "a#", "#a", "#/a", "a/#/b", "#/", "a/#b", "+#", "#+", "a/+#", "\x00", "+/\x00", "\xff", x(63) + "/#"} {
		if e := topic.Filter(s); e != api.ErrForm {
			t.Errorf("%q: %v", s, e)
		}
	}
}

func TestMatch(t *testing.T) {
	for _, c := range []struct {
		f, t string
		ok   bool
	}{
		{"a/#", "a", true}, {"a/#", "a/", true}, {"a/#", "a/a", true}, {"a/#", "a/b/c", true}, {"a/#", "b", false}, {"a/#", "ab", false}, {"a/#", "/a", false},
		{"+/a", "/a", true}, {"+/a", "b/a", true}, {"+/a", "a", false}, {"+/a", "/b/a", false}, {"+", "a", true}, {"+", "/", false}, {"+", "a/", false}, {"+/+", "/", true}, {"+/+", "a", false},
		{"#", "a", true}, {"#", "/", true}, {"#", "a/b", true}, {"#", "$b", false}, {"#", "a/$b", true}, {"+", "$b", false}, {"+/b", "$a/b", false}, {"+/#", "$a", false}, {"$a/#", "$a", true}, {"$a/+", "$a/b", true}, {"$a", "$a", true}, {"/+", "/$a", true}, {"a/+", "a/$b", true},
		{"/#", "/", true}, {"/#", "/a", true}, {"/#", "a", false}, {"a/+/c", "a//c", true}, {"a/+/c", "a/b/c", true}, {"a/+/c", "a/c", false}, {"a/+", "a", false}, {"a/+", "a/", true}, {"a/+/#", "a", false}, {"a/+/#", "a/b", true},
		{"a", "a", true}, {"a", "A", false}, {"a", "a/", false}, {"a/", "a", false}, {"a/b", "a", false}, {"a", "a/b", false}, {"//", "//", true}, {"//", "/", false},
	} {
		if ok, e := topic.Match(c.f, c.t); ok != c.ok || e != api.OK {
			t.Errorf("%q, %q: %v, %v", c.f, c.t, ok, e)
		}
	}
	for _, c := range [][2]string{{"", "a"}, {"a", ""}, {"a+", "a"}, {"a", "+"}, {"#", "#"}, {"a/#/b", "a"}, {"\xff", "a"}, {"#", "\xff"}, {x(65), "a"}, {"#", x(65)}} {
		if ok, e := topic.Match(c[0], c[1]); ok || e != api.ErrForm {
			t.Errorf("%q: %v, %v", c, ok, e)
		}
	}
}

// fits tells by recursion whether levels of a filter match levels of a name.
func fits(f, t []string) bool {
	switch {
	case len(f) == 0:
		return len(t) == 0
	case f[0] == "#":
		return true
	}
	return len(t) > 0 && (f[0] == "+" || f[0] == t[0]) && fits(f[1:], t[1:])
}

func TestAgainstModel(t *testing.T) {
	r := rand.New(rand.NewSource(1))
	text := func(letters string) string {
		var b strings.Builder
		for range 1 + r.Intn(7) {
			b.WriteByte(letters[r.Intn(len(letters))])
		}
		return b.String()
	}
	matched := 0
	for range 100000 {
		f, n := text("a/+#/$"), text("aa//$")
		want := topic.Filter(f) == api.OK
		got, e := topic.Match(f, n)
		if (e == api.OK) != want {
			t.Fatal(f, n, e)
		}
		ok := want && fits(strings.Split(f, "/"), strings.Split(n, "/")) && !(n[0] == '$' && strings.ContainsAny(f[:1], "+#"))
		if got != ok {
			t.Fatalf("%q, %q: %v", f, n, got)
		}
		if ok {
			matched++
		}
		if other := text("ab/"); topic.Filter(n) == api.OK {
			if same, e := topic.Match(n, other); same != (n == other) || e != api.OK {
				t.Fatalf("%q as a filter, and %q: %v", n, other, same)
			}
		}
	}
	if matched < 1000 {
		t.Error(matched)
	}
}
