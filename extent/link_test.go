package extent

import (
	"slices"
	"testing"
)

// linked is a list of texts.
func linked(texts ...string) *link[string] {
	first := &link[string]{}
	last := first
	for _, s := range texts {
		last.put(s)
		last = last.next
	}
	return first
}

func same(t *testing.T, what string, l *link[string], want ...string) {
	t.Helper()
	if got := slices.Collect(l.all()); !slices.Equal(got, want) {
		t.Error(what, got, "not", want)
	}
}

// TestLinkPutCut: at the first place, between two, and at the last.
func TestLinkPutCut(t *testing.T) {
	for at := range 4 {
		l := linked("a", "b", "c")
		where := l
		for range at {
			where = where.next
		}
		where.put("x")
		same(t, "put", l, slices.Insert([]string{"a", "b", "c"}, at, "x")...)
		where.cut()
		same(t, "cut", l, "a", "b", "c")
	}
	l := linked()
	same(t, "none", l)
	l.put("x")
	same(t, "the first one", l, "x")
	l.cut()
	same(t, "none again", l)
}

// TestLinkPast: up to the first one that is not told, though others behind it are.
func TestLinkPast(t *testing.T) {
	l := linked("a", "bb", "c", "dd")
	for want, told := range map[string]func(string) bool{
		"":   func(string) bool { return false },
		"a":  func(s string) bool { return len(s) == 1 },
		"bb": func(s string) bool { return s < "c" },
		"dd": func(string) bool { return true },
	} {
		if got := l.past(told); got.thing != want {
			t.Error(got.thing, "not", want)
		}
	}
	none := linked()
	if none.past(func(string) bool { return true }) != none {
		t.Error("none")
	}
}

// TestP4LinkAnother: two lists with the same share no link.
func TestP4LinkAnother(t *testing.T) {
	for many := range 4 {
		texts := []string{"a", "b", "c"}[:many]
		l := linked(texts...)
		other := l.another()
		same(t, "another", other, texts...)
		for at, to := l, other; at != nil; at, to = at.next, to.next {
			if at == to {
				t.Fatal(many, at.thing)
			}
			to.thing += "!"
		}
		other.put("x")
		same(t, "the first one", l, texts...)
	}
}

// TestLinkIsLeft: who goes through a list may stop, and begin again.
func TestLinkIsLeft(t *testing.T) {
	all := linked("a", "b", "c").all()
	for range 2 {
		for many := range 4 {
			var got []string
			for s := range all {
				if len(got) == many {
					break
				}
				got = append(got, s)
			}
			if !slices.Equal(got, []string{"a", "b", "c"}[:many]) {
				t.Error(many, got)
			}
		}
	}
}
