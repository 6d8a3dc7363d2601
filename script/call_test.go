package script

import (
	"math"
	"slices"
	"strings"
	"testing"

	"embrasure/api"
)

// saying is a call, and the words that say it.
type saying struct {
	words string
	call  api.Posix
}

// sayings are calls of each kind, each part with a value of its own.
func sayings() []saying {
	return []saying{
		{"fork 3", api.Posix{Kind: api.ForkIt, Pid: 3}},
		{"exit 3 4", api.Posix{Kind: api.ExitIt, Pid: 3, N: 4}},
		{"wait 3", api.Posix{Kind: api.WaitIt, Pid: 3}},
		{"kill 3 4", api.Posix{Kind: api.KillIt, Pid: 3, N: 4}},
		{"poke 3 4 5", api.Posix{Kind: api.PokeIt, Pid: 3, N: 4, M: 5}},
		{"peek 3 4", api.Posix{Kind: api.PeekIt, Pid: 3, N: 4}},
		{"pipe 3", api.Posix{Kind: api.PipeIt, Pid: 3}},
		{"open 3 tx 5", api.Posix{Kind: api.OpenIt, Pid: 3, M: 5, Text: "tx"}},
		{"read 3 5 4", api.Posix{Kind: api.ReadIt, Pid: 3, N: 4, M: 5}},
		{"write 3 5 tx", api.Posix{Kind: api.WriteIt, Pid: 3, M: 5, Text: "tx"}},
		{"seek 3 5 4", api.Posix{Kind: api.SeekIt, Pid: 3, N: 4, M: 5}},
		{"dup 3 5", api.Posix{Kind: api.DupIt, Pid: 3, M: 5}},
		{"close 3 5", api.Posix{Kind: api.CloseIt, Pid: 3, M: 5}},
		{"unlink 3 tx", api.Posix{Kind: api.UnlinkIt, Pid: 3, Text: "tx"}},
	}
}

// called are words that must say a call.
func called(t *testing.T, words []string, want api.Posix) {
	t.Helper()
	if got, ok := Call(words); got != want || !ok {
		t.Errorf("%q: %+v %t, not %+v", words, got, ok, want)
	}
}

// unsaid are words that must say no call.
func unsaid(t *testing.T, words []string) {
	t.Helper()
	if got, ok := Call(words); got != (api.Posix{}) || ok {
		t.Errorf("%q: %+v %t", words, got, ok)
	}
}

// notPrinted is a call that must be no line.
func notPrinted(t *testing.T, c api.Posix) {
	t.Helper()
	if line, e := Print(c); line != "" || e != api.ErrForm {
		t.Errorf("%+v: %q %d", c, line, e)
	}
}

// TestP26_1Kinds: each kind has its word and its parts; as many words as it asks for, and neither less nor more.
func TestP26_1Kinds(t *testing.T) {
	if len(sayings()) != int(api.Posixes)-1 {
		t.Fatal("not all kinds")
	}
	for _, s := range sayings() {
		words := strings.Fields(s.words)
		called(t, words, s.call)
		if line, e := Print(s.call); line != "sys "+s.words || e != api.OK {
			t.Errorf("%+v: %q %d", s.call, line, e)
		}
		for many := range len(words) {
			unsaid(t, words[:many])
		}
		for _, more := range []string{"0", "1", "tx", "", " "} {
			unsaid(t, append(slices.Clone(words), more))
		}
		unsaid(t, append([]string{"sys"}, words...))
	}
}

// TestP26_1NoKind: words that are no call's.
func TestP26_1NoKind(t *testing.T) {
	unsaid(t, nil)
	unsaid(t, []string{})
	for _, word := range []string{"", "sys", "Fork", "FORK", "forks", "for", " fork", "fork ", "fork\n", "none", "0", "text", "load", "step", "sleep", "\xff", "fork\x00"} {
		for many := range 5 {
			unsaid(t, append([]string{word}, slices.Repeat([]string{"1"}, many)...))
		}
	}
}

// badNumbers are words that are no number.
func badNumbers() []string {
	return []string{
		"", " ", "00", "01", "007", "0000", "0001", "10000", "99999", "00000", "123456789012345678901234567890", "-1", "-0", "+1", "1.", "1.0", "1e3", "x1", "0x1", "xff", "'a'", "a", "1a", "a1", "1_0",
		" 1", "1 ", "1\n", "\t1", "1\x00", "٣", "１", "\xff", "1\xff", "_", "--1", "=",
	}
}

// goodNumbers are words that are one.
func goodNumbers() map[string]int {
	return map[string]int{"0": 0, "1": 1, "9": 9, "10": 10, "99": 99, "100": 100, "255": 255, "256": 256, "999": 999, "1000": 1000, "9998": 9998, "9999": 9999, "4096": 4096, "8192": 8192}
}

// TestP26_1Numbers: from one to four digits without noughts ahead, in each place where a number stands.
func TestP26_1Numbers(t *testing.T) {
	for _, s := range sayings() {
		for i, word := range strings.Fields(s.words) {
			if i == 0 || word == "tx" {
				continue
			}
			words := strings.Fields(s.words)
			for _, bad := range badNumbers() {
				words[i] = bad
				unsaid(t, words)
			}
			for good, n := range goodNumbers() {
				words[i] = good
				want := s.call
				switch word {
				case "3":
					want.Pid = n
				case "4":
					want.N = n
				case "5":
					want.M = n
				}
				called(t, words, want)
				if line, e := Print(want); line != "sys "+strings.Join(words, " ") || e != api.OK {
					t.Errorf("%+v: %q %d", want, line, e)
				}
			}
		}
	}
}

// badTexts are those that cannot stand in a line.
func badTexts() []string {
	return []string{"", " ", "\n", "a b", " a", "a ", "a\nb", "\na", "a\n", "\xff \xff", strings.Repeat("a", 9999) + " "}
}

// goodTexts are those that can.
func goodTexts() []string {
	return []string{"a", "0", "17", "f", "sys", "%", "a%20b", "_", "a_b", "\t", "\r", "\x00", "\xff", "β", "ä\xce", "\u00a0", ";", strings.Repeat("x", 9999)}
}

// TestP26_1Text: any text but an empty one, and one with a blank or a line feed.
func TestP26_1Text(t *testing.T) {
	for _, s := range sayings() {
		if s.call.Text == "" {
			continue
		}
		words := strings.Fields(s.words)
		at := slices.Index(words, "tx")
		c := s.call
		for _, text := range badTexts() {
			words[at], c.Text = text, text
			unsaid(t, words)
			notPrinted(t, c)
		}
		for _, text := range goodTexts() {
			words[at], c.Text = text, text
			called(t, words, c)
			if line, e := Print(c); line != "sys "+strings.Join(words, " ") || e != api.OK {
				t.Errorf("%+v: %q %d", c, line, e)
			}
		}
	}
}

// TestP26_1PrintKinds: a kind that is none has no line, with any parts.
func TestP26_1PrintKinds(t *testing.T) {
	for _, kind := range []api.PosixKind{api.NoPosix, api.Posixes, api.Posixes + 1, 100, 254, 255} {
		for _, n := range []int{0, 1, 9999} {
			for _, text := range []string{"", "a"} {
				notPrinted(t, api.Posix{Kind: kind, Pid: n, N: n, M: n, Text: text})
			}
		}
	}
}

// TestP26_1PrintUnnamed: what a call's line does not name must be zero.
func TestP26_1PrintUnnamed(t *testing.T) {
	for _, s := range sayings() {
		for _, n := range []int{1, -1, 9999, 10000, 256, 1 << 32, math.MinInt, math.MaxInt} {
			c := s.call
			if c.N == 0 {
				c.N = n
				notPrinted(t, c)
			}
			c = s.call
			if c.M == 0 {
				c.M = n
				notPrinted(t, c)
			}
		}
		for _, text := range append(goodTexts(), badTexts()[1:]...) {
			c := s.call
			if c.Text == "" {
				c.Text = text
				notPrinted(t, c)
			}
		}
	}
}

// TestP26_1PrintNumbers: numbers from 0 to 9999 have a line, others do not.
func TestP26_1PrintNumbers(t *testing.T) {
	for _, s := range sayings() {
		for _, n := range []int{-1, -2, -9999, 10000, 10001, 65535, 65536, 1 << 32, 1<<32 + 1, math.MinInt, math.MaxInt} {
			c := s.call
			c.Pid = n
			notPrinted(t, c)
			c = s.call
			if c.N != 0 {
				c.N = n
				notPrinted(t, c)
			}
			c = s.call
			if c.M != 0 {
				c.M = n
				notPrinted(t, c)
			}
		}
		c := s.call
		c.Pid, c.N, c.M = 0, 0, 0
		if _, e := Print(c); e != api.OK {
			t.Error(c, e)
		}
	}
}

// TestP26_4CallOfPrint: Call of Print is the call, and Print of Call the words.
func TestP26_4CallOfPrint(t *testing.T) {
	for seed := range uint32(3000) {
		chance := chances(seed)
		s := sayings()[chance(len(sayings()))]
		c := s.call
		c.Pid = chance(10001)
		if c.N != 0 {
			c.N = chance(10001) - 1
		}
		if c.M != 0 {
			c.M = chance(10001) - 1
		}
		if c.Text != "" {
			c.Text = append(goodTexts(), badTexts()...)[chance(len(goodTexts())+len(badTexts()))]
		}
		right := c.Pid >= 0 && c.Pid < 10000 && c.N >= 0 && c.N < 10000 && c.M >= 0 && c.M < 10000 && (s.call.Text == "" || slices.Contains(goodTexts(), c.Text))
		line, e := Print(c)
		if right != (e == api.OK) {
			t.Fatal(c, line, e)
		}
		if !right {
			notPrinted(t, c)
			continue
		}
		words := Words(line)
		if words[0] != "sys" {
			t.Fatal(line)
		}
		called(t, words[1:], c)
	}
}

// TestP3Call: words that were handed in stay as they are, spare room behind them, too.
func TestP3Call(t *testing.T) {
	room := []string{"open", "3", "tx", "5", "spare", "room"}
	kept := slices.Clone(room)
	if _, ok := Call(room[:4]); !ok || !slices.Equal(room, kept) {
		t.Error(room)
	}
	if _, ok := Call(room[:3]); ok || !slices.Equal(room, kept) {
		t.Error(room)
	}
}
