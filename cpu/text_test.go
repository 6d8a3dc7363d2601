package cpu

import (
	"fmt"
	"regexp"
	"strings"
	"testing"

	"embrasure/api"
)

// written are registers as text, by the library that the program may not use.
func written(s api.Regs) string {
	t := fmt.Sprintf("pc=%04x", uint16(s.Pc))
	for r, w := range s.R {
		t += fmt.Sprintf(" r%d=%04x", r, uint16(w))
	}
	return t
}

func says(t *testing.T, text string, want api.Regs) {
	t.Helper()
	if s, e := Parse(text); s != want || e != api.OK {
		t.Fatalf("%q: %+v %d", text, s, e)
	}
}

func refuses(t *testing.T, text string) {
	t.Helper()
	if s, e := Parse(text); s != (api.Regs{}) || e != api.ErrForm {
		t.Fatalf("%q: %+v %d", text, s, e)
	}
}

func TestP5_3PrintParse(t *testing.T) {
	if p := Print(sample(8)); p != "pc=0008 r0=1011 r1=2022 r2=0003 r3=8044 r4=0005 r5=ff66 r6=0000 r7=0c80" {
		t.Error(p)
	}
	for n := range 65536 {
		for place := range 9 {
			if place > 0 && n%97 > 0 {
				continue
			}
			s := sample(0xbeef)
			if place == 0 {
				s.Pc = api.Word(n)
			} else {
				s.R[place-1] = api.Word(n)
			}
			if p := Print(s); p != written(s) {
				t.Fatal(s, p)
			}
			says(t, Print(s), s)
		}
	}
}

// TestP5_3ParseJustBeside: of each text one byte from Print's the chapter's form says whether it is one.
func TestP5_3ParseJustBeside(t *testing.T) {
	form := regexp.MustCompile(`^pc=[0-9a-f]{4}( r[0-7]=[0-9a-f]{4}){8}$`)
	digits := regexp.MustCompile(`r([0-7])=`)
	right := func(s string) bool {
		if !form.MatchString(s) {
			return false
		}
		for k, m := range digits.FindAllStringSubmatch(s, -1) {
			if m[1] != string(rune('0'+k)) {
				return false
			}
		}
		return true
	}
	text := Print(sample(0xab0f))
	check := func(s string) {
		if !right(s) {
			refuses(t, s)
			return
		}
		if r, e := Parse(s); e != api.OK || written(r) != s {
			t.Fatalf("%q: %+v %d", s, r, e)
		}
	}
	for at := range len(text) + 1 {
		for b := range 256 {
			check(text[:at] + string([]byte{byte(b)}) + text[at:])
			if at < len(text) {
				check(text[:at] + string([]byte{byte(b)}) + text[at+1:])
			}
		}
		if at < len(text) {
			check(text[:at] + text[at+1:])
			check(text[at:])
		}
		check(text[:at])
	}
}

func TestP5_3ParseWrong(t *testing.T) {
	text := Print(sample(8))
	for _, s := range []string{
		"", " ", "pc=0008", strings.TrimSuffix(text, " r7=0c80"), text + " r8=0000", text + " ", " " + text, text + "\n", text + text, text + " " + text,
		strings.ToUpper(text), strings.Replace(text, "ff66", "FF66", 1), strings.ReplaceAll(text, " ", "  "), strings.ReplaceAll(text, " ", "\t"),
		strings.Replace(text, "pc=0008", "pc=8", 1), strings.Replace(text, "pc=0008", "pc=00008", 1), strings.Replace(text, "pc=0008", "pc=x008", 1),
		strings.Replace(text, "pc=0008", "pc=-008", 1), strings.Replace(text, "pc=0008", "pc=", 1), strings.Replace(text, "pc=0008", "pc==0008", 1),
		strings.Replace(text, "pc=0008", "0008", 1), strings.Replace(text, "pc=0008", "r0=0008", 1), strings.Replace(text, "=", ":", 1),
		strings.Replace(text, "r0=1011 r1=2022", "r1=2022 r0=1011", 1), strings.Replace(text, "r1=", "r0=", 1), strings.Replace(text, "r7=", "r8=", 1),
		strings.Replace(text, "r1=", "r01=", 1), strings.Replace(text, "0003", "000３", 1), strings.Replace(text, "0000", "0\x00\x00\x00", 1),
		strings.Repeat(" ", 8), strings.Repeat("=", 71), strings.Repeat("a", 100000), strings.Repeat(" ", 100000), "\xff\xfe", text[:70] + "\xff",
	} {
		refuses(t, s)
	}
}

// TestP6ParseKeepsNothing: a wrong text leaves nothing for the next one.
func TestP6ParseKeepsNothing(t *testing.T) {
	for range 3 {
		says(t, Print(sample(8)), sample(8))
		refuses(t, Print(sample(8))+" ")
		says(t, Print(api.Regs{}), api.Regs{})
	}
}
