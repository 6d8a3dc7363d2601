package word

import (
	"regexp"
	"strconv"
	"strings"
	"testing"
	"unicode/utf8"

	"embrasure/api"
)

func takes(t *testing.T, s string, want api.Word) {
	t.Helper()
	if a, e := Parse(s); a != want || e != api.OK {
		t.Errorf("%q: %d, %d", s, a, e)
	}
}

func refuses(t *testing.T, s string) {
	t.Helper()
	if a, e := Parse(s); a != 0 || e != api.ErrForm {
		t.Errorf("%q: %d, %d", s, a, e)
	}
}

func TestP1_3ParseDigits(t *testing.T) {
	for n := -32800; n <= 65600; n++ {
		s := strconv.Itoa(n)
		if n < -32768 || n > 65535 {
			refuses(t, s)
		} else {
			takes(t, s, api.Word(modulo(n, 65536)))
		}
	}
	for _, s := range []string{
		"", "-", "--1", "-0", "-01", "00", "01", "007", "+1", "1-", " 1", "1 ", "1\n", "1_0", "1.0", "1e3", "0x1f", "0b1", "a", "f",
		"65536", "99999", "100000", "-32769", "-65535", "18446744073709551616", "-18446744073709551615", "18446744073709551617",
		"１", "٣", "1\x00", "\xff", "1\xff", strings.Repeat("9", 100000), "-" + strings.Repeat("9", 100000), strings.Repeat("0", 1000),
	} {
		refuses(t, s)
	}
}

func TestP1_3ParseHex(t *testing.T) {
	for n := range 65536 {
		takes(t, "x"+strconv.FormatInt(int64(n), 16), api.Word(n))
		takes(t, "x"+Hex(api.Word(n)), api.Word(n))
	}
	takes(t, "x0", 0)
	takes(t, "x00", 0)
	takes(t, "x01f", 31)
	for _, s := range []string{
		"x", "x00000", "x10000", "x12345", "xg", "xF", "xAB", "X1", "x-1", "-x1", "x 1", "x1 ", " x1", "xx", "xx1", "0x1", "x1g", "x'", "xé", "x\xff", "x1\xff\xff",
	} {
		refuses(t, s)
	}
}

func TestP1_3ParseSigns(t *testing.T) {
	for r := rune(0); r <= utf8.MaxRune; r++ {
		if !utf8.ValidRune(r) {
			continue
		}
		s := "'" + string(r) + "'"
		if r < 32 || r > 65535 || r == '\'' {
			refuses(t, s)
		} else {
			takes(t, s, api.Word(r))
		}
	}
	takes(t, "' '", 32)
	takes(t, "'\x7f'", 127)
	takes(t, "'\ufffd'", 65533)
	takes(t, "'\uffff'", 65535)
	for _, s := range []string{
		"'", "''", "'''", "''''", "'a", "a'", "'ab'", "'a'b", "'a''", "''a'", " 'a'", "'a' ", "'ää'", "\"a\"", "`a`", "'\x1f'", "'\U00010000'",
		"'\xff'", "'\xc3'", "'\x80'", "'\xc1\x81'", "'\xe0\x81\x81'", "'\xed\xa0\x80'", "'\xed\xbf\xbf'", "'\xf4\x90\x80\x80'", "'a\xff'", "'\xffa'", "'e\u0301'",
		"'" + strings.Repeat("a", 100000) + "'",
	} {
		refuses(t, s)
	}
}

// TestP1_3ParseAllShort holds Parse against the chapter's form as a pattern, at all short texts of letters that come up in one.
func TestP1_3ParseAllShort(t *testing.T) {
	form := regexp.MustCompile(`^(0|-?[1-9][0-9]*|x[0-9a-f]{1,4}|'[^']')$`)
	pieces := []string{"0", "1", "6", "9", "-", "x", "a", "f", "g", "'", "ä", " ", "\xff"}
	texts := []string{""}
	for range 5 {
		var longer []string
		for _, s := range texts {
			want := form.MatchString(s) && utf8.ValidString(s)
			if n, err := strconv.Atoi(s); err == nil && (n < -32768 || n > 65535) {
				want = false
			}
			if a, e := Parse(s); (e == api.OK) != want || !want && (a != 0 || e != api.ErrForm) {
				t.Fatalf("%q: %d, %d", s, a, e)
			}
			for _, p := range pieces {
				longer = append(longer, s+p)
			}
		}
		texts = longer
	}
}

func TestWordExample(t *testing.T) {
	takes(t, "-1", 65535)
	takes(t, "xffff", 65535)
	takes(t, "65535", 65535)
	takes(t, "'ä'", 228)
}

// TestP6ParseKeepsNothing: what was read ahead does not matter, a wrong text neither.
func TestP6ParseKeepsNothing(t *testing.T) {
	for range 3 {
		takes(t, "x1f", 31)
		refuses(t, "x")
		takes(t, "7", 7)
		refuses(t, "")
	}
}
