package asm

import (
	"bytes"
	"math/rand"
	"regexp"
	"slices"
	"strconv"
	"strings"
	"testing"
	"unicode/utf8"

	"embrasure/api"
	"embrasure/isa"
	"embrasure/word"
)

// labelForm is a label by the chapters' words, as a pattern.
const labelForm = `[a-zα-ω][a-z0-9α-ω]{0,5}`

var (
	isALabel = regexp.MustCompile(`\A` + labelForm + `\z`)
	blank    = regexp.MustCompile(`[ \t]+`)
)

func labelText(s string) bool { return utf8.ValidString(s) && isALabel.MatchString(s) }

type answer struct {
	code []byte
	line int
	e    api.Errno
}

func (a answer) same(b answer) bool {
	return a.line == b.line && a.e == b.e && bytes.Equal(a.code, b.code)
}

func assemble(text string) answer {
	code, line, e := Assemble(text)
	return answer{code, line, e}
}

// plainLabels are Labels as the chapter says them, with the line of what is wrong.
func plainLabels(text string) (labels []string, places []api.Word, refused answer) {
	n := 0
	for i, line := range plainLines(text) {
		label, colon := strings.CutSuffix(line, ":")
		switch {
		case line == "":
		case blank.MatchString(line) || !colon:
			if n++; n > 96 {
				return nil, nil, answer{nil, i + 1, api.ErrSpace}
			}
		case !labelText(label):
			return nil, nil, answer{nil, i + 1, api.ErrForm}
		case slices.Contains(labels, label):
			return nil, nil, answer{nil, i + 1, api.ErrExist}
		default:
			labels, places = append(labels, label), append(places, api.Word(4*n))
		}
	}
	return labels, places, answer{}
}

// plainCode is Assemble of a text whose labels are right.
func plainCode(text string, labels []string, places []api.Word) answer {
	var code []byte
	for i, line := range plainLines(text) {
		if line == "" || strings.HasSuffix(line, ":") && !blank.MatchString(line) {
			continue
		}
		l := blank.Split(line, -1)
		last := l[len(l)-1]
		if needed, ok := map[string]int{"li": 3, "ld": 4, "st": 4, "ldb": 4, "stb": 4, "jmp": 2, "jz": 3, "jnz": 3, "jlt": 4, "call": 2, "sys": 2}[l[0]]; ok && len(l) == needed {
			if _, e := word.Parse(last); e != api.OK && labelText(last) {
				at := slices.Index(labels, last)
				if at < 0 {
					return answer{nil, i + 1, api.ErrNoent}
				}
				l[len(l)-1] = strconv.Itoa(int(places[at]))
			}
		}
		ins, e := isa.Parse(strings.Join(l, " "))
		if e != api.OK {
			return answer{nil, i + 1, api.ErrForm}
		}
		b, _ := isa.Encode(ins)
		code = append(code, b...)
	}
	return answer{code, 0, api.OK}
}

// hold holds Labels and Assemble against the plain ones.
func hold(t *testing.T, text string) {
	t.Helper()
	labels, places, refused := plainLabels(text)
	if l, p, e := Labels(text); !slices.Equal(l, labels) || !slices.Equal(p, places) || e != refused.e {
		t.Fatalf("%q: %v, %v, %d, not %v, %v, %d", text, l, p, e, labels, places, refused.e)
	}
	want := refused
	if refused.e == api.OK {
		want = plainCode(text, labels, places)
	}
	if got := assemble(text); !got.same(want) {
		t.Fatalf("%q: %v, not %v", text, got, want)
	}
}

func TestP4_1Labels(t *testing.T) {
	for text, want := range map[string]struct {
		labels []string
		places []api.Word
	}{
		"":                               {},
		"\n ; a:\n\t\n":                  {},
		"nop":                            {},
		"a:":                             {[]string{"a"}, []api.Word{0}},
		" a: ; b:\n\tb:\t":               {[]string{"a", "b"}, []api.Word{0, 0}},
		"nop\nx:\nnop\ny:":               {[]string{"x", "y"}, []api.Word{4, 8}},
		"b:\nnop\n\n;\na:\nnop\nc:":      {[]string{"b", "a", "c"}, []api.Word{0, 4, 8}},
		"α:\nωωωωωω:\na0β9z1:":           {[]string{"α", "ωωωωωω", "a0β9z1"}, []api.Word{0, 0, 0}},
		"nop:\nr1:\nhalt:\nxa:":          {[]string{"nop", "r1", "halt", "xa"}, []api.Word{0, 0, 0, 0}},
		"foo bar\na:":                    {[]string{"a"}, []api.Word{4}},
		"a: nop\nb:":                     {[]string{"b"}, []api.Word{4}},
		"a :\nb:":                        {[]string{"b"}, []api.Word{4}},
		": a\nb:":                        {[]string{"b"}, []api.Word{4}},
		"a: b:\nb:":                      {[]string{"b"}, []api.Word{4}},
		"\xff\nb:":                       {[]string{"b"}, []api.Word{4}},
		"jmp nowhere\nli r9 1\n:a\nend:": {[]string{"end"}, []api.Word{12}},
		"a\nb:":                          {[]string{"b"}, []api.Word{4}},
		"a:b\nb:":                        {[]string{"b"}, []api.Word{4}},
	} {
		if l, p, e := Labels(text); e != api.OK || !slices.Equal(l, want.labels) || !slices.Equal(p, want.places) {
			t.Errorf("%q: %v, %v, %d", text, l, p, e)
		}
	}
}

// TestP4_1LabelsWrong: the line is the one that Assemble tells; Labels has the error.
func TestP4_1LabelsWrong(t *testing.T) {
	full := strings.Repeat("nop\n", 96)
	for text, want := range map[string]struct {
		line int
		e    api.Errno
	}{
		":":                          {1, api.ErrForm},
		"::":                         {1, api.ErrForm},
		"a::":                        {1, api.ErrForm},
		"9:":                         {1, api.ErrForm},
		"0a:":                        {1, api.ErrForm},
		"A:":                         {1, api.ErrForm},
		"a_b:":                       {1, api.ErrForm},
		"a.:":                        {1, api.ErrForm},
		"/a:":                        {1, api.ErrForm},
		"'a':":                       {1, api.ErrForm},
		"-1:":                        {1, api.ErrForm},
		"abcdefg:":                   {1, api.ErrForm},
		"ωωωωωωω:":                   {1, api.ErrForm},
		"ä:":                         {1, api.ErrForm},
		"٣:":                         {1, api.ErrForm},
		"\xff:":                      {1, api.ErrForm},
		"\xce:":                      {1, api.ErrForm},
		"a\xb1:":                     {1, api.ErrForm},
		"a\r:":                       {1, api.ErrForm},
		"a\u00a0b:":                  {1, api.ErrForm},
		"\n\n ; c\n\t9: ; no":        {4, api.ErrForm},
		"a:\na:":                     {2, api.ErrExist},
		"a:\nnop\n\nb:\n a: ; again": {5, api.ErrExist},
		"α:\nα:":                     {2, api.ErrExist},
		"a:\na:\n9:":                 {2, api.ErrExist},
		"9:\na:\na:":                 {1, api.ErrForm},
		"foo\njmp b\na:\na:":         {4, api.ErrExist},
		"foo\n9:":                    {2, api.ErrForm},
		full + "nop":                 {97, api.ErrSpace},
		full + "foo":                 {97, api.ErrSpace},
		full + "a :":                 {97, api.ErrSpace},
		"\n\n;\n" + full + "\n\tret": {101, api.ErrSpace},
		"foo\n" + full:               {97, api.ErrSpace},
		full + "nop\na:\na:":         {97, api.ErrSpace},
		full + "9:\nnop":             {97, api.ErrForm},
		full + "a:\na:\nnop":         {98, api.ErrExist},
		"9:\n" + full + "nop":        {1, api.ErrForm},
	} {
		if l, p, e := Labels(text); e != want.e || len(l) != 0 || len(p) != 0 {
			t.Errorf("%q: %v, %v, %d", text, l, p, e)
		}
		if a := assemble(text); !a.same(answer{nil, want.line, want.e}) {
			t.Errorf("%q: %v", text, a)
		}
	}
}

func TestP4_2Assemble(t *testing.T) {
	for text, want := range map[string][]byte{
		"":                                      {},
		"\n\n":                                  {},
		";\n ; nop\n\t":                         {},
		"a:\nb:\n":                              {},
		"loop:\njmp loop":                       {0x11, 0, 0, 0},
		"nop":                                   {0, 0, 0, 0},
		" \tld\t r1 \t r2  x10 ; x":             {0x0d, 0x12, 0, 0x10},
		"nop\njmp end\nnop\nend:":               {0, 0, 0, 0, 0x11, 0, 0, 12, 0, 0, 0, 0},
		"a:\nb:\nhalt\njlt r1 r7 b\nc:\ncall c": {1, 0, 0, 0, 0x14, 0x17, 0, 0, 0x15, 0, 0, 8},
		"li r1 -1\nli r2 xff\nli r3 'ä'\nsys 7": {2, 0x10, 0xff, 0xff, 2, 0x20, 0, 0xff, 2, 0x30, 0, 228, 0x17, 0, 0, 7},
		"nop\nα:\njz r1 α\njnz r2 ω\nω:":        {0, 0, 0, 0, 0x12, 0x10, 0, 4, 0x13, 0x20, 0, 12},
		"nop\nr1:\nnop:\njmp r1\nli r1 r1\nsys nop\nst r1 r2 r1": {0, 0, 0, 0, 0x11, 0, 0, 4, 2, 0x10, 0, 4, 0x17, 0, 0, 4, 0x0e, 0x12, 0, 4},
		"nop\nxa:\njmp xa\nli r1 xa":                             {0, 0, 0, 0, 0x11, 0, 0, 10, 2, 0x10, 0, 10},
		"nop\nxg:\nx:\njmp xg\njmp x":                            {0, 0, 0, 0, 0x11, 0, 0, 4, 0x11, 0, 0, 4},
		"nop\nxfffff:\njmp xfffff":                               {0, 0, 0, 0, 0x11, 0, 0, 4},
		"li r1 '\u00a0'":                                         {2, 0x10, 0, 0xa0},
		"li r1 ':'":                                              {2, 0x10, 0, 58},
	} {
		if a := assemble(text); !a.same(answer{want, 0, api.OK}) {
			t.Errorf("%q: %v", text, a)
		}
	}
}

func TestP4_2AssembleWrong(t *testing.T) {
	for text, want := range map[string]struct {
		line int
		e    api.Errno
	}{
		"jmp b":                    {1, api.ErrNoent},
		"li r1 b":                  {1, api.ErrNoent},
		"li r9 b":                  {1, api.ErrNoent},
		"ld foo bar b":             {1, api.ErrNoent},
		"jlt 1 2 b":                {1, api.ErrNoent},
		"jmp r1":                   {1, api.ErrNoent},
		"jmp nop":                  {1, api.ErrNoent},
		"jmp x":                    {1, api.ErrNoent},
		"jmp xg":                   {1, api.ErrNoent},
		"jmp xfffff":               {1, api.ErrNoent},
		"jmp αω":                   {1, api.ErrNoent},
		"\n;\na:\nnop\n call\tbb":  {5, api.ErrNoent},
		"a:\njmp A":                {2, api.ErrForm},
		"a:\njmp a:":               {2, api.ErrForm},
		"a:\njmp":                  {2, api.ErrForm},
		"a:\njmp a a":              {2, api.ErrForm},
		"a:\njmp a b":              {2, api.ErrForm},
		"a:\nli a":                 {2, api.ErrForm},
		"a:\nli a 1":               {2, api.ErrForm},
		"a:\nli a a":               {2, api.ErrForm},
		"a:\nmov r1 a":             {2, api.ErrForm},
		"a:\nmov r1 r2 a":          {2, api.ErrForm},
		"a:\nnop a":                {2, api.ErrForm},
		"ret b":                    {1, api.ErrForm},
		"mov r1 b":                 {1, api.ErrForm},
		"foo b":                    {1, api.ErrForm},
		"JMP b":                    {1, api.ErrForm},
		"jmp 1a":                   {1, api.ErrForm},
		"jmp 0x1":                  {1, api.ErrForm},
		"jmp abcdefg":              {1, api.ErrForm},
		"jmp ωωωωωωω":              {1, api.ErrForm},
		"jmp a_b":                  {1, api.ErrForm},
		"jmp ä":                    {1, api.ErrForm},
		"jmp \xce":                 {1, api.ErrForm},
		"jmp 65536":                {1, api.ErrForm},
		"jmp -32769":               {1, api.ErrForm},
		"jmp 00":                   {1, api.ErrForm},
		"li r1 ' '":                {1, api.ErrForm},
		"li r1 '\t'":               {1, api.ErrForm},
		"li r1 ';'":                {1, api.ErrForm},
		"li r8 1":                  {1, api.ErrForm},
		"li r1, 1":                 {1, api.ErrForm},
		"nop\r\nnop\r":             {1, api.ErrForm},
		"nop\u00a0":                {1, api.ErrForm},
		"\vnop":                    {1, api.ErrForm},
		"\ufeffnop":                {1, api.ErrForm},
		"nop\x00":                  {1, api.ErrForm},
		"nop\xff":                  {1, api.ErrForm},
		"a: nop":                   {1, api.ErrForm},
		"a :":                      {1, api.ErrForm},
		"nop nop":                  {1, api.ErrForm},
		"loop":                     {1, api.ErrForm},
		"nop\n\nfoo\njmp b":        {3, api.ErrForm},
		"nop\njmp b\nfoo":          {2, api.ErrNoent},
		"jmp b\na:\na:":            {3, api.ErrExist},
		strings.Repeat("9", 65536): {1, api.ErrForm},
	} {
		if a := assemble(text); !a.same(answer{nil, want.line, want.e}) {
			t.Errorf("%q: %v", text, a)
		}
		if _, _, e := Labels(text); want.e == api.ErrNoent && e != api.OK {
			t.Errorf("%q: Labels %d", text, e)
		}
	}
}

// TestP4_2AllShort holds the answers against the plain ones at all texts of a few lines.
func TestP4_2AllShort(t *testing.T) {
	lines := []string{"", "nop", "a:", "b: ; x", "9:", "\tjmp a", "jz r1  b", "jmp 9", "mov r1 a", "a: b:", "li r9 a", "ld r1 r2 xa", "xa:", "li a", "foo:bar", "β:", "sys β ;a", "\xce:"}
	var pieces []string
	for _, line := range lines {
		pieces = append(pieces, line+"\n")
	}
	allTexts(pieces, 4, func(text string) { hold(t, text) })
}

// TestP4_2AllShortBytes does so letter by letter.
func TestP4_2AllShortBytes(t *testing.T) {
	allTexts([]string{"\n", ";", " ", "a", ":", "jmp", "1", "β", "\xce", "nop"}, 5, func(text string) { hold(t, text) })
}

// TestP4_2Strewn holds the answers at long texts, strewn by a source that always begins alike.
func TestP4_2Strewn(t *testing.T) {
	source := rand.New(rand.NewSource(4))
	heads := []string{"nop", "halt", "ret", "li r1", "mov r1", "ld r1 r2", "jmp", "jz r7", "call", "sys", "jlt r1 r2", "li r8", "add"}
	tails := []string{"", "", "r1", "r2", "a", "b", "l1", "l2", "β", "5", "-1", "x1f", "'a'", "' '", "xa", "9a"}
	gaps := []string{" ", "  ", "\t", " \t "}
	pick := func(l []string) string { return l[source.Intn(len(l))] }
	for range 4000 {
		var text strings.Builder
		for n := range source.Intn(130) {
			switch source.Intn(12) {
			case 0:
				text.WriteString(pick([]string{"", " ", ";x", "\t;:"}))
			case 1:
				text.WriteString("l" + strconv.Itoa(source.Intn(60)) + ":")
			case 2:
				text.WriteString("m" + strconv.Itoa(n) + ":")
			case 3:
				text.WriteString(pick(heads) + pick(gaps) + pick(tails))
			default:
				text.WriteString(pick([]string{"nop", "jmp 4", "li r1 m3", "mov\tr1 r2", "ret;"}))
			}
			text.WriteString("\n")
		}
		hold(t, text.String())
	}
}

// TestE7MaxLines: MaxLines instructions are taken, one more is refused, whatever stands around them.
func TestE7MaxLines(t *testing.T) {
	text := strings.Repeat("jmp end\n", 96) + "end:\n;\n\n"
	code, line, e := Assemble(text)
	if want := bytes.Repeat([]byte{0x11, 0, 1, 0x80}, 96); e != api.OK || line != 0 || !bytes.Equal(code, want) {
		t.Error(len(code), line, e)
	}
	hold(t, text)
	hold(t, text+"nop")
	// Labels and lines without an instruction have no limit.
	var many strings.Builder
	for n := range 20000 {
		many.WriteString("l" + strconv.Itoa(n) + ":\n\n")
	}
	if l, _, e := Labels(many.String()); len(l) != 20000 || e != api.OK {
		t.Error(len(l), e)
	}
	if a := assemble(many.String() + text + "l7:"); a.e != api.ErrExist || a.line != 40100 {
		t.Error(a)
	}
}

// TestE1Hostile: whatever bytes come in, as text or as code, the answer is the chapters'.
func TestE1Hostile(t *testing.T) {
	source := rand.New(rand.NewSource(7))
	const letters = "\n\n; \t:ajmpnop0r1x'\xce\xb1\xff"
	for n := range 20000 {
		b := make([]byte, source.Intn(24))
		source.Read(b)
		if n%2 == 0 {
			for i := range b {
				b[i] = letters[int(b[i])%len(letters)]
			}
		}
		hold(t, string(b))
		s, e := Disassemble(b)
		l, want := isa.ReadCode(b)
		if e != want || e != api.OK && s != "" || strings.Count(s, "\n") != len(l) {
			t.Fatal(b, s, e)
		}
		if a := assemble(s); e == api.OK && !a.same(answer{b, 0, api.OK}) {
			t.Fatal(b, s, a)
		}
	}
}

func TestP4_2Disassemble(t *testing.T) {
	for want, code := range map[string][]byte{
		"": nil, "nop\n": {0, 0, 0, 0}, "li r1 97\njnz r1 12\njmp 4\nhalt\n": {2, 16, 0, 97, 19, 16, 0, 12, 17, 0, 0, 4, 1, 0, 0, 0}, "jlt r7 r6 65535\n": {20, 0x76, 255, 255},
	} {
		if s, e := Disassemble(code); s != want || e != api.OK {
			t.Error(code, s, e)
		}
	}
	for _, code := range [][]byte{{0}, {0, 0, 0}, {0, 0, 0, 0, 0}, {24, 0, 0, 0}, {0, 1, 0, 0}, {2, 0x80, 0, 0}, {2, 1, 0, 0}, {0, 0, 0, 0, 255, 255, 255, 255}} {
		if s, e := Disassemble(code); s != "" || e != api.ErrForm {
			t.Error(code, s, e)
		}
	}
	// MaxLines binds texts, not code.
	if s, e := Disassemble(make([]byte, 4*1000)); s != strings.Repeat("nop\n", 1000) || e != api.OK {
		t.Error(len(s), e)
	}
}

func TestP4_3AssembleOfDisassemble(t *testing.T) {
	var all []byte
	for o := range 24 {
		for registers := range 256 {
			for _, n := range []byte{0, 1, 255} {
				if b := []byte{byte(o), byte(registers), n, n}; isRight(b) {
					all = append(all, b...)
				}
			}
		}
	}
	for size := range 97 {
		for at := 0; at+4*size <= len(all); at += 4*size + 400 {
			code := all[at : at+4*size]
			s, e := Disassemble(code)
			if a := assemble(s); e != api.OK || !a.same(answer{code, 0, api.OK}) {
				t.Fatalf("%q: %v", s, a)
			}
		}
	}
}

func isRight(b []byte) bool {
	_, e := isa.Decode(b)
	return e == api.OK
}

// TestP4_4NothingChanges: blanks, tabs, remarks and empty lines laid between change neither code nor labels.
func TestP4_4NothingChanges(t *testing.T) {
	lines := [][]string{{"li", "r1", "'a'"}, {"loop:"}, {"jnz", "r1", "end"}, {"α:"}, {"jlt", "r1", "r2", "α"}, {"jmp", "loop"}, {"end:"}, {"halt"}}
	bare := lay(lines, "", " ", "", "")
	want := assemble(bare)
	labels, places, _ := Labels(bare)
	if want.e != api.OK || len(want.code) != 20 || len(labels) != 3 {
		t.Fatal(want, labels)
	}
	for _, ahead := range []string{"", " ", "\t", " \t \t"} {
		for _, between := range []string{" ", "\t", "   ", "\t \t"} {
			for _, behind := range []string{"", " ", "\t\t", ";", " ; nop", ";;", "; a: \xff β", "\t; 9:"} {
				for _, empty := range []string{"", "\n", " \n\t\n", ";\n", "  ; a:\n;9:\n"} {
					text := lay(lines, ahead, between, behind, empty)
					l, p, e := Labels(text)
					if a := assemble(text); !a.same(want) || e != api.OK || !slices.Equal(l, labels) || !slices.Equal(p, places) {
						t.Fatalf("%q: %v", text, a)
					}
				}
			}
		}
	}
}

func lay(lines [][]string, ahead, between, behind, empty string) string {
	var text strings.Builder
	text.WriteString(empty)
	for _, words := range lines {
		text.WriteString(ahead + strings.Join(words, between) + behind + "\n" + empty)
	}
	return text.String()
}

func TestP4_5Places(t *testing.T) {
	var text strings.Builder
	for n := range 97 {
		text.WriteString("l" + strconv.Itoa(n) + ":\n")
		if n < 96 {
			text.WriteString("nop\n")
		}
	}
	l, p, e := Labels(text.String())
	if e != api.OK || len(l) != 97 || len(p) != 97 {
		t.Fatal(len(l), len(p), e)
	}
	for n := range l {
		if l[n] != "l"+strconv.Itoa(n) || int(p[n]) != 4*n || p[n] >= 4*api.MaxLines+1 {
			t.Error(n, l[n], p[n])
		}
	}
}

func TestAsmExample(t *testing.T) {
	if a := assemble("loop:\njmp loop"); !a.same(answer{[]byte{0x11, 0, 0, 0}, 0, api.OK}) {
		t.Error(a)
	}
}

// TestP3AnswersAreTheCallers: no answer lies in another one, or in what was handed in.
func TestP3AnswersAreTheCallers(t *testing.T) {
	const text = "a:\nli r1 5\nb:\njmp a"
	first, second := assemble(text), assemble(text)
	clear(first.code)
	if !second.same(answer{[]byte{2, 16, 0, 5, 17, 0, 0, 0}, 0, api.OK}) {
		t.Error(second)
	}
	l, p, _ := Labels(text)
	m, q, _ := Labels(text)
	clear(l)
	clear(p)
	p[0] = 99
	if !slices.Equal(m, []string{"a", "b"}) || !slices.Equal(q, []api.Word{0, 4}) {
		t.Error(m, q)
	}
	room := append(bytes.Clone(second.code), 1, 2, 3)
	kept := bytes.Clone(room)
	Disassemble(room[:8])
	Disassemble(room)
	if !bytes.Equal(room, kept) {
		t.Error(room)
	}
}

// TestP6AsmKeepsNothing: labels of one text, right or wrong, are none of the next one's.
func TestP6AsmKeepsNothing(t *testing.T) {
	for _, ahead := range []string{"a:\nnop\nb:", "a:\na:", "jmp c", strings.Repeat("nop\n", 97), "9:"} {
		Assemble(ahead)
		Labels(ahead)
		if a := assemble("nop\njmp a"); !a.same(answer{nil, 2, api.ErrNoent}) {
			t.Error(ahead, a)
		}
		if a := assemble("nop\na:\njmp a"); !a.same(answer{[]byte{0, 0, 0, 0, 17, 0, 0, 4}, 0, api.OK}) {
			t.Error(ahead, a)
		}
	}
}
