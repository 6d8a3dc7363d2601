package file

import (
	"math"
	"slices"
	"strings"
	"testing"

	"embrasure/api"
)

func TestP22_1Example(t *testing.T) {
	s := New(4)
	if n, e := s.Make("a"); n != 1 || e != api.OK {
		t.Fatal(n, e)
	}
	if e := s.Write(1, 0, strings.Repeat("x", 40)); e != api.OK {
		t.Fatal(e)
	}
	if got := s.Sectors(1); !slices.Equal(got, []int{0, 1}) {
		t.Error(got)
	}
}

// TestP22_1New: from 1 to MaxSectors sectors, which are all free, and no file.
func TestP22_1New(t *testing.T) {
	for sectors := 1; sectors <= 64; sectors++ {
		p := pairOf(t, sectors)
		if p.s.Left() != sectors || len(p.s.Names()) != 0 {
			t.Fatal(sectors, p.s.Left(), p.s.Names())
		}
		p.told("a new one")
	}
	p := pairOf(t, 2, "a")
	p.write(1, 0, "x")
	pairOf(t, 2).told("the next one")
}

func TestE7New(t *testing.T) {
	for _, sectors := range []int{0, 65, -1, 66, -64, 128, 256, 1 << 32, 1<<32 + 1, math.MinInt, math.MaxInt} {
		if s := New(sectors); s != nil {
			t.Error(sectors)
		}
	}
}

// TestP22_1Make: numbers from 1 on; a file without bytes.
func TestP22_1Make(t *testing.T) {
	p := pairOf(t, 3)
	for i, name := range []string{"zzzzzz", "a", "0", "ωωωωωω", "α1z", "999999"} {
		if n, e := p.s.Make(name); n != i+1 || e != api.OK {
			t.Fatal(name, n, e)
		}
		p.want.make(name)
		if size, e := p.s.Size(i + 1); size != 0 || e != api.OK || len(p.s.Sectors(i+1)) != 0 || p.s.Left() != 3 {
			t.Error(name, size, e)
		}
		p.told("one more")
	}
	if got := p.s.Names(); !slices.Equal(got, []string{"0", "999999", "a", "zzzzzz", "α1z", "ωωωωωω"}) {
		t.Error(got)
	}
}

// TestP22_1MakeForm: texts that are no labels, also where there are as many files as may be.
func TestP22_1MakeForm(t *testing.T) {
	p := pairOf(t, 3, "a")
	for _, name := range noNames() {
		if n, e := p.s.Make(name); n != 0 || e != api.ErrForm {
			t.Errorf("%q: %d %d", name, n, e)
		}
	}
	p.told("refused")
	for _, name := range []string{"b", "c", "d", "e", "f"} {
		p.make(name)
	}
	for _, name := range noNames() {
		if n, e := p.s.Make(name); n != 0 || e != api.ErrForm {
			t.Errorf("%q: %d %d", name, n, e)
		}
	}
	p.told("refused with all")
}

// TestP22_1MakeExist: of a name that a file has, ahead of the want of room; of one that was lost another file is made.
func TestP22_1MakeExist(t *testing.T) {
	p := pairOf(t, 3, "a", "b")
	p.write(1, 0, "text")
	for range 2 {
		if n, e := p.s.Make("a"); n != 0 || e != api.ErrExist {
			t.Error(n, e)
		}
	}
	p.told("refused")
	p.hold(1, true)
	p.unlink("a")
	if n, e := p.s.Make("a"); n != 3 || e != api.OK {
		t.Error(n, e)
	}
	p.want.make("a")
	p.told("another one")
	if text, e := p.s.Read(1, 0, 9); text != "text" || e != api.OK {
		t.Error(text, e)
	}
	if size, e := p.s.Size(3); size != 0 || e != api.OK {
		t.Error(size, e)
	}
	p.write(3, 0, "else")
	p.hold(1, false)
	if n, ok := p.s.Find("a"); n != 3 || !ok {
		t.Error(n, ok)
	}
	p.told("the first one is gone")
	for _, name := range []string{"c", "d", "e", "f"} {
		p.make(name)
	}
	if n, e := p.s.Make("d"); n != 0 || e != api.ErrExist {
		t.Error(n, e)
	}
	p.told("refused with all")
}

// TestE7Files: MaxFiles files and no more; those without a name that are open are files, too.
func TestE7Files(t *testing.T) {
	p := pairOf(t, 3, "a", "b", "c", "d", "e")
	p.hold(2, true)
	p.hold(4, true)
	p.unlink("b")
	p.unlink("d")
	if n, e := p.s.Make("f"); n != 6 || e != api.OK {
		t.Fatal(n, e)
	}
	p.want.make("f")
	for _, name := range []string{"g", "b", "d"} {
		if n, e := p.s.Make(name); n != 0 || e != api.ErrSpace {
			t.Error(name, n, e)
		}
	}
	p.told("refused")
	p.unlink("a")
	if n, e := p.s.Make("b"); n != 7 || e != api.OK {
		t.Error(n, e)
	}
	p.want.make("b")
	if n, e := p.s.Make("d"); n != 0 || e != api.ErrSpace {
		t.Error(n, e)
	}
	p.hold(4, false)
	if n, e := p.s.Make("d"); n != 8 || e != api.OK {
		t.Error(n, e)
	}
	p.want.make("d")
	p.told("behind it")
}

// TestP22_1Numbers: no number is given again, and what is refused takes none.
func TestP22_1Numbers(t *testing.T) {
	p := pairOf(t, 1)
	for n := 1; n < 200; n++ {
		if got := p.make("a"); got != n {
			t.Fatal(got, n)
		}
		p.make("a")
		p.make("A")
		p.hold(n, true)
		p.unlink("a")
		p.write(n, 0, "x")
		p.hold(n, false)
		for _, e := range []api.Errno{p.hold(n, true), p.write(n, 0, "x"), p.unlink("a")} {
			if e != api.ErrNoent {
				t.Fatal(n, e)
			}
		}
	}
	p.told("many")
}

// TestP22_1Unlink: of a file that is not open it is no more at once; its sectors are free.
func TestP22_1Unlink(t *testing.T) {
	p := pairOf(t, 4, "a", "b")
	p.write(1, 0, textOf(1, 70))
	p.write(2, 0, textOf(2, 5))
	for _, name := range append(noNames(), "c", "aa", "ω") {
		if e := p.s.Unlink(name); e != api.ErrNoent {
			t.Errorf("%q: %d", name, e)
		}
	}
	p.told("refused")
	if e := p.s.Unlink("a"); e != api.OK || p.s.Left() != 3 {
		t.Error(e, p.s.Left())
	}
	p.want.unlink("a")
	p.told("unlinked")
	if e := p.s.Unlink("a"); e != api.ErrNoent {
		t.Error(e)
	}
	if text, e := p.s.Read(1, 0, 70); text != "" || e != api.ErrNoent {
		t.Error(text, e)
	}
	p.told("twice")
}

// TestP22_1UnlinkOpen: a file that is open stays until it is not, and is written and read all the while.
func TestP22_1UnlinkOpen(t *testing.T) {
	p := pairOf(t, 4, "a")
	p.write(1, 0, "first")
	p.hold(1, true)
	p.hold(1, true)
	if e := p.unlink("a"); e != api.OK || p.s.Left() != 3 || len(p.s.Names()) != 0 {
		t.Error(e, p.s.Left(), p.s.Names())
	}
	p.told("without a name")
	if e := p.write(1, 5, textOf(0, 60)); e != api.OK || p.s.Left() != 1 {
		t.Error(e, p.s.Left())
	}
	if e := p.hold(1, false); e != api.OK || p.s.Left() != 1 {
		t.Error(e, p.s.Left())
	}
	p.told("open once")
	if e := p.hold(1, true); e != api.OK {
		t.Error(e)
	}
	p.hold(1, false)
	if e := p.hold(1, false); e != api.OK || p.s.Left() != 4 {
		t.Error(e, p.s.Left())
	}
	p.told("no more")
	if p.hold(1, false) != api.ErrNoent || p.hold(1, true) != api.ErrNoent {
		t.Error("it is there")
	}
}

// TestP22_1UnlinkClosed: a file that was open, and is not any more, stays as long as it has its name.
func TestP22_1UnlinkClosed(t *testing.T) {
	p := pairOf(t, 2, "a")
	p.write(1, 0, "x")
	p.hold(1, true)
	p.hold(1, false)
	if n, ok := p.s.Find("a"); n != 1 || !ok || p.s.Left() != 1 {
		t.Error(n, ok, p.s.Left())
	}
	p.told("closed")
	p.unlink("a")
	if p.s.Left() != 2 {
		t.Error(p.s.Left())
	}
	p.told("unlinked")
}

// TestP22_1Hold: 100 times and no more; as often less.
func TestP22_1Hold(t *testing.T) {
	p := pairOf(t, 2, "a", "b")
	p.write(1, 0, "x")
	for n := range 100 {
		if e := p.s.Hold(1, true); e != api.OK {
			t.Fatal(n, e)
		}
	}
	for range 3 {
		if e := p.s.Hold(1, true); e != api.ErrSpace {
			t.Fatal(e)
		}
	}
	if p.s.Hold(1, false) != api.OK || p.s.Hold(1, true) != api.OK || p.s.Hold(1, true) != api.ErrSpace {
		t.Error("99 and 100 times")
	}
	if e := p.s.Hold(2, true); e != api.OK {
		t.Error(e)
	}
	p.told("the others are open by themselves")
	for n := range 100 {
		if e := p.s.Hold(1, false); e != api.OK {
			t.Fatal(n, e)
		}
	}
	for range 2 {
		if e := p.s.Hold(1, false); e != api.ErrState {
			t.Error(e)
		}
	}
	p.told("it has its name still")
}

// TestP22_1HoldUnnamed: of a file without a name that is open 100 times all can be taken back; with the last one it is no more.
func TestP22_1HoldUnnamed(t *testing.T) {
	p := pairOf(t, 2, "a")
	p.write(1, 0, "x")
	for range 100 {
		p.hold(1, true)
	}
	p.unlink("a")
	if e := p.hold(1, true); e != api.ErrSpace {
		t.Error(e)
	}
	for n := range 100 {
		if p.s.Left() != 1 {
			t.Fatal(n, p.s.Left())
		}
		if e := p.hold(1, false); e != api.OK {
			t.Fatal(n, e)
		}
	}
	if p.s.Left() != 2 {
		t.Error(p.s.Left())
	}
	p.told("no more")
}

// TestP22_1HoldErrors: of a file that there is not, and of one that is not open.
func TestP22_1HoldErrors(t *testing.T) {
	p := pairOf(t, 2, "a", "b")
	p.unlink("a")
	for _, n := range append(noNumbers(), 1, 3) {
		for _, open := range []bool{true, false} {
			if e := p.s.Hold(n, open); e != api.ErrNoent {
				t.Error(n, open, e)
			}
		}
	}
	for range 2 {
		if e := p.s.Hold(2, false); e != api.ErrState {
			t.Error(e)
		}
	}
	p.told("refused")
}

// TestP22_3Told: what is told of what there is and of what there is not.
func TestP22_3Told(t *testing.T) {
	p := pairOf(t, 8, "ω", "b", "a", "9")
	p.write(3, 0, textOf(3, 33))
	p.write(1, 0, textOf(1, 32))
	p.write(3, 33, textOf(3, 40))
	p.hold(2, true)
	p.unlink("b")
	p.unlink("9")
	if got := p.s.Names(); !slices.Equal(got, []string{"a", "ω"}) {
		t.Error(got)
	}
	for _, name := range append(noNames(), "b", "9", "c") {
		if n, ok := p.s.Find(name); n != 0 || ok {
			t.Errorf("%q: %d %v", name, n, ok)
		}
	}
	for name, want := range map[string]int{"ω": 1, "a": 3} {
		if n, ok := p.s.Find(name); n != want || !ok {
			t.Error(name, n, ok)
		}
	}
	for n, want := range map[int]int{1: 32, 2: 0, 3: 73} {
		if size, e := p.s.Size(n); size != want || e != api.OK {
			t.Error(n, size, e)
		}
	}
	for _, n := range append(noNumbers(), 4, 5) {
		if size, e := p.s.Size(n); size != 0 || e != api.ErrNoent || len(p.s.Sectors(n)) != 0 {
			t.Error(n, size, e, p.s.Sectors(n))
		}
	}
	for n, want := range map[int][]int{1: {2}, 2: nil, 3: {0, 1, 3}} {
		if got := p.s.Sectors(n); !slices.Equal(got, want) {
			t.Error(n, got)
		}
	}
	if p.s.Left() != 4 {
		t.Error(p.s.Left())
	}
	p.told("all")
}

func TestP1Nil(t *testing.T) {
	var s *Store
	for _, n := range append(noNumbers(), 1, 2) {
		for _, e := range []api.Errno{s.Hold(n, true), s.Hold(n, false), s.Write(n, 0, ""), s.Write(0, n, "x")} {
			if e != api.ErrNil {
				t.Fatal(n, e)
			}
		}
		if text, e := s.Read(n, n, n); text != "" || e != api.ErrNil {
			t.Error(n, text, e)
		}
		if size, e := s.Size(n); size != 0 || e != api.ErrNil {
			t.Error(n, size, e)
		}
		if len(s.Sectors(n)) != 0 {
			t.Error(n)
		}
	}
	for _, name := range append(noNames(), "a") {
		if n, e := s.Make(name); n != 0 || e != api.ErrNil {
			t.Error(name, n, e)
		}
		if e := s.Unlink(name); e != api.ErrNil {
			t.Error(name, e)
		}
		if n, ok := s.Find(name); n != 0 || ok {
			t.Error(name, n, ok)
		}
	}
	if len(s.Names()) != 0 || s.Left() != 0 || s.Fork() != nil {
		t.Error("nil has something")
	}
}

// TestP3Lists: lists that were handed out are the caller's, with the room behind their end.
func TestP3Lists(t *testing.T) {
	p := pairOf(t, 4, "b", "a", "c")
	p.write(1, 0, textOf(1, 60))
	for range 2 {
		names, sectors := p.s.Names(), p.s.Sectors(1)
		clear(names[:cap(names)])
		clear(sectors[:cap(sectors)])
		p.told("behind the caller's change")
	}
	names, sectors := p.s.Names(), p.s.Sectors(1)
	p.write(1, 60, textOf(2, 30))
	p.unlink("a")
	p.unlink("b")
	if !slices.Equal(names, []string{"a", "b", "c"}) || !slices.Equal(sectors, []int{0, 1}) {
		t.Error(names, sectors)
	}
}
