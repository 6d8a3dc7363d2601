package word

import (
	"fmt"
	"math"
	"testing"

	"embrasure/api"
)

// edges are the words at which something turns over.
func edges() []api.Word {
	return []api.Word{0, 1, 2, 3, 7, 15, 16, 17, 127, 128, 255, 256, 257, 4660, 32766, 32767, 32768, 32769, 43981, 61680, 65279, 65280, 65533, 65534, 65535}
}

// moves are the numbers that the bits are moved by.
func moves() []int {
	l := []int{math.MinInt, math.MinInt + 1, -65537, -65536, math.MaxInt - 1, math.MaxInt, 65535, 65536}
	for n := -50; n <= 50; n++ {
		l = append(l, n)
	}
	return l
}

// modulo is n modulo m, without the tricks of the program.
func modulo(n, m int) int {
	n %= m
	if n < 0 {
		n += m
	}
	return n
}

// bit is the bit at a place; outside the word it is what is asked for.
func bit(a api.Word, place int, outside api.Word) api.Word {
	if place < 0 || place > 15 {
		return outside
	}
	return a >> place & 1
}

// pairs calls f with each edge and each word of a comb, both ways round.
func pairs(f func(a, b api.Word)) {
	for _, a := range edges() {
		for n := 0; n <= 65535; n += 13 {
			f(a, api.Word(n))
			f(api.Word(n), a)
		}
		for _, b := range edges() {
			f(a, b)
		}
	}
}

func TestP1_1AddSub(t *testing.T) {
	pairs(func(a, b api.Word) {
		n := int(a) + int(b)
		if sum, carry := Add(a, b); int(sum) != n%65536 || carry != (n >= 65536) {
			t.Fatal("Add", a, b, sum, carry)
		}
		if less, borrow := Sub(a, b); int(less) != modulo(int(a)-int(b), 65536) || borrow != (int(b) > int(a)) {
			t.Fatal("Sub", a, b, less, borrow)
		}
	})
}

func TestP1_1MulDiv(t *testing.T) {
	pairs(func(a, b api.Word) {
		n := int(a) * int(b)
		if high, low := Mul(a, b); int(high) != n/65536 || int(low) != n%65536 {
			t.Fatal("Mul", a, b, high, low)
		}
		by, rest, e := Div(a, b)
		if b == 0 {
			if by != 0 || rest != 0 || e != api.ErrZero {
				t.Fatal("Div by 0", a, by, rest, e)
			}
			return
		}
		if int(by) != int(a)/int(b) || int(rest) != int(a)%int(b) || e != api.OK {
			t.Fatal("Div", a, b, by, rest, e)
		}
	})
}

func TestP1_1Neg(t *testing.T) {
	for n := range 65536 {
		if g := Neg(api.Word(n)); int(g) != modulo(-n, 65536) {
			t.Fatal(n, g)
		}
	}
}

func TestP1_2Moves(t *testing.T) {
	for _, a := range edges() {
		for _, n := range moves() {
			by := modulo(n, 16)
			var shl, shr, sar, rot api.Word
			for i := range 16 {
				shl |= bit(a, i-by, 0) << i
				shr |= bit(a, i+by, 0) << i
				sar |= bit(a, i+by, a>>15) << i
				rot |= bit(a, modulo(i-by, 16), 0) << i
			}
			if Shl(a, n) != shl || Shr(a, n) != shr || Sar(a, n) != sar || Rot(a, n) != rot {
				t.Fatal(a, n, Shl(a, n), Shr(a, n), Sar(a, n), Rot(a, n))
			}
		}
	}
}

func TestP1_2WrittenOut(t *testing.T) {
	for _, c := range []struct {
		what      string
		got, want api.Word
	}{
		{"Shl by 0", Shl(0xabcd, 0), 0xabcd},
		{"Shl by 4", Shl(0xabcd, 4), 0xbcd0},
		{"Shl by 16", Shl(0xabcd, 16), 0xabcd},
		{"Shl by -1", Shl(0xabcd, -1), 0x8000},
		{"Shr by 4", Shr(0xabcd, 4), 0x0abc},
		{"Shr by -16", Shr(0xabcd, -16), 0xabcd},
		{"Shr by 31", Shr(0xabcd, 31), 1},
		{"Sar by 4", Sar(0xabcd, 4), 0xfabc},
		{"Sar by 15", Sar(0x8000, 15), 0xffff},
		{"Sar without a sign", Sar(0x7bcd, 4), 0x07bc},
		{"Rot by 4", Rot(0xabcd, 4), 0xbcda},
		{"Rot by -4", Rot(0xabcd, -4), 0xdabc},
		{"Rot by 16", Rot(0xabcd, 16), 0xabcd},
	} {
		if c.got != c.want {
			t.Errorf("%s: %04x, not %04x", c.what, c.got, c.want)
		}
	}
}

func TestP1_2Ones(t *testing.T) {
	for n := range 65536 {
		want := 0
		for rest := n; rest > 0; rest /= 2 {
			want += rest % 2
		}
		if g := Ones(api.Word(n)); g != want {
			t.Fatal(n, g)
		}
	}
}

func TestP1_3SignedFrom(t *testing.T) {
	for n := -70000; n <= 70000; n++ {
		a, ok := From(n)
		want := n >= -32768 && n <= 65535
		if ok != want || want && int(a) != modulo(n, 65536) || !want && a != 0 {
			t.Fatal("From", n, a, ok)
		}
	}
	for _, n := range []int{math.MinInt, math.MinInt32, -65536, 1 << 16, 1 << 17, math.MaxInt32, math.MaxInt} {
		if a, ok := From(n); ok || a != 0 {
			t.Error("From", n, a, ok)
		}
	}
	for a, want := range map[api.Word]int{0: 0, 1: 1, 32767: 32767, 32768: -32768, 32769: -32767, 65535: -1} {
		if g := Signed(a); g != want {
			t.Error("Signed", a, g)
		}
	}
}

func TestP1_3BytesHex(t *testing.T) {
	for n := range 65536 {
		a := api.Word(n)
		if b := Bytes(a); int(b[0]) != n/256 || int(b[1]) != n%256 {
			t.Fatal("Bytes", n, b)
		}
		if g := Join(byte(n/256), byte(n%256)); g != a {
			t.Fatal("Join", n, g)
		}
		if g := Hex(a); g != fmt.Sprintf("%04x", n) {
			t.Fatal("Hex", n, g)
		}
	}
}

func TestP1_4SubTakesAddBack(t *testing.T) {
	pairs(func(a, b api.Word) {
		sum, carry := Add(a, b)
		if back, borrow := Sub(sum, b); back != a || borrow != carry {
			t.Fatal(a, b, back, borrow)
		}
	})
}

func TestP1_5QuotientAndRest(t *testing.T) {
	pairs(func(a, b api.Word) {
		by, rest, e := Div(a, b)
		if e != api.OK {
			return
		}
		high, low := Mul(by, b)
		sum, carry := Add(low, rest)
		if high != 0 || sum != a || carry || rest >= b {
			t.Fatal(a, b, by, rest)
		}
	})
}

func TestP1_6RotAndBack(t *testing.T) {
	for _, a := range edges() {
		for _, n := range moves() {
			if n == math.MinInt { // it has no number of the other sign
				continue
			}
			if g := Rot(Rot(a, n), -n); g != a {
				t.Fatal(a, n, g)
			}
		}
	}
}

func TestP1_7FromOfSigned(t *testing.T) {
	for n := range 65536 {
		s := Signed(api.Word(n))
		if s < -32768 || s > 32767 {
			t.Fatal("Signed", n, s)
		}
		if a, ok := From(s); !ok || int(a) != n {
			t.Fatal("From", s, a, ok)
		}
	}
}
