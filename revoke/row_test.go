package revoke

import (
	"slices"
	"testing"
)

func TestRowComesOutAsItWentIn(t *testing.T) {
	var r row[string]
	for range 3 {
		if thing, ok := r.next(); thing != "" || ok {
			t.Fatal("of an empty row", thing, ok)
		}
		texts := []string{"a", "b", "", "a"}
		for _, s := range texts {
			r.add(s)
		}
		for _, want := range texts {
			if thing, ok := r.next(); thing != want || !ok {
				t.Fatal(thing, ok, "not", want)
			}
		}
	}
}

func TestRowPart(t *testing.T) {
	r := row[int]{5, 2, 9, 4, 2}
	even, odd := part(r, func(n int) bool { return n%2 == 0 })
	if !slices.Equal(even, row[int]{2, 4, 2}) || !slices.Equal(odd, row[int]{5, 9}) {
		t.Error(even, odd)
	}
	even.add(7)
	odd.add(8)
	even[0], odd[0] = 100, 100
	if !slices.Equal(r, row[int]{5, 2, 9, 4, 2}) {
		t.Error("a part lies in the row", r)
	}
	for _, all := range []bool{true, false} {
		those, others := part(r, func(int) bool { return all })
		if all && (len(those) != 5 || len(others) != 0) || !all && (len(those) != 0 || len(others) != 5) {
			t.Error(all, those, others)
		}
	}
	if those, others := part(row[int](nil), func(int) bool { return true }); len(those)+len(others) != 0 {
		t.Error(those, others)
	}
}

func TestRowList(t *testing.T) {
	r := row[int]{3, 0, 1}
	l := list(r, func(n int) string { return "abcd"[n : n+1] })
	if !slices.Equal(l, []string{"d", "a", "b"}) {
		t.Error(l)
	}
	same := list(r, func(n int) int { return n })
	same[0] = 9
	if r[0] != 3 {
		t.Error("the list lies in the row")
	}
}
