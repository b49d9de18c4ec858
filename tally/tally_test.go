package tally

import (
	"slices"
	"strings"
	"testing"
)

// numbers are those at both sides of each length's bounds, and some between.
func numbers() []uint64 {
	l := []uint64{0, 1, 2, 63, 64, 126, 300, 1 << 32, 1<<63 - 1, 1 << 63, most - 1, most}
	var bound, power uint64 = 0, 1
	for range 9 {
		power <<= 7
		bound += power
		l = append(l, bound-1, bound, bound+1)
	}
	slices.Sort(l)
	return slices.Compact(l)
}

// slowNum is the definition, word for word.
func slowNum(n uint64) string {
	if n <= 127 {
		return string([]byte{byte(n)})
	}
	var b []byte
	for _, c := range []byte(slowNum(n/128 - 1)) {
		b = append(b, c|0x80)
	}
	return string(append(b, byte(n%128)))
}

func TestP1_1(t *testing.T) {
	for _, n := range numbers() {
		if Num(n) != slowNum(n) || Long(n) != len(slowNum(n)) {
			t.Errorf("%d: % x, %d; wanted % x", n, Num(n), Long(n), slowNum(n))
		}
	}
	for _, x := range []struct{ have, want string }{
		{Num(0), "\x00"}, {Num(127), "\x7f"}, {Num(128), "\x80\x00"}, {Num(300), "\x81\x2c"},
		{Num(16511), "\xff\x7f"}, {Num(16512), "\x80\x80\x00"},
		{Int(0), "\x00"}, {Int(-1), "\x01"}, {Int(1), "\x02"}, {Int(-64), "\x7f"}, {Int(64), "\x80\x00"},
		{Int(1<<63 - 1), Num(most - 1)}, {Int(-1 << 63), Num(most)},
		{Text(""), "\x00"}, {Text("ab"), "\x02ab"}, {Text(strings.Repeat("x", 128)), "\x80\x00" + strings.Repeat("x", 128)},
		{Row(nil), "\x00"}, {Row([]string{"a", ""}), "\x02\x01a\x00"},
	} {
		if x.have != x.want {
			t.Errorf("% x, wanted % x", x.have, x.want)
		}
	}
	if Long(0) != 1 || Long(most) != 10 {
		t.Error(Long(0), Long(most))
	}
}

func TestP1_2(t *testing.T) {
	if n, rest, is := TakeNum("\x80\x00\x05"); n != 128 || rest != "\x05" || !is {
		t.Error(n, rest, is)
	}
	over := []string{"", "\x80", "\xff\xff\xff",
		"\x80\xfe\xfe\xfe\xfe\xfe\xfe\xfe\xff\x00", // one above the greatest number
		strings.Repeat("\x80", 11) + "\x00", strings.Repeat("\xff", 40) + "\x00"}
	for _, b := range over {
		if n, rest, is := TakeNum(b); n != 0 || rest != "" || is {
			t.Errorf("% x: %d %q %v", b, n, rest, is)
		}
		if n, rest, is := TakeInt(b); n != 0 || rest != "" || is {
			t.Errorf("% x: %d %q %v", b, n, rest, is)
		}
	}
	for _, b := range append(over, "\x01", "\x02a", Num(most), Num(most)+"abc") {
		if s, rest, is := TakeText(b); s != "" || rest != "" || is {
			t.Errorf("% x: %q %q %v", b, s, rest, is)
		}
	}
	for _, b := range append(over, "\x01", "\x02\x01a", "\x01\x02a", Num(most), Num(most)+"\x00\x00") {
		if l, rest, is := TakeRow(b); len(l) != 0 || rest != "" || is {
			t.Errorf("% x: %q %q %v", b, l, rest, is)
		}
	}
}

func TestP1_3(t *testing.T) {
	for _, n := range numbers() {
		for _, follows := range []string{"", "\x00", "\xff\x80", "abc"} {
			if m, rest, is := TakeNum(Num(n) + follows); m != n || rest != follows || !is {
				t.Error(n, m, rest, is)
			}
			if m, rest, is := TakeInt(Int(int64(n)) + follows); m != int64(n) || rest != follows || !is {
				t.Error(int64(n), m, rest, is)
			}
		}
	}
	l := []string{"", "a", "\x00\xff", strings.Repeat("x", 200)}
	for i := range len(l) + 1 {
		got, rest, is := TakeRow(Row(l[:i]) + "z")
		if !slices.Equal(got, l[:i]) || rest != "z" || !is {
			t.Error(got, rest, is)
		}
	}
	for _, s := range l {
		for _, follows := range []string{"", "z"} {
			if got, rest, is := TakeText(Text(s) + follows); got != s || rest != follows || !is {
				t.Error(got, rest, is)
			}
		}
	}
	if got, rest, is := TakeRow(Row([]string{"", ""})); len(got) != 2 || rest != "" || !is {
		t.Error(got, rest, is)
	}
	for i := range 1 << 16 { // no two encodings
		b := string([]byte{byte(i >> 8), byte(i)})
		if n, rest, is := TakeNum(b); is && Num(n)+rest != b {
			t.Errorf("% x is %d", b, n)
		}
		if n, rest, is := TakeInt(b); is && Int(n)+rest != b {
			t.Errorf("% x is %d", b, n)
		}
	}
}

func TestP1_4(t *testing.T) {
	for _, n := range numbers() {
		for i := range Long(n) {
			if _, _, is := TakeNum(Num(n)[:i]); is {
				t.Error(n, i)
			}
		}
	}
	text, row := Text(strings.Repeat("y", 130)), Row([]string{"ab", "", "c"})
	for i := range len(text) {
		if _, _, is := TakeText(text[:i]); is {
			t.Error(i)
		}
	}
	for i := range len(row) {
		if _, _, is := TakeRow(row[:i]); is {
			t.Error(i)
		}
	}
}

func TestP1_5(t *testing.T) {
	l := numbers()
	for i := 1; i < len(l); i++ {
		if Long(l[i]) < Long(l[i-1]) {
			t.Error(l[i])
		}
	}
	for _, n := range []int64{0, 1, 63, 64, 1 << 40, 1<<63 - 1} {
		a, _, _ := TakeNum(Int(n))
		b, _, _ := TakeNum(Int(-n - 1))
		if b != a+1 {
			t.Error(n, a, b)
		}
	}
}
