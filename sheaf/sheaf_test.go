package sheaf

import (
	"math/rand"
	"slices"
	"strings"
	"testing"

	"quittance/api"
	"quittance/leaf"
	"quittance/tally"
)

func put(t *testing.T, stamp uint64, s string) []string {
	t.Helper()
	l, e := Put(stamp, s)
	if e != api.OK {
		t.Fatal(e)
	}
	return l
}

// lengths are those at which one leaf more begins, and the length's bytes grow.
var lengths = []int{0, 1, 46, 47, 48, 94, 95, 96, 97, 127, 128, 142, 143, 1000, 16511, 16512, api.MaxSheaf - 1, api.MaxSheaf}

func TestP4_1(t *testing.T) {
	for _, n := range lengths {
		s := strings.Repeat("x", n)
		l := put(t, 7, s)
		if len(l) != Many(n) {
			t.Error(n, len(l), Many(n))
		}
		b := ""
		for _, x := range l {
			stamp, content, is := leaf.Get(x)
			if stamp != 7 || !is {
				t.Fatal(stamp, is)
			}
			b += content
		}
		want := tally.Text(s)
		if !strings.HasPrefix(b, want) || strings.Trim(b[len(want):], "\x00") != "" || len(b)-len(want) >= 48 {
			t.Error(n, len(b))
		}
	}
	for _, x := range []struct{ n, want int }{{0, 1}, {47, 1}, {48, 2}, {95, 2}, {96, 3}, {-1, 1}, {-1 << 63, 1}, {1<<63 - 1, 1<<63/48 + 1}} {
		if Many(x.n) != x.want {
			t.Error(x.n, Many(x.n))
		}
	}
	long := strings.Repeat("x", api.MaxSheaf+1)
	for _, x := range []struct {
		stamp uint64
		s     string
		e     api.Errno
	}{{0, "a", api.ErrArg}, {0, long, api.ErrArg}, {1, long, api.ErrLong}} {
		if l, e := Put(x.stamp, x.s); len(l) != 0 || e != x.e {
			t.Error(x.stamp, len(x.s), e)
		}
	}
}

func leaves(t *testing.T, stamp uint64, contents ...string) []string {
	t.Helper()
	var l []string
	for _, c := range contents {
		x, e := leaf.Put(stamp, c)
		if e != api.OK {
			t.Fatal(e)
		}
		l = append(l, x)
	}
	return l
}

func TestP4_2(t *testing.T) {
	s := strings.Repeat("y", 50)
	two := put(t, 7, s)
	if stamp, x, many, is := Get(append(slices.Clone(two), "any")); stamp != 7 || x != s || many != 2 || !is {
		t.Error(stamp, x, many, is)
	}
	other := put(t, 8, s)
	var long []string // its leaves are all there, but no sheaf has so many bytes
	for piece := range pieces(tally.Text(strings.Repeat("z", api.MaxSheaf+1))) {
		long = append(long, leaves(t, 7, piece)...)
	}
	for i, l := range [][]string{
		nil, {}, {""}, long, two[:1], two[1:], {two[0], other[1]}, {two[0], strings.Repeat("\x00", 64)},
		leaves(t, 7, "\x02ab\x01"),                              // the padding is not 0
		leaves(t, 7, "\x32"+strings.Repeat("y", 47), "yyyz"),    // nor in the second leaf
		leaves(t, 7, strings.Repeat("\x80", 48), "\x00"),        // no length
		leaves(t, 7, tally.Num(api.MaxSheaf+1)),                 // too long
		leaves(t, 7, strings.Repeat("\xff", 9)+"\x7f", "", "a"), // no number
	} {
		if stamp, x, many, is := Get(l); stamp != 0 || x != "" || many != 0 || is {
			t.Error(i, stamp, x, many)
		}
	}
	if n := Top(append(put(t, 7, "ab"), strings.Repeat("\x00", 64))); n != 7 {
		t.Error(n)
	}
	half := two[0][:8] + strings.Repeat("\x00", 56)
	for _, x := range []struct {
		l    []string
		want uint64
	}{{nil, 0}, {[]string{"", "abc"}, 0}, {append(put(t, 9, "a"), two...), 9}, {[]string{two[1], other[0]}, 8}, {[]string{half}, 7}} {
		if n := Top(x.l); n != x.want {
			t.Error(n, x.want)
		}
	}
}

func TestP4_3(t *testing.T) {
	for _, n := range lengths {
		s := strings.Repeat("\x00\xff", n/2) + strings.Repeat("z", n%2)
		l := put(t, 1<<63, s)
		for _, behind := range [][]string{nil, {"any"}, put(t, 1<<63, "next")} {
			stamp, got, many, is := Get(append(slices.Clone(l), behind...))
			if stamp != 1<<63 || got != s || many != len(l) || !is {
				t.Fatal(n, stamp, many, is)
			}
			if !slices.Equal(put(t, stamp, got), l) {
				t.Error(n)
			}
		}
	}
}

// TestP4_4 writes sheaves, each torn at will, over one another.
func TestP4_4(t *testing.T) {
	r := rand.New(rand.NewSource(4))
	for range 400 {
		sectors := make([]string, 8)
		for i := range sectors {
			sectors[i] = strings.Repeat("\x00", api.SectorSize)
		}
		began, texts, all := map[uint64]int{}, map[uint64]string{}, map[uint64][]string{}
		for range 6 {
			stamp := Top(sectors) + 1 + uint64(r.Intn(3))*255
			s := strings.Repeat(string(rune('a'+r.Intn(26))), r.Intn(150))
			at := r.Intn(8)
			began[stamp], texts[stamp], all[stamp] = at, s, put(t, stamp, s)
			for i, x := range all[stamp] {
				if at+i >= 8 {
					break
				}
				k := []int{0, 64, 64, r.Intn(65)}[r.Intn(4)]
				sectors[at+i] = x[:k] + sectors[at+i][k:]
			}
			for at := range sectors {
				stamp, s, many, is := Get(sectors[at:])
				if !is {
					continue
				}
				for i := range many {
					if k := at + i - began[stamp]; k < 0 || sectors[at+i] != all[stamp][k] {
						t.Fatal("a sector of another write")
					}
				}
				if began[stamp] == at && texts[stamp] != s {
					t.Fatalf("%q, wanted %q", s, texts[stamp])
				}
			}
		}
	}
}
