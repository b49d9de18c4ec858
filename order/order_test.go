package order

import (
	"math/rand"
	"slices"
	"strings"
	"testing"

	"quittance/api"
)

func n(x uint64) api.Field { return api.Field{N: x} }
func i(x int64) api.Field  { return api.Field{I: x} }
func s(x string) api.Field { return api.Field{S: x} }

func TestP12_1(t *testing.T) {
	for kinds, want := range map[string]bool{"": true, "nis": true, strings.Repeat("s", 16): true, strings.Repeat("s", 17): false, "x": false, "nN": false, "n i": false, "n\x00": false, "\xff": false} {
		if Kinds(kinds) != want {
			t.Error(kinds)
		}
	}
	for _, x := range []struct {
		kinds string
		l     []api.Field
		want  bool
	}{
		{"nis", []api.Field{n(1), i(-1), s("a")}, true}, {"nis", []api.Field{n(1)}, true}, {"nis", nil, true}, {"", nil, true},
		{"nis", []api.Field{{}, {}, {}}, true}, {"n", []api.Field{n(1), n(2)}, false}, {"n", []api.Field{i(1)}, false},
		{"i", []api.Field{{N: 1, I: 1}}, false}, {"s", []api.Field{{I: 1, S: "a"}}, false}, {"x", nil, false}, {"x", []api.Field{{}}, false},
	} {
		if Fit(x.kinds, x.l) != x.want {
			t.Error(x)
		}
	}
	ascending := [][]api.Field{
		nil, {{}}, {{}, {}}, {s("a")}, {s("a"), i(-1)}, {s("a"), n(0)}, {s("a\x00")}, {s("aa")}, {s("b")}, {i(1)}, {{I: 1, S: "a"}}, {i(2)}, {{N: 1, I: -5}}, {n(1)}, {n(1), {}}, {{N: 1, S: "a"}}, {n(2)},
	}
	for a := range ascending {
		for b := range ascending {
			want := min(max(a-b, -1), 1)
			if Compare(ascending[a], ascending[b]) != want {
				t.Error(ascending[a], ascending[b], Compare(ascending[a], ascending[b]))
			}
		}
	}
	if Compare([]api.Field{i(-1)}, []api.Field{{}}) != -1 || Compare(nil, []api.Field{}) != 0 {
		t.Error("an integer below 0, or nothing")
	}
}

func TestP12_2(t *testing.T) {
	for _, x := range []struct {
		kinds string
		l     []api.Field
		key   string
	}{
		{"nis", []api.Field{n(258), i(-1), s("a\x00")}, "\x02\x01\x02\x7fa\x00\xff\x00\x00"},
		{"n", []api.Field{n(0)}, "\x00"}, {"n", []api.Field{n(1<<64 - 1)}, "\x08" + strings.Repeat("\xff", 8)},
		{"i", []api.Field{i(0)}, "\x80"}, {"i", []api.Field{i(1)}, "\x81\x01"}, {"i", []api.Field{i(-257)}, "\x7d\xfe\xff"},
		{"i", []api.Field{i(-256)}, "\x7e\x00"}, {"i", []api.Field{i(-2)}, "\x7e\xfe"},
		{"i", []api.Field{i(1<<63 - 1)}, "\x88\x7f" + strings.Repeat("\xff", 7)}, {"i", []api.Field{i(-1 << 63)}, "\x77\x80" + strings.Repeat("\x00", 7)},
		{"s", []api.Field{s("")}, "\x00\x00"}, {"ssn", []api.Field{s("\x00\x00"), s("\xff")}, "\x00\xff\x00\xff\x00\x00\xff\x00\x00"},
		{"nis", nil, ""}, {"", nil, ""}, {"s", []api.Field{s(strings.Repeat("x", 1022))}, strings.Repeat("x", 1022) + "\x00\x00"},
	} {
		if key, e := Put(x.kinds, x.l); key != x.key || e != api.OK {
			t.Errorf("%q %v: % x %d", x.kinds, x.l, key, e)
		}
		if l, e := Get(x.kinds, x.key); !slices.Equal(l, x.l) || e != api.OK {
			t.Errorf("%q % x: %v %d", x.kinds, x.key, l, e)
		}
	}
	long := s(strings.Repeat("x", 1023))
	for _, x := range []struct {
		kinds string
		l     []api.Field
		e     api.Errno
	}{
		{"x", []api.Field{long}, api.ErrArg}, {"n", []api.Field{long}, api.ErrForm}, {"n", []api.Field{i(1)}, api.ErrForm}, {"sn", []api.Field{long, i(1)}, api.ErrForm},
		{"s", []api.Field{long}, api.ErrLong}, {"ss", []api.Field{s(strings.Repeat("\x00", 510)), s("a")}, api.ErrLong}, {strings.Repeat("n", 17), nil, api.ErrArg},
	} {
		if key, e := Put(x.kinds, x.l); key != "" || e != x.e {
			t.Error(x, key, e)
		}
	}
}

func TestP12_2Get(t *testing.T) {
	for _, x := range []struct {
		kinds, key string
		e          api.Errno
	}{
		{"x", strings.Repeat("x", 1025), api.ErrArg}, {"n", strings.Repeat("x", 1025), api.ErrLong}, {"n", strings.Repeat("x", 1024), api.ErrForm},
		{"n", "\x01\x00", api.ErrForm}, {"n", "\x00\x00", api.ErrForm}, {"s", "a", api.ErrForm}, {"n", "\x01", api.ErrForm}, {"n", "\x09" + strings.Repeat("a", 9), api.ErrForm},
		{"n", "\xff", api.ErrForm}, {"i", "\x81\x00", api.ErrForm}, {"i", "\x7e\xff", api.ErrForm}, {"i", "\x88\x80" + strings.Repeat("\x00", 7), api.ErrForm},
		{"i", "\x77\x7f" + strings.Repeat("\xff", 7), api.ErrForm}, {"i", "\x89" + strings.Repeat("a", 9), api.ErrForm}, {"i", "\x76" + strings.Repeat("a", 9), api.ErrForm},
		{"i", "\x00", api.ErrForm}, {"i", "\xff", api.ErrForm}, {"i", "\x7e", api.ErrForm}, {"s", "\x00", api.ErrForm}, {"s", "a\x00\x01\x00\x00", api.ErrForm},
		{"s", "a\x00\xff", api.ErrForm}, {"s", "a\x00\xff\x00", api.ErrForm}, {"s", "\x00\x00\x00", api.ErrForm}, {"", "\x00", api.ErrForm},
	} {
		if l, e := Get(x.kinds, x.key); len(l) != 0 || e != x.e {
			t.Errorf("%q % x: %v %d", x.kinds, x.key, l, e)
		}
	}
}

func TestP12_3(t *testing.T) {
	for _, x := range []struct {
		s, want string
		is      bool
	}{{"a\xff", "b", true}, {"a", "b", true}, {"a\xfe\xff\xff", "a\xff", true}, {"\x00", "\x01", true}, {"", "", false}, {"\xff", "", false}, {"\xff\xff\xff", "", false}} {
		if got, is := Above(x.s); got != x.want || is != x.is {
			t.Errorf("%q: %q %v", x.s, got, is)
		}
	}
}

// someFields returns fields of few values, so that many are alike.
func someFields(r *rand.Rand, kinds string) []api.Field {
	numbers := []uint64{0, 1, 2, 255, 256, 257, 65535, 65536, 1 << 40, 1<<63 - 1, 1 << 63, 1<<64 - 1}
	texts := []string{"", "\x00", "\x00\x00", "\x00\x01", "\x00\xff", "a", "a\x00", "a\x00b", "ab", "a\x01", "\xff", "\xff\xff"}
	var l []api.Field
	for _, k := range kinds[:r.Intn(len(kinds)+1)] {
		x := numbers[r.Intn(len(numbers))]
		switch k {
		case 'n':
			l = append(l, n(x))
		case 'i':
			l = append(l, i(int64(x)-int64(r.Intn(3))))
		case 's':
			l = append(l, s(texts[r.Intn(len(texts))]))
		}
	}
	return l
}

func TestP12_4(t *testing.T) {
	r := rand.New(rand.NewSource(19))
	for range 5000 {
		kinds := []string{"nis", "sss", "iin", "nsnsi"}[r.Intn(4)]
		l := someFields(r, kinds)
		key, e := Put(kinds, l)
		if e != api.OK {
			t.Fatal(l, e)
		}
		if back, e := Get(kinds, key); !slices.Equal(back, l) || e != api.OK {
			t.Fatalf("%v % x %v %d", l, key, back, e)
		}
		b := []byte(key + "\x00")
		b[r.Intn(len(b))] ^= byte(1 << r.Intn(8))
		if l, e := Get(kinds, string(b)); e == api.OK {
			if key, e := Put(kinds, l); key != string(b) || e != api.OK {
				t.Fatalf("% x: %v", b, l)
			}
		}
	}
}

func TestP12_5and6(t *testing.T) {
	r := rand.New(rand.NewSource(20))
	for range 30000 {
		kinds := []string{"nis", "sss", "iin", "ssnsi"}[r.Intn(4)]
		a, b := someFields(r, kinds), someFields(r, kinds)
		x, _ := Put(kinds, a)
		y, _ := Put(kinds, b)
		if Compare(a, b) != strings.Compare(x, y) {
			t.Fatalf("%v %v: % x, % x", a, b, x, y)
		}
		begins := len(b) <= len(a) && slices.Equal(a[:len(b)], b)
		if strings.HasPrefix(x, y) != begins {
			t.Fatalf("%v %v: % x, % x", a, b, x, y)
		}
		above, is := Above(y)
		if strings.HasPrefix(x, y) != (x >= y && (!is || x < above)) {
			t.Fatalf("% x, % x, % x", x, y, above)
		}
	}
}
