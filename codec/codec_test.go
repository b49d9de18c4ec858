package codec

import (
	"math/rand"
	"slices"
	"strings"
	"testing"

	"quittance/api"
	"quittance/order"
)

func n(x uint64) api.Field { return api.Field{N: x} }
func i(x int64) api.Field  { return api.Field{I: x} }
func s(x string) api.Field { return api.Field{S: x} }

func schema() api.Schema {
	return api.Schema{Name: "t", Kinds: "nsi", Key: 1, Indexes: [][]int{{1}, {2, 1}}}
}

func with(change func(*api.Schema)) api.Schema {
	x := schema()
	change(&x)
	return x
}

// wrong returns schemas that are not valid.
func wrong() []api.Schema {
	return []api.Schema{
		{}, with(func(x *api.Schema) { x.Name = "" }), with(func(x *api.Schema) { x.Name = strings.Repeat("x", 41) }),
		with(func(x *api.Schema) { x.Name = "a b" }), with(func(x *api.Schema) { x.Name = "\x7f" }), with(func(x *api.Schema) { x.Name = "é" }),
		with(func(x *api.Schema) { x.Kinds = "" }), with(func(x *api.Schema) { x.Kinds = "nsx" }), with(func(x *api.Schema) { x.Kinds = strings.Repeat("n", 17) }),
		with(func(x *api.Schema) { x.Key = 0 }), with(func(x *api.Schema) { x.Key = -1 }), with(func(x *api.Schema) { x.Key = 4 }),
		with(func(x *api.Schema) { x.Indexes = make([][]int, 9) }), with(func(x *api.Schema) { x.Indexes = [][]int{{}} }),
		with(func(x *api.Schema) { x.Indexes = [][]int{{0}, {3}} }), with(func(x *api.Schema) { x.Indexes = [][]int{{-1}} }),
		with(func(x *api.Schema) { x.Indexes = [][]int{{0, 1, 0}} }),
	}
}

func TestP15_1(t *testing.T) {
	eight := with(func(x *api.Schema) { x.Indexes = [][]int{{0}, {0}, {0}, {0}, {1}, {1}, {1}, {2, 1, 0}} })
	whole := api.Schema{Name: "!" + strings.Repeat("~", 39), Kinds: strings.Repeat("s", 16), Key: 16}
	for _, x := range []api.Schema{schema(), eight, whole} {
		if e := Check(x); e != api.OK {
			t.Error(x, e)
		}
	}
	for _, x := range wrong() {
		_, e1 := Letters(x, -1)
		_, e2 := Place(x, -1, nil)
		_, e3 := Begin(x, -1, nil)
		for _, e := range []api.Errno{Check(x), e1, e2, e3, Whole(x, nil)} {
			if e != api.ErrArg {
				t.Error(x, e)
			}
		}
	}
	for _, x := range []struct {
		index int
		want  string
		e     api.Errno
	}{{-1, "n", api.OK}, {0, "s", api.OK}, {1, "is", api.OK}, {2, "", api.ErrArg}, {-2, "", api.ErrArg}, {1<<63 - 1, "", api.ErrArg}, {-1 << 63, "", api.ErrArg}} {
		if l, e := Letters(schema(), x.index); l != x.want || e != x.e {
			t.Error(x, l, e)
		}
	}
}

func TestP15_2(t *testing.T) {
	r := []api.Field{n(5), s("ab"), i(-1)}
	if b, e := Put("nsi", r); b != "\x05\x02ab\x01" || e != api.OK {
		t.Errorf("% x %d", b, e)
	}
	if got, e := Get("nsi", "\x05\x02ab\x01"); !slices.Equal(got, r) || e != api.OK {
		t.Error(got, e)
	}
	if b, e := Put("", nil); b != "" || e != api.OK {
		t.Error(b, e)
	}
	if l, e := Get("", ""); len(l) != 0 || e != api.OK {
		t.Error(l, e)
	}
	long := s(strings.Repeat("x", 8191))
	for _, x := range []struct {
		kinds string
		r     []api.Field
		e     api.Errno
	}{
		{"x", []api.Field{long}, api.ErrArg}, {"ns", []api.Field{n(5)}, api.ErrForm}, {"n", []api.Field{n(5), n(5)}, api.ErrForm}, {"n", []api.Field{i(5)}, api.ErrForm},
		{"sn", []api.Field{long, i(1)}, api.ErrForm}, {"s", []api.Field{long}, api.ErrLong}, {"n", nil, api.ErrForm},
	} {
		if b, e := Put(x.kinds, x.r); b != "" || e != x.e {
			t.Error(x, b, e)
		}
	}
	b, e := Put("s", []api.Field{s(long.S[:8190])})
	if len(b) != 8192 || e != api.OK {
		t.Error(len(b), e)
	}
	if r, e := Get("s", b); len(r) != 1 || e != api.OK {
		t.Error(len(r), e)
	}
	for _, x := range []struct {
		kinds, b string
		e        api.Errno
	}{
		{"x", strings.Repeat("x", 8193), api.ErrArg}, {"n", strings.Repeat("x", 8193), api.ErrLong}, {"n", "\x05\x05", api.ErrForm}, {"n", "", api.ErrForm}, {"", "a", api.ErrForm},
		{"n", "\x80", api.ErrForm}, {"i", "\x80", api.ErrForm}, {"s", "\x02a", api.ErrForm}, {"nn", "\x05", api.ErrForm}, {"n", strings.Repeat("\xff", 10) + "\x00", api.ErrForm},
	} {
		if l, e := Get(x.kinds, x.b); len(l) != 0 || e != x.e {
			t.Error(x, l, e)
		}
	}
}

func TestP15_3(t *testing.T) {
	r := []api.Field{n(5), s("ab"), i(-1)}
	for _, x := range []struct {
		index int
		want  string
		e     api.Errno
	}{{-1, "\x01\x05", api.OK}, {0, "ab\x00\x00\x01\x05", api.OK}, {1, "\x7fab\x00\x00\x01\x05", api.OK}, {2, "", api.ErrArg}, {-2, "", api.ErrArg}} {
		if got, e := Place(schema(), x.index, r); got != x.want || e != x.e {
			t.Errorf("%d: % x %d", x.index, got, e)
		}
	}
	for _, x := range []struct {
		index int
		l     []api.Field
		want  string
		e     api.Errno
	}{
		{1, []api.Field{i(-1)}, "\x7f", api.OK}, {1, nil, "", api.OK}, {1, []api.Field{i(-1), s("a")}, "\x7fa\x00\x00", api.OK}, {-1, []api.Field{n(5)}, "\x01\x05", api.OK},
		{1, []api.Field{s("a")}, "", api.ErrForm}, {0, []api.Field{s("a"), n(5)}, "", api.ErrForm}, {2, nil, "", api.ErrArg}, {0, []api.Field{s(strings.Repeat("x", 1023))}, "", api.ErrLong},
	} {
		if got, e := Begin(schema(), x.index, x.l); got != x.want || e != x.e {
			t.Errorf("%v: % x %d", x, got, e)
		}
	}
	for _, bad := range [][]api.Field{nil, r[:2], {n(5), s("ab"), s("x")}, append(slices.Clone(r), n(1))} {
		if got, e := Place(schema(), 0, bad); got != "" || e != api.ErrForm {
			t.Error(bad, e)
		}
		if e := Whole(schema(), bad); e != api.ErrForm {
			t.Error(bad, e)
		}
	}
}

func TestP15_3Long(t *testing.T) {
	key := api.Schema{Name: "t", Kinds: "ssn", Key: 1, Indexes: [][]int{{2}, {1}}}
	long := s(strings.Repeat("x", 1023))
	for _, x := range []struct {
		index int
		r     []api.Field
		e     api.Errno
	}{
		{-1, []api.Field{long, s(""), n(1)}, api.ErrLong}, {0, []api.Field{long, s(""), n(1)}, api.ErrLong}, {0, []api.Field{s(""), long, n(1)}, api.OK},
		{1, []api.Field{s(""), long, n(1)}, api.ErrLong}, {1, []api.Field{s(long.S[1:]), s(long.S[1:]), n(1)}, api.OK},
	} {
		p, e := Place(key, x.index, x.r)
		if e != x.e || (p == "") != (e != api.OK) {
			t.Error(x.index, e)
		}
	}
	for _, x := range []struct {
		r []api.Field
		e api.Errno
	}{
		{[]api.Field{s(""), s(""), n(1)}, api.OK}, {[]api.Field{long, s(""), n(1)}, api.ErrLong}, {[]api.Field{s(""), long, n(1)}, api.ErrLong},
		{[]api.Field{s(""), s(strings.Repeat("x", 9000)), i(1)}, api.ErrForm},
	} {
		if e := Whole(key, x.r); e != x.e {
			t.Error(len(x.r[1].S), e)
		}
	}
	free := api.Schema{Name: "t", Kinds: "ns", Key: 1}
	if e := Whole(free, []api.Field{n(1), s(strings.Repeat("x", 8189))}); e != api.OK {
		t.Error(e)
	}
	if e := Whole(free, []api.Field{n(1), s(strings.Repeat("x", 8190))}); e != api.ErrLong {
		t.Error(e)
	}
}

func someRecord(r *rand.Rand) []api.Field {
	texts := []string{"", "a", "a\x00", "ab", "b", "\x00", "\xff"}
	return []api.Field{n(r.Uint64() >> r.Intn(64)), s(texts[r.Intn(len(texts))]), i(int64(r.Intn(5) - 2))}
}

func TestP15_4(t *testing.T) {
	r := rand.New(rand.NewSource(25))
	for range 3000 {
		x := someRecord(r)
		b, e := Put("nsi", x)
		if e != api.OK {
			t.Fatal(e)
		}
		if got, e := Get("nsi", b); !slices.Equal(got, x) || e != api.OK {
			t.Fatal(x, got, e)
		}
		c := []byte(b + "\x00")
		c[r.Intn(len(c))] ^= byte(1 << r.Intn(8))
		if got, e := Get("nsi", string(c)); e == api.OK {
			if b, e := Put("nsi", got); b != string(c) || e != api.OK {
				t.Fatalf("% x: %v", c, got)
			}
		}
	}
}

func TestP15_5(t *testing.T) {
	r := rand.New(rand.NewSource(26))
	for range 5000 {
		x, y := someRecord(r), someRecord(r)
		for index, at := range [][]int{{1}, {2, 1}} {
			px, _ := Place(schema(), index, x)
			py, _ := Place(schema(), index, y)
			want := order.Compare(append(pick(x, at), x[0]), append(pick(y, at), y[0]))
			if strings.Compare(px, py) != want {
				t.Fatal(x, y, index)
			}
			some := pick(y, at)[:r.Intn(len(at)+1)]
			b, e := Begin(schema(), index, some)
			if e != api.OK || strings.HasPrefix(px, b) != slices.Equal(pick(x, at)[:len(some)], some) {
				t.Fatal(x, some, index)
			}
		}
	}
}
