package cursor

import (
	"math/rand"
	"slices"
	"strings"
	"testing"

	"quittance/api"
	"quittance/btree"
)

func tree(t *testing.T, keys ...string) *btree.Tree {
	t.Helper()
	x, e := btree.New(2)
	if e != api.OK {
		t.Fatal(e)
	}
	for _, key := range keys {
		x.Put(key, "v"+key)
	}
	return x
}

func open(t *testing.T, x *btree.Tree, r api.Span) *Cursor {
	t.Helper()
	c, e := Open(x, r)
	if c == nil || e != api.OK {
		t.Fatal(e)
	}
	return c
}

// next checks what is returned next ("-": nothing).
func next(t *testing.T, c *Cursor, want ...string) {
	t.Helper()
	for _, key := range want {
		x, is := c.Next()
		if key == "-" {
			if is || x != (api.Pair{}) {
				t.Fatal(x, is)
			}
		} else if x != (api.Pair{Key: key, Value: "v" + key}) || !is {
			t.Fatal(x, is, key)
		}
	}
}

// keys returns the keys of pairs in one string.
func keys(l []api.Pair) string {
	var s []string
	for _, x := range l {
		s = append(s, x.Key)
	}
	return strings.Join(s, " ")
}

func TestP14_1(t *testing.T) {
	for _, x := range []*btree.Tree{nil, {}} {
		if c, e := Open(x, api.Span{}); c != nil || e != api.ErrNil {
			t.Error(e)
		}
	}
	next(t, open(t, tree(t), api.Span{Open: true}), "-")
	for _, x := range []struct {
		r    api.Span
		key  string
		want bool
	}{
		{api.Span{From: "b", To: "d"}, "a", false}, {api.Span{From: "b", To: "d"}, "b", true}, {api.Span{From: "b", To: "d"}, "c\xff", true},
		{api.Span{From: "b", To: "d"}, "d", false}, {api.Span{From: "b", To: "d", Open: true}, "e", true}, {api.Span{From: "b", Open: true}, "a", false},
		{api.Span{}, "", false}, {api.Span{Open: true}, "", true}, {api.Span{From: "d", To: "b"}, "c", false}, {api.Span{From: "b", To: "d", Down: true}, "b", true},
		{api.Span{From: "b", To: "d", Down: true}, "d", false}, {api.Span{From: "b", To: "b"}, "b", false},
	} {
		if In(x.r, x.key) != x.want {
			t.Error(x)
		}
	}
}

func TestP14_2(t *testing.T) {
	x := tree(t, "a", "b", "c", "d")
	r := api.Span{From: "b", To: "d"}
	next(t, open(t, x, r), "b", "c", "-", "-")
	r.Down = true
	c := open(t, x, r)
	next(t, c, "c", "b", "-")
	c.Seek("zz")
	next(t, c, "c")
	c.Seek("bb")
	next(t, c, "b", "-")
	c.Rewind()
	next(t, c, "c")
	c.Seek("a")
	next(t, c, "-")
	r = api.Span{From: "b", Open: true, Down: true}
	c = open(t, x, r)
	next(t, c, "d", "c")
	c.Seek("d")
	next(t, c, "c", "b", "-")
	c = open(t, x, api.Span{From: "b", To: "d"})
	c.Seek("")
	next(t, c, "b")
	c.Seek("b")
	next(t, c, "c", "-")
	c.Seek("d")
	next(t, c, "-")
	c.Rewind()
	next(t, c, "b", "c", "-")
	x.Put("cc", "vcc") // the position stayed
	next(t, c, "cc", "-")
	for _, c := range []*Cursor{nil, {}} {
		c.Seek("a")
		next(t, c, "-")
		c.Rewind()
		next(t, c, "-")
	}
}

func TestP14_3(t *testing.T) {
	x := tree(t, "a", "b", "c", "d")
	for _, y := range []struct {
		r    api.Span
		most int
		want string
	}{
		{api.Span{From: "b", To: "d"}, 1, "b"}, {api.Span{From: "b", To: "d"}, 2, "b c"}, {api.Span{From: "b", To: "d"}, 1<<63 - 1, "b c"},
		{api.Span{From: "b", To: "d", Down: true}, 9, "c b"}, {api.Span{Open: true}, 9, "a b c d"}, {api.Span{Open: true, Down: true}, 3, "d c b"},
		{api.Span{Open: true}, 0, ""}, {api.Span{Open: true}, -1 << 63, ""}, {api.Span{From: "d", To: "b"}, 9, ""}, {api.Span{From: "d", To: "b", Down: true}, 9, ""}, {api.Span{}, 9, ""},
	} {
		if got := keys(Some(x, y.r, y.most)); got != y.want {
			t.Error(y, got)
		}
		if y.most == 9 && Count(x, y.r) != len(strings.Fields(y.want)) {
			t.Error(y, Count(x, y.r))
		}
	}
	for _, x := range []*btree.Tree{nil, {}} {
		for _, down := range []bool{false, true} {
			r := api.Span{Open: true, Down: down}
			if len(Some(x, r, 5)) != 0 || Count(x, r) != 0 {
				t.Error("something of nothing")
			}
		}
	}
}

func key(r *rand.Rand) string {
	return strings.Repeat(string(rune('a'+r.Intn(4))), 1+r.Intn(2)) + strings.Repeat(string(rune('a'+r.Intn(4))), r.Intn(2))
}

func span(r *rand.Rand) api.Span {
	return api.Span{From: key(r)[r.Intn(2):], To: key(r), Open: r.Intn(3) == 0, Down: r.Intn(2) == 0}
}

func TestP14_4(t *testing.T) {
	r := rand.New(rand.NewSource(22))
	for range 500 {
		x := tree(t)
		for range r.Intn(40) {
			k := key(r)
			x.Put(k, "v"+k)
		}
		s := span(r)
		l := Some(x, s, 1000)
		c := open(t, x, s)
		for _, want := range l {
			if got, is := c.Next(); got != want || !is {
				t.Fatal(s, got, want)
			}
		}
		next(t, c, "-")
		s.Down = !s.Down
		other := Some(x, s, 1000)
		slices.Reverse(other)
		if !slices.Equal(other, l) || Count(x, s) != len(l) {
			t.Fatal(s, keys(other), keys(l))
		}
	}
}

func TestP14_5(t *testing.T) {
	x := tree(t, "a", "b", "c", "d")
	c := open(t, x, api.Span{From: "b", To: "d"})
	next(t, c, "b")
	x.Put("bb", "vbb")
	x.Drop("c")
	next(t, c, "bb", "-")
	r := rand.New(rand.NewSource(23))
	for range 300 {
		x, s := tree(t), span(r)
		c := open(t, x, s)
		at := place{}
		for range 200 {
			k := key(r)
			switch r.Intn(3) {
			case 0:
				x.Put(k, "v"+k)
			case 1:
				x.Drop(k)
			default:
				follow(t, x, c, &at)
			}
		}
	}
}

// follow checks a Next against the first pair of the tree that is after a place.
func follow(t *testing.T, x *btree.Tree, c *Cursor, at *place) {
	t.Helper()
	want := api.Pair{}
	for _, y := range Some(x, c.span, 1000) {
		if !at.set || y.Key > at.key && !c.span.Down || y.Key < at.key && c.span.Down {
			want = y
			break
		}
	}
	got, is := c.Next()
	if got != want || is != (want != api.Pair{}) {
		t.Fatal(c.span, got, want)
	}
	if is {
		*at = place{got.Key, true}
	}
}

func TestP14_6(t *testing.T) {
	r := rand.New(rand.NewSource(24))
	for range 500 {
		x := tree(t)
		for range r.Intn(40) {
			x.Put(key(r), "")
		}
		s, k := span(r), key(r)
		s.Down = false
		if !In(s, k) {
			continue
		}
		low, high := s, s
		low.To, low.Open, high.From = k, false, k
		both := append(Some(x, low, 1000), Some(x, high, 1000)...)
		if !slices.Equal(both, Some(x, s, 1000)) || Count(x, low)+Count(x, high) != Count(x, s) {
			t.Fatal(s, k)
		}
	}
}
