package btree

import (
	"maps"
	"math/rand"
	"slices"
	"sort"
	"strconv"
	"testing"

	"quittance/api"
)

func fresh(t *testing.T, degree int) *Tree {
	t.Helper()
	x, e := New(degree)
	if x == nil || e != api.OK {
		t.Fatal(degree, e)
	}
	return x
}

func TestP13_1(t *testing.T) {
	for _, degree := range []int{-1 << 63, -1, 0, 1, 65, 1<<63 - 1} {
		if x, e := New(degree); x != nil || e != api.ErrArg {
			t.Error(degree, e)
		}
	}
	for _, degree := range []int{2, 3, 64} {
		x := fresh(t, degree)
		if x.Len() != 0 || x.Height() != 1 || x.Cells() != 1 || len(x.Nodes()) != 1 || len(x.Nodes()[0].Keys) != 0 {
			t.Error(degree, x.Nodes())
		}
	}
}

func TestP13_2(t *testing.T) {
	x := fresh(t, 2)
	for i, key := range []string{"", "a", "\x00", "\xff", "a\x00", "b"} {
		if old, was := x.Put(key, key+"1"); old != "" || was {
			t.Error(key, old)
		}
		if old, was := x.Put(key, key+"2"); old != key+"1" || !was || x.Len() != i+1 {
			t.Error(key, old, x.Len())
		}
		if value, is := x.Get(key); value != key+"2" || !is {
			t.Error(key, value)
		}
	}
	for _, key := range []string{"c", "aa", "\x00\x00"} {
		if value, is := x.Get(key); value != "" || is {
			t.Error(key, value)
		}
		if value, is := x.Drop(key); value != "" || is || x.Len() != 6 {
			t.Error(key, value)
		}
	}
	if old, was := x.Drop("a"); old != "a2" || !was || x.Len() != 5 {
		t.Error(old, was)
	}
	if value, is := x.Get("a"); value != "" || is {
		t.Error(value)
	}
}

func TestP13_3(t *testing.T) {
	x := fresh(t, 2)
	if _, is := x.Last(); is {
		t.Error("a last pair of none")
	}
	var keys []string
	for i := range 60 {
		keys = append(keys, string([]byte{byte('a' + i/10), byte('a' + i%10*2)}))
		x.Put(keys[i], "v"+keys[i])
	}
	probes := append([]string{"", "\xff", "ab", "cd", "fsa", "a"}, keys...)
	for _, key := range probes {
		for _, same := range []bool{false, true} {
			up := sort.Search(len(keys), func(i int) bool { return keys[i] > key || same && keys[i] == key })
			down := sort.Search(len(keys), func(i int) bool { return keys[i] > key || !same && keys[i] == key }) - 1
			check(t, keys, up)(x.After(key, same))
			check(t, keys, down)(x.Before(key, same))
		}
	}
	check(t, keys, 59)(x.Last())
}

// check returns what checks that a pair is the one with the key at a place.
func check(t *testing.T, keys []string, at int) func(api.Pair, bool) {
	return func(p api.Pair, is bool) {
		t.Helper()
		want := api.Pair{}
		if at >= 0 && at < len(keys) {
			want = api.Pair{Key: keys[at], Value: "v" + keys[at]}
		}
		if p != want || is != (want != api.Pair{}) {
			t.Errorf("%v %v, wanted %v", p, is, want)
		}
	}
}

func TestP13_4(t *testing.T) {
	x := fresh(t, 2)
	x.Put("a", "1")
	x.Put("b", "2")
	x.Put("c", "3")
	l := x.Nodes()
	if len(l) != 1 || !slices.Equal(l[0].Keys, []string{"a", "b", "c"}) || l[0].Kids != 0 || x.Height() != 1 || x.Cells() != 1 {
		t.Error(l)
	}
	l[0].Keys[0] = "changed"
	x.Put("d", "4")
	if x.Height() != 2 || x.Cells() != 3 || x.Len() != 4 || x.Nodes()[0].Kids != 2 || len(x.Nodes()) != 3 {
		t.Error(x.Nodes())
	}
	if old, was := x.Put("a", "9"); old != "1" || !was {
		t.Error(old, was)
	}
	for _, key := range []string{"a", "b", "c", "d"} {
		x.Drop(key)
	}
	if l := x.Nodes(); len(l) != 1 || len(l[0].Keys) != 0 || l[0].Kids != 0 || x.Cells() != 3 || x.Len() != 0 {
		t.Error(l, x.Cells())
	}
}

func TestP13_4Nil(t *testing.T) {
	for _, x := range []*Tree{nil, {}} {
		_, put := x.Put("a", "b")
		_, drop := x.Drop("a")
		_, get := x.Get("a")
		after, isAfter := x.After("", true)
		before, isBefore := x.Before("a", true)
		last, isLast := x.Last()
		if put || drop || get || isAfter || isBefore || isLast || after != before || last != (api.Pair{}) {
			t.Error("something of nothing")
		}
		if x.Len() != 0 || x.Height() != 0 || len(x.Nodes()) != 0 || x.Cells() != 0 || x.Copy() != nil {
			t.Error("something of nothing")
		}
	}
}

func TestP13_5(t *testing.T) {
	x := fresh(t, 2)
	for i := range 50 {
		x.Put(strconv.Itoa(i), "x")
	}
	for i := range 20 {
		x.Drop(strconv.Itoa(i * 2))
	}
	c := x.Copy()
	cells := c.Cells()
	for i := range 50 {
		x.Put(strconv.Itoa(i), "y")
		x.Drop(strconv.Itoa(i + 1))
	}
	if c.Len() != 30 || c.Cells() != cells {
		t.Error(c.Len())
	}
	for i := range 50 {
		value, is := c.Get(strconv.Itoa(i))
		if want := i%2 == 1 || i >= 40; is != want || is && value != "x" {
			t.Error(i, value, is)
		}
	}
	valid(t, c)
	c.Put("0", "z")
	if value, _ := x.Get("0"); value == "z" {
		t.Error("a change of the copy is seen")
	}
}

// valid checks the shape of a tree: level by level, each node has its part of the
// next level's nodes.
func valid(t *testing.T, x *Tree) {
	t.Helper()
	l := x.Nodes()
	level := l[:1]
	rest := l[1:]
	height := 1
	for level[0].Kids > 0 {
		many := 0
		for _, n := range level {
			if n.Kids != len(n.Keys)+1 {
				t.Fatal("not one kid more than keys", l)
			}
			many += n.Kids
		}
		if many > len(rest) {
			t.Fatal("kids are missing", l)
		}
		checkBelow(t, level, rest[:many])
		level, rest = rest[:many], rest[many:]
		height++
	}
	for i, n := range l {
		if len(n.Keys) > 2*x.degree-1 || i > 0 && len(n.Keys) < x.degree-1 || !slices.IsSorted(n.Keys) {
			t.Fatal(x.degree, n)
		}
	}
	for _, n := range level {
		if n.Kids != 0 {
			t.Fatal("leaves at two depths", l)
		}
	}
	if len(rest) > 0 || height != x.Height() || len(l[0].Keys) == 0 && x.Len() > 0 {
		t.Fatal(l, height)
	}
}

// checkBelow checks that kids are between the keys of the nodes above them.
func checkBelow(t *testing.T, level, kids []api.Node) {
	t.Helper()
	for _, n := range level {
		for i, k := range kids[:n.Kids] {
			if i > 0 && k.Keys[0] <= n.Keys[i-1] || i < len(n.Keys) && k.Keys[len(k.Keys)-1] >= n.Keys[i] {
				t.Fatal(n, k)
			}
		}
		kids = kids[n.Kids:]
	}
}

func TestP13_6and7(t *testing.T) {
	r := rand.New(rand.NewSource(21))
	for _, degree := range []int{2, 2, 3, 4, 7, 64} {
		x := fresh(t, degree)
		model := map[string]string{}
		most := 1
		for step := range 6000 {
			key := strconv.Itoa(r.Intn(400))
			before := x.Nodes()
			value, is := model[key]
			if r.Intn(2000) < step%2000 { // it grows, and shrinks, again and again
				if old, was := x.Drop(key); old != value || was != is {
					t.Fatal(key, old, was)
				}
				delete(model, key)
				is = !is
			} else {
				v := strconv.Itoa(step)
				if old, was := x.Put(key, v); old != value || was != is {
					t.Fatal(key, old, was)
				}
				model[key] = v
			}
			if is && !slices.EqualFunc(before, x.Nodes(), func(a, b api.Node) bool { return a.Kids == b.Kids && slices.Equal(a.Keys, b.Keys) }) {
				t.Fatal("nodes are changed")
			}
			valid(t, x)
			most = max(most, len(x.Nodes()))
			least := 1
			for range x.Height() - 1 {
				least *= degree
			}
			if x.Len() != len(model) || x.Cells() > most || x.Height() > 1 && x.Len() < 2*least-1 {
				t.Fatal(x.Len(), len(model), x.Cells(), most)
			}
		}
		for _, key := range slices.Sorted(maps.Keys(model)) {
			if value, is := x.Get(key); value != model[key] || !is {
				t.Fatal(key, value)
			}
		}
	}
}
