package arith

import (
	"math/big"
	"math/rand"
	"testing"
)

const (
	least = -1 << 63
	most  = 1<<63 - 1
)

// numbers are edges, and some others of all sizes.
func numbers() []int64 {
	l := []int64{least, least + 1, -1 << 62, -1<<32 - 1, -1 << 32, -7, -3, -2, -1, 0, 1, 2, 3, 7, 10, 1<<31 + 5, 1 << 32, 1<<32 + 1, 3037000499, 3037000500, 1 << 62, most - 1, most}
	r := rand.New(rand.NewSource(9))
	for range 12 {
		l = append(l, int64(r.Uint64())>>r.Intn(64))
	}
	return l
}

func big64(n int64) *big.Int { return big.NewInt(n) }

// same checks a result against an exact one.
func same(t *testing.T, what string, have int64, is bool, want *big.Int) {
	t.Helper()
	if is != want.IsInt64() || is && have != want.Int64() || !is && have != 0 {
		t.Fatalf("%s: %d %v, wanted %v", what, have, is, want)
	}
}

func TestP7_1(t *testing.T) {
	for _, a := range numbers() {
		n, is := Neg(a)
		same(t, "Neg", n, is, new(big.Int).Neg(big64(a)))
		for _, b := range numbers() {
			n, is := Add(a, b)
			same(t, "Add", n, is, new(big.Int).Add(big64(a), big64(b)))
			n, is = Sub(a, b)
			same(t, "Sub", n, is, new(big.Int).Sub(big64(a), big64(b)))
			n, is = Mul(a, b)
			same(t, "Mul", n, is, new(big.Int).Mul(big64(a), big64(b)))
		}
	}
}

func TestP7_2(t *testing.T) {
	r := rand.New(rand.NewSource(10))
	l := numbers()
	for range 3000 {
		var some []int64
		want := new(big.Int)
		for range r.Intn(8) {
			n := l[r.Intn(len(l))]
			some = append(some, n)
			want.Add(want, big64(n))
		}
		n, is := Sum(some...)
		same(t, "Sum", n, is, want)
	}
	for _, x := range []struct {
		l    []int64
		want int64
		is   bool
	}{{nil, 0, true}, {[]int64{most, 1, -5}, most - 4, true}, {[]int64{least, least, most, most, 2}, 0, true}, {[]int64{most, 1}, 0, false}, {[]int64{least, -1}, 0, false}} {
		if n, is := Sum(x.l...); n != x.want || is != x.is {
			t.Error(x, n, is)
		}
	}
}

func TestP7_3(t *testing.T) {
	for _, a := range numbers() {
		for _, b := range numbers() {
			m := new(big.Int).Mul(big64(a), big64(b))
			for _, c := range numbers() {
				q, r, is := MulDiv(a, b, c)
				near, isNear := Near(a, b, c)
				if c <= 0 {
					if q != 0 || r != 0 || is || near != 0 || isNear {
						t.Fatal(a, b, c, q, r, near)
					}
					continue
				}
				want, rest := new(big.Int).DivMod(m, big64(c), new(big.Int))
				same(t, "MulDiv", q, is, want)
				if is && r != rest.Int64() || !is && r != 0 {
					t.Fatal(a, b, c, r, rest)
				}
				twice := new(big.Int).Add(new(big.Int).Lsh(m, 1), big64(c))
				want.Div(twice, new(big.Int).Lsh(big64(c), 1))
				same(t, "Near", near, isNear, want)
			}
		}
	}
}

func TestP7_3Examples(t *testing.T) {
	for _, x := range [][5]int64{{7, 3, 2, 10, 1}, {-7, 3, 2, -11, 1}, {1 << 62, 6, 12, 1 << 61, 0}, {7, -3, 2, -11, 1}, {-7, -3, 2, 10, 1}} {
		if q, r, is := MulDiv(x[0], x[1], x[2]); q != x[3] || r != x[4] || !is {
			t.Error(x, q, r, is)
		}
	}
	for _, x := range []struct {
		a, b, c, want int64
		is            bool
	}{{1, 1, 2, 1, true}, {-1, 1, 2, 0, true}, {-3, 1, 2, -1, true}, {3, 1, 2, 2, true},
		{-1 << 62, 6, 3, least, true}, {most, 2, 2, most, true}, {most, 3, 2, 0, false}} {
		if n, is := Near(x.a, x.b, x.c); n != x.want || is != x.is {
			t.Error(x, n, is)
		}
	}
	// -(2^64 + 1) / 2 is between -2^63 - 1, which does not fit, and -2^63.
	if n, is := Near(-274177, 67280421310721, 2); n != least || !is {
		t.Error(n, is)
	}
	if _, _, is := MulDiv(-274177, 67280421310721, 2); is {
		t.Error("a quotient that does not fit")
	}
}

func TestP7_4(t *testing.T) {
	r := rand.New(rand.NewSource(11))
	l := numbers()
	for range 3000 {
		a, b, c := l[r.Intn(len(l))], l[r.Intn(len(l))], l[r.Intn(len(l))]
		n, is := Sum(a, b, c)
		if m, not := Sum(c, a, b); m != n || not != is {
			t.Fatal(a, b, c)
		}
		n, is = Mul(a, b)
		if m, not := Mul(b, a); m != n || not != is {
			t.Fatal(a, b)
		}
		if n, is := Add(a, b); is {
			if m, is := Sub(n, b); m != a || !is {
				t.Fatal(a, b)
			}
			x, isX := Mul(n, c)
			y, isY := Mul(a, c)
			z, isZ := Mul(b, c)
			if sum, is := Add(y, z); isX && isY && isZ && (sum != x || !is) {
				t.Fatal(a, b, c)
			}
		}
	}
}

func TestP7_5(t *testing.T) {
	r := rand.New(rand.NewSource(12))
	for range 3000 {
		a, b, c := int64(r.Uint64()), r.Int63()>>r.Intn(63), r.Int63()>>r.Intn(63)+1
		if c < 1 {
			continue
		}
		if q, rest, is := MulDiv(a, c, c); q != a || rest != 0 || !is {
			t.Fatal(a, c, q, rest, is)
		}
		parts := []int64{r.Int63() >> 3, r.Int63() >> r.Intn(63) >> 3, r.Int63() >> 3}
		whole, _ := Sum(parts...)
		q, _, is := MulDiv(whole, b, c)
		if !is {
			continue
		}
		sum := int64(0)
		for _, p := range parts {
			n, _, is := MulDiv(p, b, c)
			if !is || n > q {
				t.Fatal(p, whole, b, c)
			}
			sum += n
		}
		if sum > q || q-sum >= int64(len(parts)) {
			t.Fatal(parts, b, c, sum, q)
		}
	}
}
