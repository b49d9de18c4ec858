package split

import (
	"math/big"
	"math/rand"
	"slices"
	"testing"

	"quittance/api"
)

func refused(t *testing.T, l []int64, e api.Errno) {
	t.Helper()
	if len(l) != 0 || e != api.ErrArg {
		t.Error(l, e)
	}
}

func TestP10_1(t *testing.T) {
	for _, x := range []struct {
		total         int64
		weights, want []int64
	}{
		{100, []int64{1, 1, 1}, []int64{34, 33, 33}}, {5, []int64{3, 3, 1}, []int64{2, 2, 1}}, {0, []int64{0, 2}, []int64{0, 0}},
		{10, []int64{0, 1, 0, 1}, []int64{0, 5, 0, 5}}, {1, []int64{1, 1}, []int64{1, 0}}, {1000, []int64{31, 29, 31}, []int64{341, 319, 340}},
		{5, []int64{1}, []int64{5}}, {limit - 1, []int64{limit - 1}, []int64{limit - 1}}, {limit - 1, []int64{1, limit - 2}, []int64{1, limit - 2}},
	} {
		before := slices.Clone(x.weights)
		if l, e := Split(x.total, x.weights); !slices.Equal(l, x.want) || e != api.OK {
			t.Error(x, l, e)
		}
		if !slices.Equal(before, x.weights) {
			t.Error("the weights are changed")
		}
	}
	for _, weights := range [][]int64{nil, {}, {0}, {0, 0}, {1, -1}, {-1}, {limit}, {limit - 1, 1}, {1 << 62, 1 << 62, 1 << 62}, make([]int64, 4097), append(make([]int64, 4096), 1)} {
		l, e := Split(1, weights)
		refused(t, l, e)
	}
	for _, total := range []int64{-1, limit, -1 << 63, 1<<63 - 1} {
		l, e := Split(total, []int64{1})
		refused(t, l, e)
	}
}

func TestP10_2(t *testing.T) {
	if l, e := Even(7, 3); !slices.Equal(l, []int64{3, 2, 2}) || e != api.OK {
		t.Error(l, e)
	}
	if l, e := Even(7, 1); !slices.Equal(l, []int64{7}) || e != api.OK {
		t.Error(l, e)
	}
	if l, e := Even(4099, 4096); len(l) != 4096 || l[2] != 2 || l[3] != 1 || e != api.OK {
		t.Error(e)
	}
	for _, n := range []int{0, -1, 4097, -1 << 63, 1<<63 - 1} {
		l, e := Even(7, n)
		refused(t, l, e)
	}
	l, e := Even(-1, 1)
	refused(t, l, e)
	l, e = Even(limit, 1)
	refused(t, l, e)
}

// cases are totals and weights of all sizes.
func cases(do func(total int64, weights []int64)) {
	r := rand.New(rand.NewSource(15))
	for range 500 {
		var weights []int64
		var sum int64
		for range 1 + r.Intn(20) {
			w := r.Int63n(1<<r.Intn(57) + 1)
			if r.Intn(5) == 0 && len(weights) > 0 {
				w = weights[r.Intn(len(weights))]
			}
			weights = append(weights, w)
			sum += w
		}
		if sum > 0 {
			do(r.Int63n(limit)>>r.Intn(62), weights)
		}
	}
}

func TestP10_3(t *testing.T) {
	cases(func(total int64, weights []int64) {
		l, e := Split(total, weights)
		if e != api.OK || len(l) != len(weights) {
			t.Fatal(total, weights, e)
		}
		var sum, all int64
		for i := range l {
			sum += l[i]
			all += weights[i]
		}
		if sum != total {
			t.Fatal(total, weights, l)
		}
		var rests []*big.Int
		var extra []bool
		for i, w := range weights {
			q, r := new(big.Int).DivMod(new(big.Int).Mul(big.NewInt(total), big.NewInt(w)), big.NewInt(all), new(big.Int))
			up := l[i] - q.Int64()
			if up != 0 && up != 1 || up == 1 && r.Sign() == 0 {
				t.Fatal(total, weights, l)
			}
			rests, extra = append(rests, r), append(extra, up == 1)
		}
		for i := range l {
			for k := range l {
				if c := rests[i].Cmp(rests[k]); extra[i] && !extra[k] && (c < 0 || c == 0 && i > k) {
					t.Fatal(total, weights, l, i, k)
				}
			}
		}
	})
}

func TestP10_4(t *testing.T) {
	cases(func(total int64, weights []int64) {
		l, _ := Split(total, weights)
		var twice []int64
		for i := range l {
			twice = append(twice, 2*weights[i])
			if weights[i] == 0 && l[i] != 0 {
				t.Fatal(total, weights, l)
			}
			for k := range l {
				if (weights[i] > weights[k] || weights[i] == weights[k] && i < k) && l[i] < l[k] {
					t.Fatal(total, weights, l, i, k)
				}
			}
		}
		if again, e := Split(total, twice); e == api.OK && !slices.Equal(again, l) {
			t.Fatal(total, weights)
		}
	})
}
