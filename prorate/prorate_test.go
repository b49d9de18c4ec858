package prorate

import (
	"math/big"
	"math/rand"
	"slices"
	"testing"

	"quittance/api"
	"quittance/civil"
)

// far are numbers of days that none of the calls takes.
var far = []int{-1 << 63, -1, api.MaxDay + 2, 1<<63 - 1}

func TestP11_1(t *testing.T) {
	for _, x := range []struct {
		amount    int64
		days, all int
		want      int64
	}{{1000, 10, 30, 333}, {1000, 0, 30, 0}, {1000, 30, 30, 1000}, {limit - 1, api.MaxDay - 1, api.MaxDay, 4611684755695652848}, {0, 1, 1, 0}} {
		want := new(big.Int).Mul(big.NewInt(x.amount), big.NewInt(int64(x.days)))
		want.Div(want, big.NewInt(int64(x.all)))
		if n, e := Due(x.amount, x.days, x.all); n != want.Int64() || e != api.OK {
			t.Error(x, n, e, want)
		}
	}
	for _, x := range [][5]int64{{1000, 10, 20, 30, 333}, {1000, 20, 30, 30, 334}, {1000, 5, 5, 30, 0}, {1000, 0, 30, 30, 1000}} {
		if n, e := On(x[0], int(x[1]), int(x[2]), int(x[3])); n != x[4] || e != api.OK {
			t.Error(x, n, e)
		}
	}
}

func TestP11_1Refused(t *testing.T) {
	for _, amount := range []int64{-1, limit, -1 << 63, 1<<63 - 1} {
		if n, e := Due(amount, 1, 1); n != 0 || e != api.ErrArg {
			t.Error(amount, n, e)
		}
		if n, e := On(amount, 0, 1, 1); n != 0 || e != api.ErrArg {
			t.Error(amount, n, e)
		}
	}
	for _, x := range [][2]int{{2, 1}, {-1, 1}, {0, 0}, {0, api.MaxDay + 1}, {0, -1}} {
		if n, e := Due(1, x[0], x[1]); n != 0 || e != api.ErrArg {
			t.Error(x, n, e)
		}
	}
	for _, n := range far {
		for _, x := range [][3]int{{n, 5, 10}, {5, n, 10}, {1, 2, n}, {3, 2, 10}, {2, 11, 10}, {n, n, n}} {
			if got, e := On(1, x[0], x[1], x[2]); got != 0 || e != api.ErrArg {
				t.Error(x, got, e)
			}
		}
	}
}

func TestP11_2(t *testing.T) {
	if credit, charge, e := Change(1000, 2000, 10, 30); credit != 667 || charge != 1334 || e != api.OK {
		t.Error(credit, charge, e)
	}
	for _, x := range []struct {
		was, now int64
		days, of int
	}{{-1, 1, 0, 1}, {1, -1, 0, 1}, {limit, 1, 0, 1}, {1, limit, 0, 1}, {1, 1, -1, 1}, {1, 1, 2, 1}, {1, 1, 0, 0}, {1, 1, 0, api.MaxDay + 1}} {
		if credit, charge, e := Change(x.was, x.now, x.days, x.of); credit != 0 || charge != 0 || e != api.ErrArg {
			t.Error(x, credit, charge, e)
		}
	}
}

func day(y, m, d int) int {
	n, _ := civil.Day(y, m, d)
	return n
}

func month(y, m int) int {
	n, _ := civil.Month(y, m)
	return n
}

func TestP11_3(t *testing.T) {
	for _, x := range []struct {
		from, next int
		want       []api.Share
	}{
		{day(2024, 1, 20), day(2024, 3, 5), []api.Share{{Month: month(2024, 1), Days: 12}, {Month: month(2024, 2), Days: 29}, {Month: month(2024, 3), Days: 4}}},
		{day(2024, 1, 1), day(2024, 2, 1), []api.Share{{Month: month(2024, 1), Days: 31}}},
		{day(2023, 12, 31), day(2024, 1, 2), []api.Share{{Month: month(2023, 12), Days: 1}, {Month: month(2024, 1), Days: 1}}},
		{api.MaxDay, api.MaxDay + 1, []api.Share{{Month: api.MaxMonth, Days: 1}}},
	} {
		if l, e := Months(x.from, x.next); !slices.Equal(l, x.want) || e != api.OK {
			t.Error(x, l, e)
		}
	}
	if l, e := Months(1, api.MaxDay+1); len(l) != api.MaxMonth || e != api.OK {
		t.Error(len(l), e)
	}
	for _, x := range [][2]int{{5, 5}, {5, 4}, {0, 5}, {api.MaxDay + 1, api.MaxDay + 2}, {api.MaxDay + 1, api.MaxDay + 1}} {
		if l, e := Months(x[0], x[1]); len(l) != 0 || e != api.ErrArg {
			t.Error(x, l, e)
		}
	}
	for _, n := range far {
		for _, x := range [][2]int{{n, 5}, {5, n}, {n, n}} {
			if l, e := Months(x[0], x[1]); len(l) != 0 || e != api.ErrArg {
				t.Error(x, l, e)
			}
		}
	}
}

func TestP11_4(t *testing.T) {
	r := rand.New(rand.NewSource(16))
	for range 2000 {
		amount, all := r.Int63n(limit)>>r.Intn(62), 1+r.Intn(1+r.Intn(api.MaxDay))
		from := r.Intn(all + 1)
		next := from + r.Intn(all-from+1)
		at := from + r.Intn(next-from+1)
		whole, e := On(amount, from, next, all)
		a, e1 := On(amount, from, at, all)
		b, e2 := On(amount, at, next, all)
		if e != api.OK || e1 != api.OK || e2 != api.OK || a+b != whole {
			t.Fatal(amount, from, at, next, all)
		}
		if n, e := On(amount, 0, all, all); n != amount || e != api.OK {
			t.Fatal(amount, all, n)
		}
		one := r.Intn(all)
		if n, e := On(amount, one, one+1, all); n != amount/int64(all) && n != amount/int64(all)+1 || e != api.OK {
			t.Fatal(amount, one, all, n)
		}
	}
}

func TestP11_5(t *testing.T) {
	r := rand.New(rand.NewSource(17))
	for range 2000 {
		was, now, all := r.Int63n(limit)>>r.Intn(62), r.Int63n(limit)>>r.Intn(62), 1+r.Intn(400)
		days := r.Intn(all + 1)
		credit, charge, e := Change(was, was, days, all)
		if credit != charge || credit > was || e != api.OK {
			t.Fatal(was, days, all, credit, charge)
		}
		if credit, charge, e := Change(was, now, 0, all); credit != was || charge != now || e != api.OK {
			t.Fatal(was, now, all, credit, charge)
		}
		if credit, charge, e := Change(was, now, all, all); credit != 0 || charge != 0 || e != api.OK {
			t.Fatal(was, now, all, credit, charge)
		}
		passed, _ := Due(was, days, all)
		if credit, _, _ := Change(was, now, days, all); credit+passed != was {
			t.Fatal(was, now, days, all)
		}
	}
}

func TestP11_6(t *testing.T) {
	r := rand.New(rand.NewSource(18))
	for range 500 {
		from := 1 + r.Intn(api.MaxDay-3000)
		next := from + 2 + r.Intn(3000)
		l, e := Months(from, next)
		if e != api.OK {
			t.Fatal(from, next, e)
		}
		sum := 0
		for i, x := range l {
			first, last, _ := civil.Days(x.Month)
			if i > 0 && x.Month != l[i-1].Month+1 || i > 0 && i < len(l)-1 && x.Days != last-first+1 {
				t.Fatal(from, next, l)
			}
			sum += x.Days
		}
		if sum != next-from {
			t.Fatal(from, next, l)
		}
		at := from + 1 + r.Intn(next-from-1)
		a, _ := Months(from, at)
		b, _ := Months(at, next)
		if a[len(a)-1].Month == b[0].Month {
			b[0].Days += a[len(a)-1].Days
			a = a[:len(a)-1]
		}
		if !slices.Equal(append(a, b...), l) {
			t.Fatal(from, at, next)
		}
	}
}
