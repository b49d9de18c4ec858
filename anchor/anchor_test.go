package anchor

import (
	"math/rand"
	"testing"

	"quittance/api"
	"quittance/civil"
)

func date(t *testing.T, y, m, d int) int {
	t.Helper()
	day, e := civil.Day(y, m, d)
	if e != api.OK {
		t.Fatal(y, m, d)
	}
	return day
}

func cycle(start, anchor, every int) api.Cycle {
	return api.Cycle{Start: start, Anchor: anchor, Every: every}
}

func TestP9_1(t *testing.T) {
	for _, x := range [][4]int{{2024, 1, 31, 31}, {2024, 2, 31, 29}, {2023, 2, 31, 28}, {2023, 2, 28, 28}, {2024, 4, 31, 30}, {2024, 4, 1, 1}, {9999, 12, 31, 31}} {
		month, _ := civil.Month(x[0], x[1])
		if day, e := At(month, x[2]); day != date(t, x[0], x[1], x[3]) || e != api.OK {
			t.Error(x, day, e)
		}
	}
	for _, x := range [][2]int{{0, 1}, {api.MaxMonth + 1, 1}, {1, 0}, {1, 32}, {-1 << 63, 1}, {1, 1<<63 - 1}} {
		if day, e := At(x[0], x[1]); day != 0 || e != api.ErrArg {
			t.Error(x, day, e)
		}
	}
	for _, c := range []api.Cycle{cycle(1, 1, 1), cycle(api.MaxDay, 31, api.MaxEvery)} {
		if Check(c) != api.OK {
			t.Error(c)
		}
	}
	for _, c := range []api.Cycle{{}, cycle(0, 1, 1), cycle(api.MaxDay+1, 1, 1), cycle(1, 0, 1), cycle(1, 32, 1), cycle(1, 1, 0), cycle(1, 1, api.MaxEvery+1), cycle(-5, -5, -5)} {
		if Check(c) != api.ErrArg {
			t.Error(c)
		}
		if day, e := Bound(c, 0); day != 0 || e != api.ErrArg {
			t.Error(c, day, e)
		}
		if k, from, next, e := Find(c, 10); k != 0 || from != 0 || next != 0 || e != api.ErrArg {
			t.Error(c, e)
		}
	}
}

func TestP9_2(t *testing.T) {
	end := date(t, 2024, 1, 31)
	c := cycle(end, 31, 1)
	for _, x := range []struct {
		c    api.Cycle
		k    int
		want int
	}{
		{c, 0, end}, {c, 1, date(t, 2024, 2, 29)}, {c, 2, date(t, 2024, 3, 31)}, {c, 3, date(t, 2024, 4, 30)},
		{cycle(date(t, 2024, 1, 10), 15, 3), 1, date(t, 2024, 1, 15)},
		{cycle(date(t, 2024, 1, 10), 15, 3), 2, date(t, 2024, 4, 15)},
		{cycle(date(t, 2024, 1, 15), 15, 3), 1, date(t, 2024, 4, 15)},
		{cycle(date(t, 2023, 2, 28), 31, 12), 1, date(t, 2024, 2, 29)},
		{cycle(1, 1, 1), api.MaxMonth - 1, date(t, 9999, 12, 1)},
		{cycle(api.MaxDay, 31, 1), 0, api.MaxDay},
		{cycle(api.MaxDay-1, 31, 120), 1, api.MaxDay},
	} {
		if day, e := Bound(x.c, x.k); day != x.want || e != api.OK {
			t.Error(x, day, e)
		}
	}
	for _, k := range []int{-1, -1 << 63} {
		if day, e := Bound(c, k); day != 0 || e != api.ErrArg {
			t.Error(k, day, e)
		}
	}
	for _, k := range []int{api.MaxMonth, 1 << 57, 1<<63 - 1} {
		if day, e := Bound(cycle(1, 1, api.MaxEvery), k); day != 0 || e != api.ErrNone {
			t.Error(k, day, e)
		}
	}
	if day, e := Bound(cycle(api.MaxDay, 31, 1), 1); day != 0 || e != api.ErrNone {
		t.Error(day, e)
	}
}

func TestP9_3(t *testing.T) {
	c := cycle(date(t, 2024, 1, 31), 31, 1)
	for _, x := range [][4]int{
		{date(t, 2024, 1, 31), 0, c.Start, date(t, 2024, 2, 29)},
		{date(t, 2024, 2, 28), 0, c.Start, date(t, 2024, 2, 29)},
		{date(t, 2024, 2, 29), 1, date(t, 2024, 2, 29), date(t, 2024, 3, 31)},
		{date(t, 2024, 3, 30), 1, date(t, 2024, 2, 29), date(t, 2024, 3, 31)},
	} {
		if k, from, next, e := Find(c, x[0]); k != x[1] || from != x[2] || next != x[3] || e != api.OK {
			t.Error(x, k, from, next, e)
		}
	}
	for _, x := range []struct {
		day int
		e   api.Errno
	}{{0, api.ErrArg}, {api.MaxDay + 1, api.ErrArg}, {-1 << 63, api.ErrArg}, {1, api.ErrNone}, {c.Start - 1, api.ErrNone}, {api.MaxDay, api.ErrNone}} {
		if k, from, next, e := Find(c, x.day); k != 0 || from != 0 || next != 0 || e != x.e {
			t.Error(x, k, from, next, e)
		}
	}
	if k, from, next, e := Find(c, api.MaxDay-1); k != 95710 || from != date(t, 9999, 11, 30) || next != api.MaxDay || e != api.OK {
		t.Error(k, from, next, e)
	}
}

// cycles are some of all kinds.
func cycles(n int) []api.Cycle {
	r := rand.New(rand.NewSource(13))
	var l []api.Cycle
	for range n {
		l = append(l, api.Cycle{Start: 1 + r.Intn(api.MaxDay), Anchor: 1 + r.Intn(31), Every: 1 + r.Intn(1+r.Intn(api.MaxEvery))})
	}
	return l
}

func TestP9_4(t *testing.T) {
	for _, c := range cycles(300) {
		last, e := Bound(c, 0)
		lastMonth, _ := civil.Of(c.Start)
		for k := 1; k < 60; k++ {
			var day int
			if day, e = Bound(c, k); e != api.OK {
				break
			}
			month, _ := civil.Of(day)
			if at, _ := At(month, c.Anchor); at != day || day <= last || day-last > 31*c.Every {
				t.Fatal(c, k, day, last)
			}
			if k > 1 && month != lastMonth+c.Every || k == 1 && month != lastMonth && month != lastMonth+c.Every {
				t.Fatal(c, k, month, lastMonth)
			}
			last, lastMonth = day, month
		}
		if e == api.ErrNone && lastMonth+c.Every <= api.MaxMonth {
			t.Fatal(c, lastMonth)
		}
	}
}

func TestP9_5(t *testing.T) {
	r := rand.New(rand.NewSource(14))
	for _, c := range cycles(300) {
		for _, k := range []int{0, 1, 2, r.Intn(100), r.Intn(50000)} {
			from, e := Bound(c, k)
			next, e2 := Bound(c, k+1)
			if e != api.OK || e2 != api.OK {
				continue
			}
			for _, day := range []int{from, next - 1, from + r.Intn(next-from)} {
				if i, a, b, e := Find(c, day); i != k || a != from || b != next || e != api.OK {
					t.Fatal(c, day, i, k, e)
				}
			}
		}
	}
}
