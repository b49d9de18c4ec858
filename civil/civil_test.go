package civil

import (
	"testing"
	"time"

	"quittance/api"
)

// far are numbers that are no years, months or days.
var far = []int{-1 << 63, -400, -4, -1, 0, 1 << 40, 1<<63 - 1}

func TestP8_1(t *testing.T) {
	for _, x := range []struct {
		y    int
		leap bool
	}{{1900, false}, {2000, true}, {2024, true}, {2023, false}, {4, true}, {100, false}, {400, true}, {9996, true}, {10000, false}, {0, false}, {-4, false}, {-400, false}, {1 << 62, false}} {
		if Leap(x.y) != x.leap {
			t.Error(x.y)
		}
	}
	for _, x := range [][4]int{{1, 1, 1, 1}, {1970, 1, 1, 719163}, {9999, 12, 31, api.MaxDay}, {2024, 2, 29, 738945}} {
		if day, e := Day(x[0], x[1], x[2]); day != x[3] || e != api.OK {
			t.Error(x, day, e)
		}
		if y, m, d, e := Date(x[3]); y != x[0] || m != x[1] || d != x[2] || e != api.OK {
			t.Error(x, y, m, d, e)
		}
	}
	for _, x := range [][3]int{{2023, 2, 29}, {1900, 2, 29}, {2024, 2, 30}, {2024, 4, 31}, {2024, 1, 32}, {2024, 13, 1}, {10000, 1, 1}} {
		if day, e := Day(x[0], x[1], x[2]); day != 0 || e != api.ErrArg {
			t.Error(x, day, e)
		}
	}
	for _, n := range far {
		for _, x := range [][3]int{{n, 1, 1}, {2024, n, 1}, {2024, 1, n}} {
			if day, e := Day(x[0], x[1], x[2]); day != 0 || e != api.ErrArg {
				t.Error(x, day, e)
			}
		}
	}
	for _, n := range append(far, api.MaxDay+1) {
		if y, m, d, e := Date(n); y != 0 || m != 0 || d != 0 || e != api.ErrArg {
			t.Error(n, y, m, d, e)
		}
	}
}

func TestP8_2(t *testing.T) {
	for _, x := range [][3]int{{1, 1, 1}, {1970, 1, 23629}, {9999, 12, api.MaxMonth}} {
		if n, e := Month(x[0], x[1]); n != x[2] || e != api.OK {
			t.Error(x, n, e)
		}
	}
	if first, last, e := Days(23629); first != 719163 || last != 719193 || e != api.OK {
		t.Error(first, last, e)
	}
	if n, e := Of(719163); n != 23629 || e != api.OK {
		t.Error(n, e)
	}
	for _, n := range append(far, api.MaxDay+1) {
		if m, e := Of(n); m != 0 || e != api.ErrArg {
			t.Error(n, m, e)
		}
	}
	for _, n := range append(far, api.MaxMonth+1) {
		if first, last, e := Days(n); first != 0 || last != 0 || e != api.ErrArg {
			t.Error(n, first, last, e)
		}
	}
	for _, n := range append(far, 13) {
		if m, e := Month(2024, n); m != 0 || e != api.ErrArg {
			t.Error(n, m, e)
		}
	}
	for _, n := range append(far, 10000) {
		if m, e := Month(n, 1); m != 0 || e != api.ErrArg {
			t.Error(n, m, e)
		}
	}
}

// TestP8_3 goes through all days there are, beside another calendar.
func TestP8_3(t *testing.T) {
	at := time.Date(1, 1, 1, 0, 0, 0, 0, time.UTC)
	for day := 1; day <= api.MaxDay; day++ {
		y, m, d, e := Date(day)
		if y != at.Year() || m != int(at.Month()) || d != at.Day() || e != api.OK {
			t.Fatal(day, y, m, d, e, at)
		}
		if back, e := Day(y, m, d); back != day || e != api.OK {
			t.Fatal(day, back, e)
		}
		at = at.AddDate(0, 0, 1)
	}
}

func TestP8_4(t *testing.T) {
	for day := 1; day+146097 <= api.MaxDay; day += 97 {
		y, m, d, _ := Date(day)
		if y2, m2, d2, e := Date(day + 146097); y2 != y+400 || m2 != m || d2 != d || e != api.OK {
			t.Fatal(day, y2, m2, d2)
		}
	}
	end := 0
	for month := 1; month <= api.MaxMonth; month++ {
		first, last, e := Days(month)
		if first != end+1 || last < first+27 || e != api.OK {
			t.Fatal(month, first, last, e)
		}
		for _, day := range []int{first, last} {
			if m, e := Of(day); m != month || e != api.OK {
				t.Fatal(day, m, month)
			}
		}
		end = last
	}
	if end != api.MaxDay {
		t.Error(end)
	}
}
