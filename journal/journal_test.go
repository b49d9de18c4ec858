package journal

import (
	"math/rand"
	"reflect"
	"slices"
	"strings"
	"testing"

	"quittance/api"
	"quittance/chart"
	"quittance/tally"
)

func line(account int, amount int64) api.Line { return api.Line{Account: account, Amount: amount} }

func of(account int, customer, contract uint64, amount int64) api.Line {
	return api.Line{Account: account, Customer: customer, Contract: contract, Amount: amount}
}

func entry(l ...api.Line) api.Entry { return api.Entry{Day: 1, Kind: 1, Lines: l} }

// plain is that of the examples.
func plain() api.Entry { return entry(line(1100, 5), line(1200, -5)) }

func with(change func(*api.Entry)) api.Entry {
	e := plain()
	change(&e)
	return e
}

func standard() *chart.Chart {
	c := chart.New()
	for _, a := range chart.Standard() {
		c.Add(a)
	}
	return c
}

// lines returns many lines whose amounts sum to 0.
func lines(many int, amount int64) []api.Line {
	var l []api.Line
	for i := range many {
		l = append(l, line(1+i, amount*int64(1-i%2*2)))
	}
	return l
}

// wrong are entries that are not valid, with the error that says so.
func wrong() map[string]api.Entry {
	return map[string]api.Entry{
		"nothing": {}, "day 0": with(func(e *api.Entry) { e.Day = 0 }), "no day": with(func(e *api.Entry) { e.Day = api.MaxDay + 1 }), "kind": with(func(e *api.Entry) { e.Kind = 0 }),
		"one line": entry(line(1100, 5)), "too many": entry(lines(66, 1)...), "amount 0": entry(line(1100, 5), line(1200, -5), line(1, 0)),
		"account 0": entry(line(0, 5), line(1200, -5)), "account": entry(line(10000, 5), line(1200, -5)), "account below": entry(line(-1, 5), line(1200, -4)),
		"great": entry(line(1, most+1), line(2, -most), line(3, -1)), "least": entry(line(1, -most-1), line(2, most), line(3, 1)), "wrap": entry(line(1, -1<<63), line(2, -1<<63)),
	}
}

func TestP20_1(t *testing.T) {
	for _, e := range []api.Entry{plain(), entry(lines(64, most)...), {Day: api.MaxDay, Kind: 255, Source: 1<<64 - 1, Lines: plain().Lines}} {
		if no := Check(e); no != api.OK {
			t.Error(e, no)
		}
	}
	for what, e := range wrong() {
		if no := Check(e); no != api.ErrArg {
			t.Error(what, no)
		}
	}
	wrap := entry(line(1, most), line(2, most), line(3, most), line(4, most)) // modulo 2^64 they sum to 0
	for _, e := range []api.Entry{entry(line(1100, 5), line(1200, -4)), wrap} {
		if no := Check(e); no != api.ErrBalance {
			t.Error(e, no)
		}
	}
	c := standard()
	c.Add(api.Account{Code: 1, Class: 1, Name: "up"})
	c.Add(api.Account{Code: 2, Up: 1, Class: 1, Name: "leaf"})
	c.Add(api.Account{Code: 3, Up: 1, Class: 1, Name: "shut"})
	c.Shut(3)
	for _, x := range []struct {
		e  api.Entry
		no api.Errno
	}{
		{plain(), api.OK}, {entry(line(2, 1), line(1100, -1)), api.OK}, {entry(line(1, 1), line(9, -1)), api.ErrState}, {entry(line(9, 1), line(1, -1)), api.ErrNone},
		{entry(line(1100, 1), line(3, -1)), api.ErrState}, {entry(line(9, 1), line(1, -2)), api.ErrBalance}, {entry(line(9, 1)), api.ErrArg},
	} {
		if no := On(c, x.e); no != x.no {
			t.Error(x, no)
		}
	}
	for _, c := range []*chart.Chart{nil, {}} {
		if no := On(c, api.Entry{}); no != api.ErrNil {
			t.Error(no)
		}
	}
	if no := On(chart.New(), plain()); no != api.ErrNone {
		t.Error(no)
	}
}

func TestP20_2Tidy(t *testing.T) {
	for _, x := range []struct {
		l, want []api.Line
		no      api.Errno
	}{
		{nil, nil, api.OK}, {[]api.Line{line(1200, 2), line(1100, 3), line(1200, -2)}, []api.Line{line(1100, 3)}, api.OK},
		{[]api.Line{of(2, 1, 1, 1), of(1, 2, 1, 2), of(1, 1, 2, 3), of(1, 1, 1, 4), of(1, 2, 1, 5)}, []api.Line{of(1, 1, 1, 4), of(1, 1, 2, 3), of(1, 2, 1, 7), of(2, 1, 1, 1)}, api.OK},
		{[]api.Line{line(1, most), line(1, most), line(1, -most)}, []api.Line{line(1, most)}, api.OK}, {[]api.Line{line(1, -most)}, []api.Line{line(1, -most)}, api.OK},
		{[]api.Line{line(1, most), line(1, 1)}, nil, api.ErrArg}, {[]api.Line{line(1, -most), line(1, -1)}, nil, api.ErrArg}, {slices.Repeat([]api.Line{line(1, most)}, 8), nil, api.ErrArg},
		{[]api.Line{line(1, 0)}, nil, api.ErrArg}, {[]api.Line{line(0, 1)}, nil, api.ErrArg}, {[]api.Line{line(1, 1), line(10000, 1)}, nil, api.ErrArg}, {[]api.Line{line(1, most+1)}, nil, api.ErrArg},
		{append(slices.Repeat([]api.Line{line(1, most)}, 9), slices.Repeat([]api.Line{line(1, -most)}, 9)...), nil, api.OK},
	} {
		before := slices.Clone(x.l)
		if l, no := Tidy(x.l); !slices.Equal(l, x.want) || no != x.no || !slices.Equal(before, x.l) {
			t.Error(x, l, no)
		}
	}
}

func TestP20_2(t *testing.T) {
	e := api.Entry{Day: 7, Kind: 3, Source: 9, Lines: []api.Line{of(1, 2, 3, 5), of(2, 2, 3, -4), of(4, 0, 0, -1)}}
	want := api.Entry{Day: 8, Kind: 3, Source: 9, Lines: []api.Line{of(1, 2, 3, -5), of(2, 2, 3, 4), of(4, 0, 0, 1)}}
	if got, no := Reverse(e, 8); !reflect.DeepEqual(got, want) || no != api.OK || e.Lines[0].Amount != 5 {
		t.Error(got, no)
	}
	if debits, credits, no := Totals(e); debits != 5 || credits != 5 || no != api.OK {
		t.Error(debits, credits, no)
	}
	for _, day := range []int{0, -1, api.MaxDay + 1} {
		if got, no := Reverse(e, day); !reflect.DeepEqual(got, api.Entry{}) || no != api.ErrArg {
			t.Error(day, got, no)
		}
	}
	bad := wrong()
	bad["balance"] = entry(line(1100, 5), line(1200, -4))
	for what, e := range bad {
		got, no := Reverse(e, 0)
		debits, credits, no2 := Totals(e)
		b, no3 := Put(e)
		if want := Check(e); no != want || no2 != want || no3 != want || debits != 0 || credits != 0 || b != "" || !reflect.DeepEqual(got, api.Entry{}) {
			t.Error(what, no, no2, no3)
		}
	}
	if debits, credits, no := Totals(entry(line(1, most), line(2, most-1), line(3, -most), line(4, 1-most))); debits != 1<<63-1 || credits != 1<<63-1 || no != api.OK {
		t.Error(debits, credits, no)
	}
	for _, many := range []int{4, 64} {
		if debits, credits, no := Totals(entry(lines(many, most)...)); debits != 0 || credits != 0 || no != api.ErrArg {
			t.Error(debits, credits, no)
		}
	}
}

func TestP20_3(t *testing.T) {
	b, no := Put(plain())
	if b != "\x01\x01\x00\x02\x87\x4c\x00\x00\x0a\x88\x30\x00\x00\x09" || no != api.OK {
		t.Errorf("% x %d", b, no)
	}
	for _, e := range []api.Entry{plain(), entry(lines(64, most)...), {Day: api.MaxDay, Kind: 255, Source: 1<<64 - 1, Lines: []api.Line{of(9999, 1<<64-1, 1<<63, 1), of(9999, 1<<64-1, 1<<63, -1)}}} {
		b, no := Put(e)
		if no != api.OK {
			t.Fatal(no)
		}
		if got, no := Get(b); !reflect.DeepEqual(got, e) || no != api.OK {
			t.Error(got, no)
		}
		for i := range len(b) {
			if _, no := Get(b[:i]); no != api.ErrForm {
				t.Error(i, no)
			}
		}
		if _, no := Get(b + "\x00"); no != api.ErrForm {
			t.Error(no)
		}
	}
	two := b[4:]
	huge := tally.Num(1 << 32)
	for what, s := range map[string]string{
		"empty": "", "day 0": "\x00\x01\x00\x02" + two, "kind 0": "\x01\x00\x00\x02" + two, "kind 256": "\x01" + tally.Num(256+1) + "\x00\x02" + two,
		"one": "\x01\x01\x00\x01" + two[:5], "balance": b[:len(b)-1] + "\x07", "a great day": tally.Num(1<<63) + "\x01\x00\x02" + two, "wrapped": tally.Num(1<<32+1) + "\x01\x00\x02" + two,
		"lines": "\x01\x01\x00" + huge + two, "account": "\x01\x01\x00\x02" + huge + two[2:], "too many": "\x01\x01\x00\x41" + strings.Repeat(two, 33), "account 0": "\x01\x01\x00\x02\x00" + two[2:],
	} {
		if e, no := Get(s); !reflect.DeepEqual(e, api.Entry{}) || no != api.ErrForm {
			t.Error(what, e, no)
		}
	}
	for i := range b { // what is an entry still has these bytes
		for x := range 256 {
			c := []byte(b)
			c[i] = byte(x)
			if e, no := Get(string(c)); no == api.OK {
				if again, no := Put(e); again != string(c) || no != api.OK {
					t.Fatalf("% x", c)
				}
			}
		}
	}
}

// some returns a valid entry of few owners.
func some(r *rand.Rand) api.Entry {
	e := api.Entry{Day: 1 + r.Intn(1000), Kind: 1, Source: r.Uint64()}
	sum := int64(0)
	for range 1 + r.Intn(8) {
		x := of(1+r.Intn(2), uint64(r.Intn(2)), uint64(r.Intn(2)), int64(r.Intn(5))-2)
		if x.Amount != 0 {
			e.Lines = append(e.Lines, x)
			sum += x.Amount
		}
	}
	e.Lines = append(e.Lines, line(7, 100), line(8, -100-sum))
	return e
}

func TestP20_4(t *testing.T) {
	r := rand.New(rand.NewSource(33))
	for range 500 {
		e := some(r)
		debits, credits, no := Totals(e)
		if debits != credits || debits == 0 || no != api.OK {
			t.Fatal(e, debits, credits, no)
		}
		back, _ := Reverse(e, 5)
		if l, no := Tidy(append(slices.Clone(e.Lines), back.Lines...)); len(l) != 0 || no != api.OK {
			t.Fatal(e, l)
		}
		if twice, no := Reverse(back, e.Day); !reflect.DeepEqual(twice, e) || no != api.OK {
			t.Fatal(e, twice)
		}
	}
}

func TestP20_5(t *testing.T) {
	r := rand.New(rand.NewSource(34))
	for range 500 {
		e := some(r)
		l, no := Tidy(e.Lines)
		if no != api.OK {
			t.Fatal(no)
		}
		if again, no := Tidy(l); !slices.Equal(again, l) || no != api.OK {
			t.Fatal(l, again)
		}
		sums := map[owner]int64{}
		for _, x := range e.Lines {
			sums[owner{x.Account, x.Customer, x.Contract}] += x.Amount
		}
		for _, x := range l {
			sums[owner{x.Account, x.Customer, x.Contract}] -= x.Amount
		}
		for o, n := range sums {
			if n != 0 {
				t.Fatal(o, n)
			}
		}
		r.Shuffle(len(e.Lines), func(i, k int) { e.Lines[i], e.Lines[k] = e.Lines[k], e.Lines[i] })
		if again, _ := Tidy(e.Lines); !slices.Equal(again, l) {
			t.Fatal(l, again)
		}
	}
}
