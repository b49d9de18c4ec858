package books

import (
	"math/big"
	"math/rand"
	"reflect"
	"slices"
	"testing"

	"quittance/api"
	"quittance/chart"
	"quittance/civil"
	"quittance/journal"
)

const most = 1 << 62

func day(y, m, d int) int {
	n, _ := civil.Day(y, m, d)
	return n
}

func month(y, m int) int {
	n, _ := civil.Month(y, m)
	return n
}

func of(account int, customer, contract uint64, amount int64) api.Line {
	return api.Line{Account: account, Customer: customer, Contract: contract, Amount: amount}
}

func entry(on int, l ...api.Line) api.Entry { return api.Entry{Day: on, Kind: 1, Lines: l} }

func fresh() *Books {
	c := chart.New()
	for _, a := range chart.Standard() {
		c.Add(a)
	}
	return New(c)
}

func do(t *testing.T, have, want api.Errno) {
	t.Helper()
	if have != want {
		t.Fatalf("%d, wanted %d", have, want)
	}
}

// post checks what a Post returns.
func post(t *testing.T, b *Books, e api.Entry, n uint64, no api.Errno) {
	t.Helper()
	do(t, b.May([]api.Entry{e}), no)
	got, e2 := b.Post(e)
	do(t, e2, no)
	if got != n {
		t.Fatal(got, n)
	}
}

func sale(on int, amount int64) api.Entry {
	return entry(on, of(1200, 7, 3, amount), of(2100, 7, 3, -amount))
}

func TestP21_1(t *testing.T) {
	b := fresh()
	post(t, b, sale(day(2024, 1, 5), 100), 1, api.OK)
	do(t, b.Close(month(2024, 1)), api.OK)
	post(t, b, sale(day(2024, 1, 31), 100), 0, api.ErrClosed)
	post(t, b, sale(day(2024, 2, 1), 100), 2, api.OK)
	do(t, b.Close(month(2023, 12)), api.ErrState)
	do(t, b.Close(month(2024, 1)), api.ErrState)
	for _, m := range []int{0, -1, api.MaxMonth + 1} {
		do(t, b.Close(m), api.ErrArg)
	}
	post(t, b, entry(day(2024, 1, 1), of(1200, 1, 1, 5), of(2100, 1, 1, -4)), 0, api.ErrBalance)
	post(t, b, entry(day(2024, 1, 1), of(1201, 1, 1, 5), of(2100, 1, 1, -5)), 0, api.ErrNone)
	post(t, b, api.Entry{}, 0, api.ErrArg)
	do(t, b.Close(api.MaxMonth), api.OK)
	post(t, b, sale(api.MaxDay, 1), 0, api.ErrClosed)
	for _, b := range []*Books{New(nil), New(&chart.Chart{})} {
		post(t, b, api.Entry{}, 0, api.ErrNil)
		do(t, b.May(nil), api.OK)
		do(t, b.Close(1), api.OK)
	}
}

func TestP21_1Over(t *testing.T) {
	b := fresh()
	post(t, b, sale(1, most), 1, api.OK)
	post(t, b, sale(1, most), 0, api.ErrOver)
	post(t, b, sale(1, most-1), 2, api.OK)
	post(t, b, sale(1, 1), 0, api.ErrOver)
	// Within one entry only what comes out counts.
	post(t, b, entry(1, of(1200, 7, 3, 5), of(1200, 7, 3, -6), of(2100, 7, 3, -5), of(2100, 7, 3, 6)), 3, api.OK)
	// Of other customers: the account's own sum does not fit.
	post(t, b, entry(1, of(1200, 8, 4, 2), of(2100, 8, 4, -2)), 0, api.ErrOver)
	b = fresh()
	post(t, b, entry(1, of(1200, 7, 3, -most), of(1100, 0, 0, most)), 1, api.OK)
	post(t, b, entry(1, of(1200, 7, 3, -most), of(2200, 0, 0, most)), 0, api.ErrOver) // -2^63 fits, its negation does not
	b = fresh()
	post(t, b, entry(1, of(1200, 7, 3, -most), of(1200, 8, 4, most)), 1, api.OK)
	post(t, b, entry(1, of(1200, 7, 5, -most), of(1200, 8, 6, most)), 0, api.ErrOver) // of the customers alone
	post(t, b, entry(1, of(1200, 9, 3, -most), of(1200, 10, 4, most)), 0, api.ErrOver)
	post(t, b, entry(1, of(1200, 9, 5, -most), of(1200, 10, 6, most)), 2, api.OK)
	b = fresh()
	post(t, b, entry(1, of(1200, 1, 1, most), of(2100, 1, 1, -most)), 1, api.OK)
	post(t, b, entry(40, of(1200, 2, 2, -most), of(2100, 2, 2, most)), 2, api.OK)
	post(t, b, entry(1, of(1200, 3, 3, most), of(2100, 3, 3, -most)), 0, api.ErrOver) // of the month alone
	post(t, b, entry(70, of(1200, 3, 3, most), of(2100, 3, 3, -most)), 3, api.OK)
}

func TestP21_1May(t *testing.T) {
	b := fresh()
	do(t, b.Close(month(2024, 1)), api.OK)
	now := day(2024, 2, 1)
	do(t, b.May([]api.Entry{sale(now, most), sale(now, most)}), api.ErrOver)
	do(t, b.May([]api.Entry{sale(now, most), sale(now, -most), sale(now, most)}), api.OK)
	do(t, b.May([]api.Entry{sale(now, most), sale(now-1, 5), sale(now, most)}), api.ErrClosed)
	do(t, b.May([]api.Entry{sale(now, most), sale(now, most), sale(now-1, 5)}), api.ErrOver)
	if b.Len() != 0 || len(b.Trial()) != 0 {
		t.Error("something is posted")
	}
}

func TestP21_2(t *testing.T) {
	b := fresh()
	e := sale(day(2024, 1, 5), 100)
	want := sale(day(2024, 1, 5), 100)
	post(t, b, e, 1, api.OK)
	e.Lines[0].Amount = 5
	for range 2 {
		got, no := b.Entry(1)
		if !reflect.DeepEqual(got, want) || no != api.OK {
			t.Error(got, no)
		}
		got.Lines[0].Amount = 6
	}
	for _, n := range []uint64{0, 2, 1<<64 - 1} {
		if got, no := b.Entry(n); !reflect.DeepEqual(got, api.Entry{}) || no != api.ErrNone {
			t.Error(n, got, no)
		}
	}
	if b.Closed() != 0 || b.Len() != 1 {
		t.Error(b.Closed(), b.Len())
	}
	do(t, b.Close(5), api.OK)
	if b.Closed() != 5 {
		t.Error(b.Closed())
	}
}

func TestP21_2Nil(t *testing.T) {
	for _, b := range []*Books{nil, {}} {
		post(t, b, api.Entry{}, 0, api.ErrNil)
		do(t, b.May(nil), api.ErrNil)
		do(t, b.Close(0), api.ErrNil)
		_, no := b.Entry(0)
		do(t, no, api.ErrNil)
		n, no := b.Balance(1)
		do(t, no, api.ErrNil)
		if n != 0 || b.Closed() != 0 || b.Len() != 0 || b.Of(1, 1) != 0 || b.By(1, 1) != 0 || b.In(1, 1) != 0 || len(b.Trial()) != 0 {
			t.Error("something of nothing")
		}
	}
}

func TestP21_3(t *testing.T) {
	b := fresh()
	post(t, b, sale(day(2024, 1, 5), 100), 1, api.OK)
	post(t, b, entry(day(2024, 2, 5), of(1200, 8, 4, 30), of(2100, 8, 4, -20), of(3100, 0, 0, -10)), 2, api.OK)
	post(t, b, entry(day(2024, 2, 5), of(2200, 8, 4, 1), of(4100, 8, 4, -1)), 3, api.OK)
	for _, x := range []struct{ have, want int64 }{
		{b.Of(1200, 7), 100}, {b.Of(1200, 8), 30}, {b.Of(1200, 9), 0}, {b.Of(3100, 0), -10}, {b.Of(9, 7), 0}, {b.By(2100, 3), -100}, {b.By(2100, 4), -20}, {b.By(3100, 0), -10},
		{b.By(2100, 7), 0}, {b.In(2100, month(2024, 1)), -100}, {b.In(2100, month(2024, 2)), -20}, {b.In(2100, 0), 0}, {b.In(2100, -1), 0}, {b.In(2100, 7), 0},
	} {
		if x.have != x.want {
			t.Error(x)
		}
	}
	for account, want := range map[int]int64{1200: 130, 2100: -120, 3100: -10, 1100: 0} {
		if n, no := b.Balance(account); n != want || no != api.OK {
			t.Error(account, n, no)
		}
	}
	for _, account := range []int{0, -1, 1201, 10000} {
		if n, no := b.Balance(account); n != 0 || no != api.ErrNone {
			t.Error(account, n, no)
		}
	}
	want := []api.Balance{{Account: 1200, Debit: 130}, {Account: 2100, Credit: 120}, {Account: 2200, Debit: 1}, {Account: 3100, Credit: 10}, {Account: 4100, Credit: 1}}
	if l := b.Trial(); !slices.Equal(l, want) {
		t.Error(l)
	}
}

func TestP21_3Under(t *testing.T) {
	c := chart.New()
	for code, up := range []int{0, 0, 1, 1, 1, 0} {
		c.Add(api.Account{Code: code, Up: up, Class: api.ClAsset, Name: "a"})
	}
	b := New(c)
	post(t, b, entry(1, of(2, 0, 0, most), of(5, 0, 0, -most)), 1, api.OK)
	post(t, b, entry(40, of(3, 0, 0, most), of(4, 0, 0, -most)), 2, api.OK)
	if n, no := b.Balance(1); n != most || no != api.OK {
		t.Error(n, no)
	}
	post(t, b, entry(1, of(3, 1, 1, most-1), of(5, 0, 0, 1-most)), 3, api.OK)
	post(t, b, entry(1, of(4, 1, 1, most-1), of(5, 0, 0, 1-most)), 0, api.ErrOver)
	if n, no := b.Balance(1); n != 2*most-1 || no != api.OK {
		t.Error(n, no)
	}
	c.Add(api.Account{Code: 6, Up: 1, Class: api.ClAsset, Name: "later"})
	c.Add(api.Account{Code: 7, Class: api.ClAsset, Name: "later"})
	post(t, b, entry(1, of(6, 1, 1, 5), of(7, 0, 0, -5)), 4, api.OK)
	if n, no := b.Balance(1); n != 0 || no != api.ErrOver {
		t.Error(n, no)
	}
	post(t, b, entry(1, of(1, 1, 1, 5), of(7, 0, 0, -5)), 0, api.ErrState)
	if n, no := New(nil).Balance(1); n != 0 || no != api.ErrNone {
		t.Error(n, no)
	}
}

// some returns an entry of few accounts, customers and contracts.
func some(r *rand.Rand) api.Entry {
	accounts := []int{1100, 1200, 2100, 2200, 3100, 4100}
	amount := 1 + r.Int63n(most)>>r.Intn(62)
	a := of(accounts[r.Intn(6)], uint64(r.Intn(3)), uint64(r.Intn(3)), amount)
	b := of(accounts[r.Intn(6)], uint64(r.Intn(3)), uint64(r.Intn(3)), -amount)
	if r.Intn(2) == 0 {
		a, b = b, a
	}
	return entry(1+r.Intn(200), a, b)
}

func TestP21_4(t *testing.T) {
	r := rand.New(rand.NewSource(35))
	b := fresh()
	for range 2000 {
		b.Post(some(r))
		debits, credits, all := new(big.Int), new(big.Int), new(big.Int)
		for _, x := range b.Trial() {
			debits.Add(debits, big.NewInt(x.Debit))
			credits.Add(credits, big.NewInt(x.Credit))
		}
		for _, a := range chart.Standard() {
			n, no := b.Balance(a.Code)
			do(t, no, api.OK)
			all.Add(all, big.NewInt(n))
		}
		if debits.Cmp(credits) != 0 || all.Sign() != 0 {
			t.Fatal(debits, credits, all)
		}
	}
	if b.Len() < 100 {
		t.Error(b.Len())
	}
}

// state is all that books tell.
func state(b *Books) []any {
	l := []any{b.Closed(), b.Len(), b.Trial()}
	for _, a := range chart.Standard() {
		for id := range uint64(5) {
			l = append(l, b.Of(a.Code, id), b.By(a.Code, id), b.In(a.Code, int(id)))
		}
	}
	return l
}

func TestP21_5(t *testing.T) {
	r := rand.New(rand.NewSource(36))
	b := fresh()
	refused := 0
	for i := range 3000 {
		before := state(b)
		e := some(r)
		if i == 1500 {
			do(t, b.Close(2), api.OK)
			before = state(b)
		}
		closed := []int64{b.In(1200, 1), b.In(1200, 2)}
		if _, no := b.Post(e); no != api.OK {
			refused++
			if !reflect.DeepEqual(state(b), before) {
				t.Fatal(no)
			}
		}
		if i >= 1500 && !slices.Equal(closed, []int64{b.In(1200, 1), b.In(1200, 2)}) {
			t.Fatal("a closed month is changed")
		}
	}
	if refused < 100 {
		t.Error(refused)
	}
}

func TestP21_6(t *testing.T) {
	r := rand.New(rand.NewSource(37))
	b := fresh()
	for range 500 {
		b.Post(some(r))
		before := state(b)
		e := some(r)
		back, _ := journal.Reverse(e, 1+r.Intn(200))
		if b.May([]api.Entry{e, back}) != api.OK {
			continue
		}
		b.Post(e)
		b.Post(back)
		after := state(b)
		for i := 2; i < len(after); i++ {
			if (i-3)%3 != 2 && !reflect.DeepEqual(before[i], after[i]) { // all but the sums of months
				t.Fatal(i, before[i], after[i])
			}
		}
	}
}
