package engine

import (
	"math/rand"
	"reflect"
	"testing"

	"quittance/api"
	"quittance/cash"
	"quittance/drive"
	"quittance/invoices"
	"quittance/sched"
)

// some returns a command that often makes sense: of few numbers, within two years.
func some(r *rand.Rand) api.Command {
	first := day(2023, 12, 15)
	on := first + r.Intn(500)
	m := month(2023, 12) + r.Intn(17)
	few := func(n int) uint64 { return uint64(1 + r.Intn(n)) }
	amount := r.Int63n(5000)
	switch n := r.Intn(100); {
	case n < 5:
		return plan(few(4), "p", 1+r.Intn(2)*2, first+r.Intn(30), amount)
	case n < 8:
		return reprice(few(4), on, amount)
	case n < 9:
		return retire(few(4), on)
	case n < 12:
		return customer(few(3), "c")
	case n < 20:
		return subscribe(few(5), few(3), few(4), on, 1+r.Intn(31))
	case n < 45:
		return bill(few(5), on)
	case n < 52:
		return changeTo(few(5), few(4), on)
	case n < 55:
		return cancel(few(5), on, r.Intn(2) == 0)
	case n < 65:
		return pay(few(3), on, amount)
	case n < 68:
		return apply(few(12), on)
	case n < 71:
		return refund(few(12), on, r.Int63n(300))
	case n < 79:
		return credit(few(20), on, r.Int63n(500), "r")
	case n < 80:
		return policy(int64(r.Intn(2)*90), 3, 10, 30)
	case n < 83:
		return dun(on)
	case n < 88:
		return sell(few(5), on, amount, 1, r.Int63n(5), 2)
	case n < 91:
		return reach(few(20), r.Intn(3), m)
	case n < 96:
		return recognize(few(5), m)
	case n < 97:
		return closing(m - r.Intn(12))
	case n < 98:
		return save()
	}
	return api.Command{Do: uint8(19 + r.Intn(13)), Id: few(5), Customer: few(3), Plan: few(4), Day: on, At: 1100}
}

// TestP30_5 checks the sums of the books against the documents after each command.
func TestP30_5(t *testing.T) {
	r := rand.New(rand.NewSource(52))
	for range 8 {
		d := disk(t, 4096)
		g := open(t, d)
		done := 0
		for range 600 {
			c := some(r)
			before := g.Ledger()
			if reply := g.Do(c); reply.E == api.OK {
				done++
			} else if !reflect.DeepEqual(before, g.Ledger()) || !same(reply, no(reply.E)) {
				t.Fatalf("%+v: %+v, and something is changed", c, reply)
			}
			checkSums(t, g)
		}
		if done < 150 {
			t.Error(done)
		}
		if !reflect.DeepEqual(open(t, d).Ledger(), g.Ledger()) {
			t.Fatal("another ledger when it is opened again")
		}
	}
}

func checkSums(t *testing.T, g *Engine) {
	t.Helper()
	l := g.Ledger()
	of := map[uint64][3]int64{} // of a customer: cash, receivable, unapplied
	by := map[uint64]int64{}    // of a contract: deferred
	for _, x := range l.Invoices {
		s := of[x.Customer]
		s[1] += invoices.Open(x)
		of[x.Customer] = s
	}
	for _, p := range l.Payments {
		s := of[p.Customer]
		s[0] += p.Amount - p.Refunded
		s[2] -= cash.Left(p)
		of[p.Customer] = s
	}
	for _, x := range l.Schedules {
		by[x.Contract] -= sched.Left(x)
	}
	for _, c := range l.Customers {
		r := g.Do(sums(c.Id))
		if s := of[c.Id]; r.Amounts[0] != s[0] || r.Amounts[1] != s[1] || r.Amounts[2] != s[2] {
			t.Fatal(c, r, s)
		}
	}
	for _, k := range l.Contracts {
		if n := g.books.By(api.AcDeferred, k.S.Id); n != by[k.S.Id] {
			t.Fatal(k, n, by[k.S.Id])
		}
	}
	sum := int64(0)
	for _, x := range g.Do(trial()).Rows {
		sum += x.Debit - x.Credit
	}
	if sum != 0 {
		t.Fatal(sum)
	}
}

// TestP30_4 fails the power at will. Beside it there is a ledger on a drive that
// never fails, with the commands that came through.
func TestP30_4(t *testing.T) {
	r := rand.New(rand.NewSource(53))
	for range 25 {
		d, safe := disk(t, 128+r.Intn(500)), disk(t, 4096)
		g, twin := open(t, d), open(t, safe)
		for range 150 {
			c := some(r)
			if c.Do == 30 {
				continue
			}
			if r.Intn(4) == 0 {
				d.Fuse(r.Intn(30))
			}
			reply := g.Do(c)
			switch reply.E {
			case api.ErrFull:
				continue
			case api.ErrDown:
				d.Crash(api.Crash{Keep: r.Uint64(), Torn: r.Intn(9) - 1, At: r.Intn(65)})
				g = open(t, d)
				settle(t, g, twin, safe, c)
			default:
				if want := twin.Do(c); !same(reply, want) {
					t.Fatalf("%+v: %+v, wanted %+v", c, reply, want)
				}
			}
			if !reflect.DeepEqual(g.Ledger(), twin.Ledger()) {
				t.Fatal("another ledger")
			}
			if r.Intn(10) == 0 {
				d.Crash(api.Crash{Keep: r.Uint64()})
				g = open(t, d)
			}
			d.Fuse(-1)
		}
	}
}

// settle executes a command that was in progress on the twin, if it came through.
func settle(t *testing.T, g, twin *Engine, safe *drive.Drive, c api.Command) {
	t.Helper()
	now := g.Ledger()
	if reflect.DeepEqual(now, twin.Ledger()) {
		return
	}
	after := open(t, safe.Copy())
	after.Do(c)
	if !reflect.DeepEqual(now, after.Ledger()) {
		t.Fatalf("%+v: neither the ledger from before nor the one after it", c)
	}
	twin.Do(c)
}

// TestP30_4Each fails the power at each write of one command, with each outcome.
func TestP30_4Each(t *testing.T) {
	d := disk(t, 256)
	g := open(t, d)
	for _, c := range []api.Command{plan(1, "gold", 1, 1, 3100), customer(7, "Ada"), subscribe(3, 7, 1, day(2024, 1, 1), 1), bill(3, day(2024, 1, 1))} {
		if r := g.Do(c); r.E != api.OK {
			t.Fatal(r)
		}
	}
	before := g.Ledger()
	c := pay(7, day(2024, 1, 2), 2000)
	done := open(t, d.Copy())
	done.Do(c)
	after := done.Ledger()
	for fuse := 0; ; fuse++ {
		came := false
		for keep := range uint64(16) {
			for torn := -1; torn < 4; torn++ {
				e := d.Copy()
				x := open(t, e)
				e.Fuse(fuse)
				r := x.Do(c)
				e.Crash(api.Crash{Keep: keep, Torn: torn, At: 30})
				l := open(t, e).Ledger()
				was, is := reflect.DeepEqual(l, before), reflect.DeepEqual(l, after)
				if !was && !is || r.E == api.OK && !is || r.E != api.OK && r.E != api.ErrDown {
					t.Fatal(fuse, keep, torn, r)
				}
				came = r.E == api.OK
			}
		}
		if came {
			break
		}
	}
}
