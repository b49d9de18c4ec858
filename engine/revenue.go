package engine

import (
	"slices"

	"quittance/api"
	"quittance/cash"
	"quittance/invoices"
	"quittance/revrec"
	"quittance/sched"
	"quittance/subs"
)

func (g *Engine) reach(c api.Command) api.Reply {
	if !isMonth(c.Month) || c.At < 0 {
		return refuse(api.ErrArg)
	}
	s, is := g.schedules.get(c.Id)
	if !is {
		return refuse(api.ErrNone)
	}
	s, e := sched.Reach(s, c.At, c.Month)
	if e != api.OK {
		return refuse(e)
	}
	g.schedules.put(c.Id, s)
	return api.Reply{}
}

// of returns the schedules of a contract.
func (g *Engine) of(contract uint64) []api.Schedule {
	return g.schedules.some(func(s api.Schedule) bool { return s.Contract == contract })
}

func (g *Engine) recognize(c api.Command) api.Reply {
	if !isMonth(c.Month) {
		return refuse(api.ErrArg)
	}
	k, is := g.contracts.get(c.Id)
	if !is {
		return refuse(api.ErrNone)
	}
	l := g.of(c.Id)
	run, e := revrec.Recognize(api.Mark{Contract: c.Id, Customer: k.S.Customer, Month: k.Month}, l, c.Month)
	if e != api.OK {
		return refuse(e)
	}
	k.Month = run.Mark.Month
	g.contracts.put(c.Id, k)
	for i, s := range run.Schedules {
		if !slices.Equal(s.Slices, l[i].Slices) {
			g.schedules.put(s.Invoice, s)
		}
	}
	g.post(run.Entry)
	r := api.Reply{}
	for _, x := range run.Releases {
		r.Ids, r.Amounts = append(r.Ids, x.Invoice), append(r.Amounts, x.Amount)
	}
	return r
}

func (g *Engine) closeMonth(c api.Command) api.Reply {
	x := g.current()
	switch {
	case !isMonth(c.Month):
		return refuse(api.ErrArg)
	case c.Month <= x.closed:
		return refuse(api.ErrState)
	}
	// A sum that does not fit is not 0 either.
	if n, e := revrec.Due(g.schedules.all(), c.Month); n != 0 || e != api.OK {
		return refuse(api.ErrState)
	}
	x.closed = c.Month
	g.rules.put(theRules, x)
	return api.Reply{}
}

func (g *Engine) balance(c api.Command) api.Reply {
	n, e := g.books.Balance(c.At)
	return api.Reply{E: e, Amounts: []int64{n}}
}

func (g *Engine) trial(api.Command) api.Reply { return api.Reply{Rows: g.books.Trial()} }

func (g *Engine) showContract(c api.Command) api.Reply {
	k, e := g.contract(c.Id, c.Day)
	if e != api.OK {
		return refuse(e)
	}
	state, e := subs.State(k.S, c.Day)
	if e != api.OK {
		return refuse(e)
	}
	left, e := revrec.Left(g.of(c.Id))
	return api.Reply{E: e, Amounts: []int64{k.S.Price, int64(k.S.Billed), int64(k.S.Ends), int64(state), int64(k.Month), left}}
}

func (g *Engine) showInvoice(c api.Command) api.Reply {
	x, is := g.invoices.get(c.Id)
	if !is {
		return refuse(api.ErrNone)
	}
	s, _ := g.schedules.get(c.Id)
	return api.Reply{Amounts: []int64{x.Amount, x.Credited, x.Paid, x.Lost, invoices.Open(x), sched.Left(s)}}
}

func (g *Engine) showPayment(c api.Command) api.Reply {
	p, e := g.payment(c.Id, true)
	if e != api.OK {
		return refuse(e)
	}
	return api.Reply{Amounts: []int64{p.Amount, p.Applied, p.Refunded, cash.Left(p)}}
}

func (g *Engine) ages(c api.Command) api.Reply {
	switch {
	case !isDay(c.Day):
		return refuse(api.ErrArg)
	case c.Customer != 0 && !g.customers.has(c.Customer):
		return refuse(api.ErrNone)
	}
	l := g.invoices.some(func(x api.Invoice) bool { return c.Customer == 0 || x.Customer == c.Customer })
	sums, e := invoices.Ages(l, c.Day)
	return api.Reply{E: e, Amounts: sums[:]}
}

func (g *Engine) waterfall(c api.Command) api.Reply {
	if c.Id != 0 && !g.contracts.has(c.Id) {
		return refuse(api.ErrNone)
	}
	l, e := sched.Waterfall(g.schedules.some(func(s api.Schedule) bool { return c.Id == 0 || s.Contract == c.Id }))
	return api.Reply{E: e, Slices: l}
}

func (g *Engine) price(c api.Command) api.Reply {
	n, e := g.catalog(c.Plan).Price(c.Plan, c.Day)
	return api.Reply{E: e, Amounts: []int64{n}}
}

func (g *Engine) sums(c api.Command) api.Reply {
	if !g.customers.has(c.Customer) {
		return refuse(api.ErrNone)
	}
	var l []int64
	for _, account := range []int{api.AcCash, api.AcReceivable, api.AcUnapplied, api.AcLost} {
		l = append(l, g.books.Of(account, c.Customer))
	}
	return api.Reply{Amounts: l}
}

func (g *Engine) save(api.Command) api.Reply { return refuse(g.store.Save()) }
