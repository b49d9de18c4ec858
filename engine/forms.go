package engine

import (
	"quittance/api"
	"quittance/cash"
	"quittance/dunning"
	"quittance/invoices"
	"quittance/journal"
	"quittance/notes"
	"quittance/plans"
	"quittance/sched"
	"quittance/subs"
	"quittance/tally"
)

// row returns numbers as a text.
func row(l []uint64) string {
	b := ""
	for _, n := range l {
		b += tally.Num(n)
	}
	return b
}

// unrow returns the numbers of a text, as far as it has some.
func unrow(b string) []uint64 {
	var l []uint64
	for n, rest, is := tally.TakeNum(b); is; n, rest, is = tally.TakeNum(rest) {
		l = append(l, n)
	}
	return l
}

// pairs makes a thing of each two numbers of a text.
func pairs[T any](b string, one func(a, b uint64) T) []T {
	var l []T
	n := unrow(b)
	for i := 0; i+1 < len(n); i += 2 {
		l = append(l, one(n[i], n[i+1]))
	}
	return l
}

func planForm() form[api.Plan] {
	return form[api.Plan]{
		name: "plan",
		put: func(p api.Plan) record {
			var prices []uint64
			for _, x := range p.Prices {
				prices = append(prices, uint64(x.From), uint64(x.Amount))
			}
			return record{[]uint64{uint64(p.Every), uint64(p.Retired)}, []string{p.Name, row(prices)}}
		},
		get: func(number uint64, r record) api.Plan {
			prices := pairs(r.texts[1], func(from, amount uint64) api.Price { return api.Price{From: int(from), Amount: int64(amount)} })
			return api.Plan{Id: number, Name: r.texts[0], Every: int(r.numbers[0]), Retired: int(r.numbers[1]), Prices: prices}
		},
		valid: func(p api.Plan) bool { return plans.Check(p) == api.OK },
	}
}

func validCustomer(c api.Customer) bool {
	return c.Id > 0 && c.Name != "" && len(c.Name) <= api.MaxTitle
}

func customerForm() form[api.Customer] {
	return form[api.Customer]{
		name:  "who",
		put:   func(c api.Customer) record { return record{texts: []string{c.Name}} },
		get:   func(number uint64, r record) api.Customer { return api.Customer{Id: number, Name: r.texts[0]} },
		valid: validCustomer,
	}
}

func contractForm() form[api.Contract] {
	return form[api.Contract]{
		name: "sub",
		put: func(k api.Contract) record {
			s := k.S
			return record{numbers: []uint64{
				s.Customer, s.Plan, uint64(s.Cycle.Start), uint64(s.Cycle.Anchor), uint64(s.Cycle.Every),
				uint64(s.Price), uint64(s.Billed), uint64(s.Since), uint64(s.Ends), uint64(k.Month),
			}}
		},
		get: func(number uint64, r record) api.Contract {
			n := r.numbers
			return api.Contract{Month: int(n[9]), S: api.Sub{
				Id: number, Customer: n[0], Plan: n[1], Cycle: api.Cycle{Start: int(n[2]), Anchor: int(n[3]), Every: int(n[4])},
				Price: int64(n[5]), Billed: int(n[6]), Since: int(n[7]), Ends: int(n[8]),
			}}
		},
		valid: func(k api.Contract) bool {
			return subs.Check(k.S) == api.OK && (k.Month == 0 || isMonth(k.Month))
		},
	}
}

// invoiceForm has lengths in place of the later ones of two days: they are
// shorter.
func invoiceForm() form[api.Invoice] {
	return form[api.Invoice]{
		name: "bill",
		put: func(x api.Invoice) record {
			return record{numbers: []uint64{
				x.Customer, x.Contract, uint64(x.Day), uint64(x.Due - x.Day), uint64(x.From), uint64(x.Next - x.From),
				uint64(x.Amount), uint64(x.Credited), uint64(x.Paid), uint64(x.Lost),
			}}
		},
		get: func(number uint64, r record) api.Invoice {
			n := r.numbers
			return api.Invoice{
				Id: number, Customer: n[0], Contract: n[1], Day: int(n[2]), Due: int(n[2] + n[3]), From: int(n[4]), Next: int(n[4] + n[5]),
				Amount: int64(n[6]), Credited: int64(n[7]), Paid: int64(n[8]), Lost: int64(n[9]),
			}
		},
		valid: func(x api.Invoice) bool { return invoices.Check(x) == api.OK },
		dense: true,
	}
}

// scheduleForm has an amount and whether it is done as one number.
func scheduleForm() form[api.Schedule] {
	return form[api.Schedule]{
		name: "plot",
		put: func(s api.Schedule) record {
			var l []uint64
			for _, x := range s.Slices {
				n := uint64(x.Amount) * 2
				if x.Done {
					n++
				}
				l = append(l, uint64(x.Month), n)
			}
			return record{[]uint64{s.Contract, uint64(s.Version), uint64(s.Kind)}, []string{row(l)}}
		},
		get: func(number uint64, r record) api.Schedule {
			l := pairs(r.texts[0], func(month, n uint64) api.Slice {
				return api.Slice{Month: int(month), Amount: int64(n / 2), Done: n%2 == 1}
			})
			return api.Schedule{Invoice: number, Contract: r.numbers[0], Version: int(r.numbers[1]), Kind: uint8(r.numbers[2]), Slices: l}
		},
		valid: func(s api.Schedule) bool { return sched.Check(s) == api.OK },
		dense: true,
	}
}

func noteForm() form[api.Note] {
	return form[api.Note]{
		name: "note",
		put: func(n api.Note) record {
			return record{[]uint64{n.Invoice, uint64(n.Day), uint64(n.Amount)}, []string{n.Reason}}
		},
		get: func(number uint64, r record) api.Note {
			return api.Note{Id: number, Invoice: r.numbers[0], Day: int(r.numbers[1]), Amount: int64(r.numbers[2]), Reason: r.texts[0]}
		},
		valid: func(n api.Note) bool { return notes.Check(n) == api.OK },
		dense: true,
	}
}

func paymentForm() form[api.Payment] {
	return form[api.Payment]{
		name: "paid",
		put: func(p api.Payment) record {
			return record{numbers: []uint64{p.Customer, uint64(p.Day), uint64(p.Amount), uint64(p.Applied), uint64(p.Refunded)}}
		},
		get: func(number uint64, r record) api.Payment {
			n := r.numbers
			return api.Payment{Id: number, Customer: n[0], Day: int(n[1]), Amount: int64(n[2]), Applied: int64(n[3]), Refunded: int64(n[4])}
		},
		valid: func(p api.Payment) bool { return cash.Check(p) == api.OK },
		dense: true,
	}
}

func useForm() form[api.Use] {
	return form[api.Use]{
		name: "use",
		put: func(u api.Use) record {
			return record{numbers: []uint64{u.Payment, u.Invoice, uint64(u.Amount)}}
		},
		get: func(_ uint64, r record) api.Use {
			return api.Use{Payment: r.numbers[0], Invoice: r.numbers[1], Amount: int64(r.numbers[2])}
		},
		valid: func(u api.Use) bool { return u.Amount >= 0 },
		dense: true,
	}
}

func dunForm() form[api.Dun] {
	return form[api.Dun]{
		name: "dun",
		put:  func(d api.Dun) record { return record{numbers: []uint64{uint64(d.Stage), uint64(d.Since)}} },
		get: func(number uint64, r record) api.Dun {
			return api.Dun{Invoice: number, Stage: int(r.numbers[0]), Since: int(r.numbers[1])}
		},
		valid: func(api.Dun) bool { return true }, // a run checks them, with the invoices
	}
}

func entryForm() form[api.Entry] {
	return form[api.Entry]{
		name: "book",
		put: func(y api.Entry) record {
			b, _ := journal.Put(y)
			return record{texts: []string{b}}
		},
		get: func(_ uint64, r record) api.Entry {
			y, _ := journal.Get(r.texts[0])
			return y
		},
		valid: func(y api.Entry) bool { return journal.Check(y) == api.OK },
		dense: true,
	}
}

// rules are what there is one of: the policy, and the last closed month.
type rules struct {
	policy api.Policy
	closed int
}

// theRules is their number.
const theRules = 1

func rulesForm() form[rules] {
	return form[rules]{
		name: "rule",
		put: func(x rules) record {
			var days []uint64
			for _, late := range x.policy.Days {
				days = append(days, uint64(late))
			}
			return record{[]uint64{uint64(x.closed), uint64(x.policy.Lose)}, []string{row(days)}}
		},
		get: func(_ uint64, r record) rules {
			x := rules{policy: api.Policy{Lose: int(r.numbers[1])}, closed: int(r.numbers[0])}
			for _, late := range unrow(r.texts[0]) {
				x.policy.Days = append(x.policy.Days, int(late))
			}
			return x
		},
		valid: func(x rules) bool {
			return dunning.Check(x.policy) == api.OK && (x.closed == 0 || isMonth(x.closed))
		},
		dense: true,
	}
}
