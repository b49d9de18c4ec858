package script

import (
	"strings"

	"quittance/api"
	"quittance/tally"
)

// join returns the bytes of many things of one kind, one after the other.
func join[T any](one func(T) string, l ...T) string {
	var b strings.Builder
	for _, x := range l {
		b.WriteString(one(x))
	}
	return b.String()
}

// list returns how many things there are, and their bytes.
func list[T any](one func(T) string, l []T) string {
	return tally.Num(uint64(len(l))) + join(one, l...)
}

// flag returns the number of a condition.
func flag(is bool) string {
	if is {
		return tally.Num(1)
	}
	return tally.Num(0)
}

// Put returns the bytes of a command.
func Put(c api.Command) (string, api.Errno) {
	if len(c.Text) > api.MaxText || len(c.Numbers) > api.MaxNumbers {
		return "", api.ErrArg
	}
	numbers := join(tally.Num, uint64(c.Do), c.Id, c.Customer, c.Plan)
	integers := join(tally.Int, int64(c.Day), int64(c.Month), int64(c.At), c.Amount)
	return numbers + integers + tally.Text(c.Text) + list(tally.Int, c.Numbers) + flag(c.Now), api.OK
}

// Answer returns the bytes of a reply.
func Answer(r api.Reply) string {
	notice := func(x api.Notice) string {
		return join(tally.Num, x.Invoice, x.Customer) + join(tally.Int, int64(x.Stage), int64(x.Late), x.Open)
	}
	row := func(x api.Balance) string { return join(tally.Int, int64(x.Account), x.Debit, x.Credit) }
	slice := func(x api.Slice) string { return join(tally.Int, int64(x.Month), x.Amount) + flag(x.Done) }
	return tally.Num(uint64(r.E)) + list(tally.Num, r.Ids) + list(tally.Int, r.Amounts) +
		list(notice, r.Notices) + list(row, r.Rows) + list(slice, r.Slices)
}

// reader takes things off bytes, until one is not there: then it gives up by a
// panic, which the exported functions catch.
type reader struct{ rest string }

// broken is what a reader gives up with.
type broken struct{}

// take takes a thing off; how says what makes it of bytes.
func take[T any](r *reader, how func(string) (T, string, bool)) T {
	x, rest, is := how(r.rest)
	r.want(is)
	r.rest = rest
	return x
}

// want gives up unless a condition holds.
func (r *reader) want(is bool) {
	if !is {
		panic(broken{})
	}
}

func (r *reader) number() uint64 { return take(r, tally.TakeNum) }

func (r *reader) integer() int64 { return take(r, tally.TakeInt) }

func (r *reader) int() int { return int(r.integer()) }

func (r *reader) flag() bool {
	n := r.number()
	r.want(n <= 1)
	return n == 1
}

// takeList takes how many things there are off, at most most, and these.
func takeList[T any](r *reader, most int, one func() T) []T {
	n := r.number()
	r.want(n <= uint64(most) && n <= uint64(len(r.rest))) // each has at least one byte
	var l []T
	for range n {
		l = append(l, one())
	}
	return l
}

// Get returns the command with these bytes.
func Get(b string) (c api.Command, e api.Errno) {
	defer func() {
		if recover() != nil {
			c, e = api.Command{}, api.ErrForm
		}
	}()
	r := &reader{b}
	do := r.number()
	r.want(do <= 255)
	c = api.Command{
		Do: uint8(do), Id: r.number(), Customer: r.number(), Plan: r.number(),
		Day: r.int(), Month: r.int(), At: r.int(), Amount: r.integer(),
		Text: take(r, tally.TakeText), Numbers: takeList(r, api.MaxNumbers, r.integer), Now: r.flag(),
	}
	r.want(len(c.Text) <= api.MaxText && r.rest == "")
	return c, api.OK
}

// Read returns the reply with these bytes.
func Read(b string) (x api.Reply, e api.Errno) {
	defer func() {
		if recover() != nil {
			x, e = api.Reply{}, api.ErrForm
		}
	}()
	r := &reader{b}
	x = api.Reply{
		E:       api.Errno(r.number()),
		Ids:     takeList(r, len(b), r.number),
		Amounts: takeList(r, len(b), r.integer),
		Notices: takeList(r, len(b), func() api.Notice {
			return api.Notice{Invoice: r.number(), Customer: r.number(), Stage: r.int(), Late: r.int(), Open: r.integer()}
		}),
		Rows: takeList(r, len(b), func() api.Balance {
			return api.Balance{Account: r.int(), Debit: r.integer(), Credit: r.integer()}
		}),
		Slices: takeList(r, len(b), func() api.Slice {
			return api.Slice{Month: r.int(), Amount: r.integer(), Done: r.flag()}
		}),
	}
	r.want(r.rest == "")
	return x, api.OK
}
