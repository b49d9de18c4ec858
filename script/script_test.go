package script

import (
	"math/rand"
	"reflect"
	"slices"
	"strings"
	"testing"

	"quittance/api"
	"quittance/drive"
	"quittance/engine"
	"quittance/tally"
	"quittance/wal"
)

func disk(t *testing.T, sectors int) *drive.Drive {
	t.Helper()
	d, e := drive.New(sectors)
	if e != api.OK {
		t.Fatal(e)
	}
	return d
}

func open(t *testing.T, d *drive.Drive) *Script {
	t.Helper()
	s, e := Open(d)
	if s == nil || e != api.OK {
		t.Fatal(e)
	}
	return s
}

func put(t *testing.T, c api.Command) string {
	t.Helper()
	b, e := Put(c)
	if e != api.OK {
		t.Fatal(c, e)
	}
	return b
}

const ada = "\x04\x07\x00\x00\x00\x00\x00\x00\x03\x41\x64\x61\x00\x00"

func adaCommand() api.Command { return api.Command{Do: 4, Id: 7, Text: "Ada"} }

// full is a command with something everywhere.
func full() api.Command {
	return api.Command{Do: 255, Id: 1<<64 - 1, Customer: 128, Plan: 1, Day: -1 << 63, Month: 1<<63 - 1, At: -1, Amount: 64, Text: strings.Repeat("\xff", 1000), Numbers: []int64{0, -1, 1<<63 - 1}, Now: true}
}

func TestP31_1(t *testing.T) {
	if b := put(t, adaCommand()); b != ada {
		t.Errorf("% x", b)
	}
	long := api.Command{Numbers: make([]int64, 200)}
	for _, c := range []api.Command{adaCommand(), {}, full(), long, {Now: true}} {
		if got, e := Get(put(t, c)); !reflect.DeepEqual(got, c) || e != api.OK {
			t.Error(got, e)
		}
	}
	for _, c := range []api.Command{{Text: strings.Repeat("x", 1001)}, {Numbers: make([]int64, 201)}} {
		if b, e := Put(c); b != "" || e != api.ErrArg {
			t.Error(b, e)
		}
	}
	eight := strings.Repeat("\x00", 7)
	for what, b := range map[string]string{
		"empty": "", "do 256": "\x81\x00" + eight + "\x00\x00\x00", "flag 2": ada[:len(ada)-1] + "\x02", "behind": ada + "\x00", "text": ada[:8] + "\x04Ada\x00\x00",
		"long text": "\x04" + eight + tally.Text(strings.Repeat("x", 1001)) + "\x00\x00", "many numbers": "\x04" + eight + "\x00" + tally.Num(201) + strings.Repeat("\x00", 201) + "\x00",
		"too many": "\x04" + eight + "\x00" + tally.Num(1<<63) + "\x00", "number": "\x04" + strings.Repeat("\xff", 20),
	} {
		if c, e := Get(b); !reflect.DeepEqual(c, api.Command{}) || e != api.ErrForm {
			t.Error(what, c, e)
		}
	}
}

func reply() api.Reply {
	return api.Reply{
		E: 7, Ids: []uint64{1, 1<<64 - 1}, Amounts: []int64{-1, 2}, Notices: []api.Notice{{Invoice: 1, Customer: 2, Stage: 3, Late: 4, Open: 5}, {Stage: -1, Late: -1 << 63, Open: -5}},
		Rows: []api.Balance{{Account: 1100, Debit: 5}, {Account: -1, Credit: -5}}, Slices: []api.Slice{{Month: 5, Amount: 6, Done: true}, {Month: -1, Amount: -6}},
	}
}

func TestP31_2(t *testing.T) {
	for _, x := range []struct {
		r api.Reply
		b string
	}{
		{api.Reply{E: api.ErrNone}, "\x07\x00\x00\x00\x00\x00"}, {api.Reply{Ids: []uint64{1}, Amounts: []int64{-1, 2}}, "\x00\x01\x01\x02\x01\x04\x00\x00\x00"}, {api.Reply{E: api.ErrDone}, "\x81\x22\x00\x00\x00\x00\x00"},
		{api.Reply{Notices: []api.Notice{{Invoice: 1, Customer: 2, Stage: 3, Late: 4, Open: -5}}, Slices: []api.Slice{{Month: 5, Amount: 6, Done: true}}}, "\x00\x00\x00\x01\x01\x02\x06\x08\x09\x00\x01\x0a\x0c\x01"},
		{api.Reply{Rows: []api.Balance{{Account: 1, Debit: 2}, {Account: 3, Credit: 4}}}, "\x00\x00\x00\x00\x02\x02\x04\x00\x06\x00\x08\x00"},
	} {
		if b := Answer(x.r); b != x.b {
			t.Errorf("% x, wanted % x", b, x.b)
		}
		if r, e := Read(x.b); !reflect.DeepEqual(r, x.r) || e != api.OK {
			t.Error(r, e)
		}
	}
	b := Answer(reply())
	if r, e := Read(b); !reflect.DeepEqual(r, reply()) || e != api.OK {
		t.Error(r, e)
	}
	if r, e := Read(Answer(api.Reply{E: -1})); r.E != -1 || e != api.OK {
		t.Error(r, e)
	}
	for _, b := range []string{"", "\x00", "\x00\x00\x00\x00\x00", b + "\x00", b[:len(b)-1] + "\x02", "\x00" + tally.Num(1<<63) + "\x00\x00\x00\x00", "\x00\x01\x00\x00\x00\x00"} {
		if r, e := Read(b); !reflect.DeepEqual(r, api.Reply{}) || e != api.ErrForm {
			t.Errorf("% x: %v %d", b, r, e)
		}
	}
}

func TestP31_3(t *testing.T) {
	for _, d := range []*drive.Drive{nil, {}} {
		if s, e := Open(d); s != nil || e != api.ErrNil {
			t.Error(e)
		}
	}
	d := disk(t, 64)
	w, _ := wal.Open(d)
	w.Commit([]string{"no ledger"})
	if s, e := Open(d); s != nil || e != api.ErrForm {
		t.Error(e)
	}
	s := open(t, disk(t, 64))
	for _, x := range [][2]string{{"", "\x05\x00\x00\x00\x00\x00"}, {ada + "\x00", "\x05\x00\x00\x00\x00\x00"}, {ada, "\x00\x00\x00\x00\x00\x00"}, {ada, "\x08\x00\x00\x00\x00\x00"}} {
		if b := s.Do(x[0]); b != x[1] {
			t.Errorf("% x: % x", x[0], b)
		}
	}
	if l := s.Ledger(); !slices.Equal(l.Customers, []api.Customer{{Id: 7, Name: "Ada"}}) {
		t.Error(l)
	}
	for _, s := range []*Script{nil, {}} {
		answer, e := s.Act(api.Act{Raw: ada, Fails: true})
		if b := s.Do(ada); b != "\x01\x00\x00\x00\x00\x00" || answer != "" || e != api.ErrNil || !reflect.DeepEqual(s.Ledger(), api.Ledger{}) {
			t.Errorf("% x %q %d", b, answer, e)
		}
	}
}

func TestP31_4(t *testing.T) {
	d := disk(t, 64)
	s := open(t, d)
	bob := put(t, api.Command{Do: 4, Id: 8, Text: "Bob"})
	ok, there, down := Answer(api.Reply{}), Answer(api.Reply{E: api.ErrThere}), Answer(api.Reply{E: api.ErrDown})
	for i, x := range []struct {
		a      api.Act
		answer string
		many   int
	}{
		{api.Act{Raw: ada}, ok, 1}, {api.Act{Raw: bob, Fuse: 1}, down, 1}, {api.Act{Raw: bob, Fuse: 2, C: api.Crash{Torn: -1}}, down, 1}, {api.Act{Raw: ada, Fuse: -5}, there, 1},
		{api.Act{Raw: bob, Fuse: 2, C: api.Crash{Keep: 1<<64 - 1, Torn: -1}}, down, 2}, {api.Act{Raw: bob, Fuse: 1}, there, 2}, {api.Act{Raw: "", Fails: true, Fuse: 1}, Answer(api.Reply{E: api.ErrForm}), 2},
		{api.Act{Raw: put(t, api.Command{Do: 4, Id: 9, Text: "C"}), Fuse: 3}, ok, 3}, {api.Act{Raw: put(t, api.Command{Do: 30}), Fails: true}, ok, 3},
	} {
		answer, e := s.Act(x.a)
		if answer != x.answer || e != api.OK || len(s.Ledger().Customers) != x.many {
			t.Errorf("%d: % x %d, %v", i, answer, e, s.Ledger().Customers)
		}
	}
	d.Fuse(0) // it does not outlast an act
	if answer, _ := s.Act(api.Act{Raw: put(t, api.Command{Do: 4, Id: 10, Text: "D"})}); answer != ok {
		t.Errorf("% x", answer)
	}
}

func TestP31_4Form(t *testing.T) {
	d := disk(t, 64)
	s := open(t, d)
	if b := s.Do(ada); b != Answer(api.Reply{}) {
		t.Errorf("% x", b)
	}
	w, _ := wal.Open(d)
	w.Save([]string{"no ledger"})
	if answer, e := s.Act(api.Act{Raw: ada, Fails: true}); answer != "" || e != api.ErrForm {
		t.Error(answer, e)
	}
}

func TestP31_4Play(t *testing.T) {
	for _, d := range []*drive.Drive{nil, {}} {
		if l, e := Play(d, make([]api.Act, 10001)); len(l) != 0 || e != api.ErrNil {
			t.Error(e)
		}
	}
	d := disk(t, 64)
	if l, e := Play(d, make([]api.Act, 10001)); len(l) != 0 || e != api.ErrLong {
		t.Error(e)
	}
	if l, e := Play(d, make([]api.Act, 10000)); len(l) != 10000 || e != api.OK {
		t.Error(len(l), e)
	}
	l, e := Play(d, []api.Act{{Raw: ada}, {Raw: ada, Fails: true}})
	if !slices.Equal(l, []string{Answer(api.Reply{}), Answer(api.Reply{E: api.ErrThere})}) || e != api.OK {
		t.Error(l, e)
	}
	w, _ := wal.Open(d)
	w.Save([]string{"no ledger"})
	if l, e := Play(d, nil); len(l) != 0 || e != api.ErrForm {
		t.Error(l, e)
	}
}

func TestP31_5(t *testing.T) {
	r := rand.New(rand.NewSource(54))
	commands := []string{ada, put(t, full()), put(t, api.Command{Do: 13, Numbers: []int64{1, 2}})}
	replies := []string{Answer(api.Reply{}), Answer(reply())}
	for range 20000 {
		b := []byte(commands[r.Intn(len(commands))])
		b[r.Intn(len(b))] = byte(r.Intn(256))
		if c, e := Get(string(b)); e == api.OK {
			if again, e := Put(c); again != string(b) || e != api.OK {
				t.Fatalf("% x", b)
			}
		}
		b = []byte(replies[r.Intn(len(replies))])
		b[r.Intn(len(b))] = byte(r.Intn(256))
		if x, e := Read(string(b)); e == api.OK && Answer(x) != string(b) {
			t.Fatalf("% x", b)
		}
	}
	for _, b := range append(replies, Answer(api.Reply{E: 1 << 40, Ids: []uint64{300}})) {
		for i := range len(b) {
			if _, e := Read(b[:i]); e != api.ErrForm {
				t.Errorf("% x", b[:i])
			}
		}
	}
}

// some returns an act: a command of few numbers, at times a broken one, and
// failures.
func some(t *testing.T, r *rand.Rand) api.Act {
	few := func() uint64 { return uint64(1 + r.Intn(3)) }
	c := api.Command{Do: []uint8{1, 4, 5, 6, 6, 6, 7, 8, 9, 9, 12, 14, 15, 17, 18, 24, 30}[r.Intn(17)], Id: few(), Customer: few(), Plan: few(), Day: 1 + r.Intn(200), Month: 1 + r.Intn(9), At: 1 + r.Intn(2), Amount: r.Int63n(900), Text: "x", Numbers: []int64{1, 2}}
	a := api.Act{Raw: put(t, c), Fails: r.Intn(8) == 0, C: api.Crash{Keep: r.Uint64(), Torn: r.Intn(8) - 1, At: r.Intn(65)}}
	if r.Intn(3) == 0 {
		a.Fuse = 1 + r.Intn(12)
	}
	if r.Intn(9) == 0 {
		a.Raw = a.Raw[:r.Intn(len(a.Raw))]
	}
	return a
}

// TestP31_6 plays scripts with failures; beside them there is an engine that never
// fails.
func TestP31_6(t *testing.T) {
	r := rand.New(rand.NewSource(55))
	for range 20 {
		s := open(t, disk(t, 512))
		safe := disk(t, 4096)
		twin, _ := engine.Open(safe)
		for range 120 {
			a := some(t, r)
			answer, e := s.Act(a)
			got, e2 := Read(answer)
			if e != api.OK || e2 != api.OK {
				t.Fatal(e, e2)
			}
			c, e := Get(a.Raw)
			switch {
			case e != api.OK:
				if answer != Answer(api.Reply{E: api.ErrForm}) {
					t.Fatalf("% x", answer)
				}
			case got.E == api.ErrDown:
				if !reflect.DeepEqual(s.Ledger(), twin.Ledger()) {
					twin.Do(c)
				}
			case got.E != api.ErrFull:
				if want := Answer(twin.Do(c)); answer != want {
					t.Fatalf("%+v: % x, wanted % x", c, answer, want)
				}
			}
			if !reflect.DeepEqual(s.Ledger(), twin.Ledger()) {
				t.Fatal("another ledger")
			}
		}
	}
}
