package engine

import (
	"maps"
	"slices"
	"strings"

	"quittance/api"
	"quittance/stage"
	"quittance/store"
)

// record is a document in a table, without its number: numbers, and then texts.
type record struct {
	numbers []uint64
	texts   []string
}

// form is how documents of one kind are in their table. One made of a record may
// be none: it is checked, and its record held against the one it was made of.
type form[T any] struct {
	name  string
	put   func(T) record
	get   func(number uint64, r record) T
	valid func(T) bool
	// dense: the numbers are given from 1 on, and none is ever free again.
	dense bool
}

// fields returns a document's record with its number, as fields.
func (f form[T]) fields(number uint64, doc T) []api.Field {
	r := f.put(doc)
	l := []api.Field{{N: number}}
	for _, n := range r.numbers {
		l = append(l, api.Field{N: n})
	}
	for _, s := range r.texts {
		l = append(l, api.Field{S: s})
	}
	return l
}

// read returns the document of which these are the fields, and its number.
func (f form[T]) read(l []api.Field) (number uint64, doc T, is bool) {
	var none T
	many := len(f.put(none).numbers)
	r := record{}
	for i, x := range l[1:] {
		if i < many {
			r.numbers = append(r.numbers, x.N)
		} else {
			r.texts = append(r.texts, x.S)
		}
	}
	number = l[0].N
	doc = f.get(number, r)
	return number, doc, f.valid(doc) && slices.Equal(f.fields(number, doc), l)
}

// change is what a command does to a document: there is another one, or none.
type change[T any] struct {
	doc  T
	gone bool
}

// shelf is documents of one kind, by their numbers. What a command changes is
// kept apart until it is committed.
type shelf[T any] struct {
	form    form[T]
	kept    map[uint64]T
	changed map[uint64]change[T]
}

func newShelf[T any](f form[T]) *shelf[T] {
	return &shelf[T]{form: f, kept: map[uint64]T{}, changed: map[uint64]change[T]{}}
}

func (s *shelf[T]) get(number uint64) (T, bool) {
	if c, is := s.changed[number]; is {
		return c.doc, !c.gone
	}
	doc, is := s.kept[number]
	return doc, is
}

func (s *shelf[T]) has(number uint64) bool {
	_, is := s.get(number)
	return is
}

func (s *shelf[T]) put(number uint64, doc T) { s.changed[number] = change[T]{doc: doc} }

func (s *shelf[T]) drop(number uint64) { s.changed[number] = change[T]{gone: true} }

// numbers returns those of all documents, ascending.
func (s *shelf[T]) numbers() []uint64 {
	l := slices.Collect(maps.Keys(s.kept))
	for number, c := range s.changed {
		if _, is := s.kept[number]; !is && !c.gone {
			l = append(l, number)
		}
	}
	slices.Sort(l)
	return slices.DeleteFunc(l, func(number uint64) bool { return !s.has(number) })
}

// next returns the number that a new document gets.
func (s *shelf[T]) next() uint64 {
	number := uint64(len(s.kept)) + 1
	for s.has(number) {
		number++
	}
	return number
}

// some returns the documents that a function picks, by ascending numbers.
func (s *shelf[T]) some(pick func(T) bool) []T {
	var l []T
	for _, number := range s.numbers() {
		if doc, _ := s.get(number); pick(doc) {
			l = append(l, doc)
		}
	}
	return l
}

func (s *shelf[T]) all() []T { return s.some(func(T) bool { return true }) }

// copies returns all documents, made anew of their records: they share no memory
// with those of the shelf.
func (s *shelf[T]) copies() []T {
	var l []T
	for _, number := range s.numbers() {
		doc, _ := s.get(number)
		l = append(l, s.form.get(number, s.form.put(doc)))
	}
	return l
}

// fresh returns the documents that are changed or new, by ascending numbers.
func (s *shelf[T]) fresh() []T {
	var l []T
	for _, number := range slices.Sorted(maps.Keys(s.changed)) {
		if c := s.changed[number]; !c.gone {
			l = append(l, c.doc)
		}
	}
	return l
}

// schema returns that of the table.
func (s *shelf[T]) schema() api.Schema {
	var none T
	r := s.form.put(none)
	kinds := "n" + strings.Repeat("n", len(r.numbers)) + strings.Repeat("s", len(r.texts))
	return api.Schema{Name: s.form.name, Kinds: kinds, Key: 1}
}

// load fills the shelf from its table.
func (s *shelf[T]) load(x *store.Store, table int) bool {
	l, _ := x.All(table)
	for _, fields := range l {
		number, doc, is := s.form.read(fields)
		if !is {
			return false
		}
		s.kept[number] = doc
	}
	return !s.form.dense || len(l) == 0 || l[len(l)-1][0].N == uint64(len(l)) && !s.has(0)
}

// stage stages what is changed.
func (s *shelf[T]) stage(set *stage.Set, table int) api.Errno {
	for _, number := range slices.Sorted(maps.Keys(s.changed)) {
		e := api.OK
		if c := s.changed[number]; c.gone {
			e = set.Drop(table, []api.Field{{N: number}})
		} else {
			e = set.Put(table, s.form.fields(number, c.doc))
		}
		if e != api.OK {
			return e
		}
	}
	return api.OK
}

// keep makes what is changed part of the shelf.
func (s *shelf[T]) keep() {
	for number, c := range s.changed {
		if c.gone {
			delete(s.kept, number)
		} else {
			s.kept[number] = c.doc
		}
	}
	s.forget()
}

// forget forgets what is changed.
func (s *shelf[T]) forget() { clear(s.changed) }
