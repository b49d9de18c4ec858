// Package tally encodes numbers, strings and lists of strings as bytes, each
// in exactly one way, and takes them off the front of bytes again.
package tally

// most is the greatest number.
const most = 1<<64 - 1

// Num returns the bytes of a number.
func Num(n uint64) string { return string(addNum(nil, n)) }

// Int returns the bytes of an integer: those of a number that has the sign as
// its last bit, so that small integers of both signs are short.
func Int(n int64) string { return Num(uint64(n)<<1 ^ uint64(n>>63)) }

// Text returns the bytes of a string.
func Text(s string) string { return string(addText(nil, s)) }

// Row returns the bytes of a list of strings.
func Row(l []string) string {
	b := addNum(nil, uint64(len(l)))
	for _, s := range l {
		b = addText(b, s)
	}
	return string(b)
}

// Long returns how many bytes a number has.
func Long(n uint64) int {
	many := 1
	for n >>= 7; n > 0; n = (n - 1) >> 7 {
		many++
	}
	return many
}

func addNum(b []byte, n uint64) []byte {
	var l [10]byte
	i := len(l) - 1
	l[i] = byte(n & 0x7f)
	for n >>= 7; n > 0; n = (n - 1) >> 7 {
		i--
		l[i] = 0x80 | byte((n-1)&0x7f)
	}
	return append(b, l[i:]...)
}

func addText(b []byte, s string) []byte {
	return append(addNum(b, uint64(len(s))), s...)
}

// TakeNum takes a number off b.
func TakeNum(b string) (n uint64, rest string, is bool) {
bytes:
	for i := range len(b) {
		if n > most>>7 {
			break
		}
		n = n<<7 | uint64(b[i]&0x7f)
		switch {
		case b[i] < 0x80:
			return n, b[i+1:], true
		case n == most:
			break bytes
		}
		n++
	}
	return 0, "", false
}

// TakeInt takes an integer off b.
func TakeInt(b string) (n int64, rest string, is bool) {
	m, rest, is := TakeNum(b)
	return int64(m>>1) ^ -int64(m&1), rest, is
}

// TakeText takes a string off b.
func TakeText(b string) (s, rest string, is bool) {
	n, rest, is := TakeNum(b)
	if !is || n > uint64(len(rest)) {
		return "", "", false
	}
	return rest[:n], rest[n:], true
}

// TakeRow takes a list of strings off b.
func TakeRow(b string) (l []string, rest string, is bool) {
	n, rest, is := TakeNum(b)
	if !is {
		return nil, "", false
	}
	return takeMany(rest, n, TakeText)
}

// takeMany takes n things off b, one after the other. A thing has at least one
// byte: a number of things that is too great is refused ahead of any work.
func takeMany[T any](b string, n uint64, take func(string) (T, string, bool)) ([]T, string, bool) {
	if n > uint64(len(b)) {
		return nil, "", false
	}
	var l []T
	for range n {
		x, rest, is := take(b)
		if !is {
			return nil, "", false
		}
		l, b = append(l, x), rest
	}
	return l, b, true
}
