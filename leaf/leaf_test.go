package leaf

import (
	"strings"
	"testing"

	"quittance/api"
)

const zeros = "\x00\x00\x00\x00\x00\x00"

func put(t *testing.T, stamp uint64, s string) string {
	t.Helper()
	b, e := Put(stamp, s)
	if e != api.OK || len(b) != api.SectorSize {
		t.Fatal(e, len(b))
	}
	return b
}

func TestP2_1(t *testing.T) {
	b := put(t, 258, "ab")
	if b != zeros+"\x01\x02ab"+strings.Repeat("\x00", 46)+"\x02\x01"+zeros {
		t.Errorf("% x", b)
	}
	stamp, s, is := Get(b)
	if stamp != 258 || s != "ab"+strings.Repeat("\x00", 46) || !is {
		t.Errorf("%d %q %v", stamp, s, is)
	}
	full := strings.Repeat("z", api.LeafBytes)
	if stamp, s, is := Get(put(t, 1<<64-1, full)); stamp != 1<<64-1 || s != full || !is {
		t.Error(stamp, s, is)
	}
	for _, x := range []struct {
		stamp uint64
		s     string
		e     api.Errno
	}{{0, "a", api.ErrArg}, {0, full + "z", api.ErrArg}, {1, full + "z", api.ErrLong}} {
		if b, e := Put(x.stamp, x.s); b != "" || e != x.e {
			t.Errorf("%d, %d bytes: %q %d", x.stamp, len(x.s), b, e)
		}
	}
	for _, x := range []string{"", b[:63], b + "\x00", strings.Repeat("\x00", 64), b[:63] + "\x01"} {
		if stamp, s, is := Get(x); stamp != 0 || s != "" || is {
			t.Errorf("% x: %d %q", x, stamp, s)
		}
	}
}

func TestP2_2(t *testing.T) {
	b := put(t, 258, "ab")
	for _, x := range []struct {
		b          string
		head, foot uint64
	}{
		{b, 258, 258}, {b[:8] + strings.Repeat("\x00", 56), 258, 0},
		{strings.Repeat("\x00", 56) + "\x01\x02" + zeros, 0, 513},
		{put(t, 1<<63+5, ""), 1<<63 + 5, 1<<63 + 5},
		{b[:63], 0, 0}, {b + "x", 0, 0}, {"", 0, 0},
	} {
		if head, foot := Ends(x.b); head != x.head || foot != x.foot {
			t.Errorf("% x: %d %d", x.b, head, foot)
		}
	}
}

// TestP2_3 writes all prefixes of a leaf over all prefixes of another one.
func TestP2_3(t *testing.T) {
	stamps := []uint64{1, 2, 255, 256, 257, 511, 512, 1 << 16, 1<<16 + 255, 1 << 40, 1<<40 + 1<<8, 1<<64 - 1}
	for _, first := range stamps {
		for _, second := range stamps {
			checkOver(t, put(t, first, "old"), put(t, second, "newer"))
		}
	}
}

func checkOver(t *testing.T, first, second string) {
	t.Helper()
	for i := range api.SectorSize + 1 {
		b := first[:i] + strings.Repeat("\x00", api.SectorSize-i)
		last := first
		if i < 8 {
			last = ""
		}
		head, _ := Ends(b)
		if stamp, _, _ := Get(second); stamp <= head {
			continue
		}
		for k := range api.SectorSize + 1 {
			now := second[:k] + b[k:]
			if k >= 8 {
				last = second
			}
			newHead, foot := Ends(now)
			if newHead < head || newHead < foot {
				t.Fatalf("%d, %d bytes: head %d, was %d, foot %d", i, k, newHead, head, foot)
			}
			if _, _, is := Get(now); is && now != last {
				t.Fatalf("%d, %d bytes: % x is a leaf", i, k, now)
			}
		}
	}
}

func TestP2_4(t *testing.T) {
	b := []byte(put(t, 0x0102030405060708, "content"))
	for i := range b {
		if i >= 8 && i < 56 {
			continue
		}
		for x := 1; x < 256; x++ {
			b[i] ^= byte(x)
			if _, _, is := Get(string(b)); is {
				t.Errorf("byte %d, changed by %x", i, x)
			}
			b[i] ^= byte(x)
		}
	}
	stamp, s, _ := Get(string(b))
	if put(t, stamp, s) != string(b) {
		t.Error("another leaf")
	}
}
