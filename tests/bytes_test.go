package tests

import (
	"bytes"
	"hash/crc32"
	"math"
	"strings"
	"testing"

	"loop.example/g00184/impl"
)

var (
	_ func([]byte, int) []byte              = impl.PutNum
	_ func([]byte, int) (int, int, bool)    = impl.GetNum
	_ func([]byte, string) []byte           = impl.PutText
	_ func([]byte, int) (string, int, bool) = impl.GetText
	_ func([]byte) int                      = impl.Sum
	_ func([]byte) []byte                   = impl.Frame
	_ func([]byte, int) ([]byte, int, bool) = impl.Unframe
)

// Both sides of each number of groups, and the ends.
var numberForms = []struct {
	n    int
	form string
}{
	{0, "\x00"}, {1, "\x01"}, {126, "\x7e"}, {127, "\x7f"},
	{128, "\x81\x00"}, {129, "\x81\x01"}, {255, "\x81\x7f"}, {256, "\x82\x00"}, {16383, "\xff\x7f"},
	{16384, "\x81\x80\x00"}, {16385, "\x81\x80\x01"}, {2097151, "\xff\xff\x7f"},
	{2097152, "\x81\x80\x80\x00"}, {268435455, "\xff\xff\xff\x7f"},
	{268435456, "\x81\x80\x80\x80\x00"}, {impl.MaxNum - 1, "\x83\xdc\xeb\x93\x7f"}, {impl.MaxNum, "\x83\xdc\xeb\x94\x00"},
}

var aheads = []string{"", "\x00", "\x80", "\xff\xff", "ahead"}

var behinds = []string{"", "\x00", "\x80", "\xff\xff\xff\xff\xff\xff", "behind"}

var bodies = []string{
	"", "\x00", "\xff", "a", "abc", "\x80\x00", "123456789", "silt\nstone", "\xc3\x28 no rune",
	strings.Repeat("x", 127), strings.Repeat("y", 128), strings.Repeat("z\x00", 9000),
}

func mustGetNum(t *testing.T, b []byte, at int, n int, next int) {
	t.Helper()
	if gotN, gotNext, ok := impl.GetNum(b, at); !ok || gotN != n || gotNext != next {
		t.Errorf("GetNum(%x, %d): %d %d %v, not %d %d true", b, at, gotN, gotNext, ok, n, next)
	}
}

func mustNotGetNum(t *testing.T, b []byte, at int) {
	t.Helper()
	if n, next, ok := impl.GetNum(b, at); ok || n != 0 || next != 0 {
		t.Errorf("GetNum(%x, %d): %d %d %v, not 0 0 false", b, at, n, next, ok)
	}
}

func mustNotGetText(t *testing.T, b []byte, at int) {
	t.Helper()
	if s, next, ok := impl.GetText(b, at); ok || s != "" || next != 0 {
		t.Errorf("GetText(%x, %d): %q %d %v, not nothing 0 false", b, at, s, next, ok)
	}
}

func mustNotUnframe(t *testing.T, b []byte, at int) {
	t.Helper()
	if body, next, ok := impl.Unframe(b, at); ok || len(body) != 0 || next != at {
		t.Errorf("Unframe(%x, %d): %x %d %v, not nothing, at and false", b, at, body, next, ok)
	}
}

func TestMaxNum(t *testing.T) {
	if impl.MaxNum != 1000000000 {
		t.Error(impl.MaxNum)
	}
}

func TestNumberForms(t *testing.T) {
	if len(impl.PutNum(nil, impl.MaxNum)) != 5 {
		t.Error("MaxNum")
	}
	for _, x := range numberForms {
		for _, ahead := range aheads {
			b := impl.PutNum([]byte(ahead), x.n)
			if string(b) != ahead+x.form {
				t.Errorf("PutNum(%x, %d): %x", ahead, x.n, b)
			}
			for _, behind := range behinds {
				mustGetNum(t, []byte(ahead+x.form+behind), len(ahead), x.n, len(ahead)+len(x.form))
			}
		}
	}
}

func TestNumberOutsideIsTheNearerEnd(t *testing.T) {
	for _, n := range []int{-1, -2, -128, -1 << 31, -1 << 40, math.MinInt + 1, math.MinInt} {
		if b := impl.PutNum([]byte{9}, n); string(b) != "\x09\x00" {
			t.Errorf("%d: %x", n, b)
		}
	}
	for _, n := range []int{impl.MaxNum + 1, 1 << 30, 1 << 32, 1 << 35, 1<<35 + 1, 1 << 40, math.MaxInt - 1, math.MaxInt} {
		if b := impl.PutNum([]byte{9}, n); string(b) != "\x09\x83\xdc\xeb\x94\x00" {
			t.Errorf("%d: %x", n, b)
		}
	}
}

func TestManyNumbersThereAndBack(t *testing.T) {
	for n := range 70000 {
		b := impl.PutNum(nil, n)
		mustGetNum(t, b, 0, n, len(b))
	}
	for n := 70000; n <= impl.MaxNum; n += 99991 {
		b := impl.PutNum([]byte{128}, n)
		mustGetNum(t, b, 1, n, len(b))
	}
}

func TestNumbersOneBehindTheOther(t *testing.T) {
	var b []byte
	for _, x := range numberForms {
		b = impl.PutNum(b, x.n)
	}
	at := 0
	for _, x := range numberForms {
		mustGetNum(t, b, at, x.n, at+len(x.form))
		at += len(x.form)
	}
	if at != len(b) {
		t.Error("more behind them", at, len(b))
	}
}

func TestNumbersRefused(t *testing.T) {
	for _, s := range []string{
		"", "\x81", "\xff", "\x81\x80", "\xff\xff\xff\xff", "\x83\xdc\xeb\x94", // not there whole
		"\x80", "\x80\x00", "\x80\x01", "\x80\x80\x00", "\x80\x81\x00", // a needless group
		"\x83\xdc\xeb\x94\x01", "\x84\x80\x80\x80\x00", "\x8f\xff\xff\xff\x7f", "\xff\xff\xff\xff\x7f", // above MaxNum
		"\x81\x80\x80\x80\x80\x00", "\x83\xdc\xeb\x94\x80\x00", "\xff\xff\xff\xff\xff\xff\xff\xff\xff\x7f",
		"\x82\x80\x80\x80\x80\x80\x80\x80\x80\x80\x00", // 2 to the 64: 0, if it went round
		"\x82\x80\x80\x80\x80\x80\x80\x80\x80\x80\x05",
		strings.Repeat("\x81", 40), strings.Repeat("\xff", 40) + "\x00",
	} {
		for _, ahead := range aheads {
			mustNotGetNum(t, []byte(ahead+s), len(ahead))
		}
	}
}

// What stands in bytes, told the long way: each group by itself, and no form but PutNum's.
func slowNum(b []byte) (int, int, bool) {
	for i, c := range b {
		if c < 128 && i < 9 {
			n := 0
			for _, g := range b[:i+1] {
				n = n*128 + int(g&127)
			}
			ok := n <= impl.MaxNum && bytes.Equal(impl.PutNum(nil, n), b[:i+1])
			return n, i + 1, ok
		}
	}
	return 0, 0, false
}

func TestNumbersOfAnyBytes(t *testing.T) {
	alphabet := []byte{0, 1, 127, 128, 129, 131, 148, 220, 235, 255}
	list := [][]byte{{}}
	for size := 0; size <= 5; size++ {
		var longer [][]byte
		for _, b := range list {
			if n, next, ok := slowNum(b); ok {
				mustGetNum(t, b, 0, n, next)
			} else {
				mustNotGetNum(t, b, 0)
			}
			for _, c := range alphabet {
				longer = append(longer, append(bytes.Clone(b), c))
			}
		}
		list = longer
	}
}

func TestPlacesThatAreNone(t *testing.T) {
	all := impl.Frame([]byte("abc"))
	all = append(all, impl.PutText(nil, "abc")...)
	for _, b := range [][]byte{nil, {}, {0}, {5}, {129, 0}, []byte("\x00\x00\x00\x00\x00"), all} {
		for _, at := range []int{
			math.MinInt, math.MinInt + 1, math.MinInt + 4, -1 << 32, -5, -4, -1,
			len(b), len(b) + 1, len(b) + 4, 1 << 32, math.MaxInt - 4, math.MaxInt - 3, math.MaxInt - 1, math.MaxInt,
		} {
			mustNotGetNum(t, b, at)
			mustNotGetText(t, b, at)
			mustNotUnframe(t, b, at)
		}
	}
}

func TestTexts(t *testing.T) {
	for _, s := range bodies {
		for _, ahead := range aheads {
			b := impl.PutText([]byte(ahead), s)
			if want := ahead + string(impl.PutNum(nil, len(s))) + s; string(b) != want {
				t.Errorf("PutText(%x, %q): %x", ahead, s, b)
			}
			for _, behind := range behinds {
				got, next, ok := impl.GetText([]byte(string(b)+behind), len(ahead))
				if !ok || got != s || next != len(b) {
					t.Errorf("GetText of %q: %q %d %v", s, got, next, ok)
				}
			}
		}
	}
	if b := impl.PutText([]byte{7}, ""); string(b) != "\x07\x00" {
		t.Errorf("empty: %x", b)
	}
}

func TestTextsRefused(t *testing.T) {
	for _, s := range bodies {
		b := impl.PutText([]byte{1}, s)
		for cut := 1; cut < len(b); cut += 1 + len(b)/300 {
			mustNotGetText(t, b[:cut], 1)
		}
		mustNotGetText(t, b[:len(b)-1], 1)
	}
	for _, s := range []string{"", "\x01", "\x04abc", "\x81\x00", "\x80", "\x80\x00", "\x80\x03abc", "\x81", "\x83\xdc\xeb\x94\x00abc", "\x83\xdc\xeb\x94\x01abc", "\xff\xff\xff\xff\xff\xff\xff\xff\x7fabc"} {
		mustNotGetText(t, []byte(s), 0)
	}
}

func TestTextsOneBehindTheOther(t *testing.T) {
	var b []byte
	for _, s := range bodies {
		b = impl.PutText(b, s)
	}
	at := 0
	for _, s := range bodies {
		got, next, ok := impl.GetText(b, at)
		if !ok || got != s {
			t.Fatalf("%q: %q %v", s, got, ok)
		}
		at = next
	}
	if at != len(b) {
		t.Error("more behind them", at, len(b))
	}
}

// The sum by the chapter's own words, a bit at a time.
func slowSum(b []byte) int {
	x := 1<<32 - 1
	for _, c := range b {
		x ^= int(c)
		for range 8 {
			odd := x%2 == 1
			x /= 2
			if odd {
				x ^= 2197175160
			}
		}
	}
	return x ^ (1<<32 - 1)
}

func TestSum(t *testing.T) {
	if impl.Sum(nil) != 0 || impl.Sum([]byte{}) != 0 {
		t.Error("of nothing")
	}
	if x := impl.Sum([]byte("123456789")); x != 0xe3069283 {
		t.Errorf("%x", x)
	}
	for c := range 256 {
		for _, b := range [][]byte{{byte(c)}, {byte(c), 0}, {0, byte(c)}, {255, byte(c), byte(c)}} {
			if x := impl.Sum(b); x != slowSum(b) {
				t.Errorf("%x: %x, not %x", b, x, slowSum(b))
			}
		}
	}
	table := crc32.MakeTable(crc32.Castagnoli)
	for _, s := range bodies {
		x := impl.Sum([]byte(s))
		if x != slowSum([]byte(s)) || x != int(crc32.Checksum([]byte(s), table)) {
			t.Errorf("%q: %x", s, x)
		}
	}
}

func slowFrame(body string) string {
	x := slowSum([]byte(body))
	sum := []byte{byte(x / 16777216), byte(x / 65536 % 256), byte(x / 256 % 256), byte(x % 256)}
	return string(impl.PutText(sum, body))
}

func TestFrames(t *testing.T) {
	if f := impl.Frame(nil); string(f) != "\x00\x00\x00\x00\x00" {
		t.Errorf("of nothing: %x", f)
	}
	for _, body := range bodies {
		f := impl.Frame([]byte(body))
		if string(f) != slowFrame(body) {
			t.Errorf("Frame(%q): %x", body, f)
		}
		for _, ahead := range aheads {
			for _, behind := range behinds {
				b := []byte(ahead + string(f) + behind)
				got, next, ok := impl.Unframe(b, len(ahead))
				if !ok || string(got) != body || next != len(ahead)+len(f) {
					t.Errorf("Unframe of %q: %q %d %v", body, got, next, ok)
				}
			}
		}
	}
}

func TestFramesOneBehindTheOther(t *testing.T) {
	var b []byte
	for _, body := range bodies {
		b = append(b, impl.Frame([]byte(body))...)
	}
	at := 0
	for _, body := range bodies {
		got, next, ok := impl.Unframe(b, at)
		if !ok || string(got) != body {
			t.Fatalf("%q: %q %v", body, got, ok)
		}
		at = next
	}
	if at != len(b) {
		t.Error("more behind them", at, len(b))
	}
	mustNotUnframe(t, b, at)
}

func TestFramesCutShort(t *testing.T) {
	for _, body := range bodies {
		f := append([]byte{3, 3}, impl.Frame([]byte(body))...)
		for cut := 2; cut < len(f); cut += 1 + len(f)/300 {
			mustNotUnframe(t, f[:cut], 2)
		}
		mustNotUnframe(t, f[:len(f)-1], 2)
	}
}

func TestFramesWithAWrongCount(t *testing.T) {
	for _, s := range []string{
		"\x00\x00\x00\x00\x80", "\x00\x00\x00\x00\x80\x00", "\x00\x00\x00\x00\x81", "\x00\x00\x00\x00\x01",
		"\x00\x00\x00\x00\x83\xdc\xeb\x94\x00", "\x00\x00\x00\x00\x83\xdc\xeb\x94\x01",
		"\x00\x00\x00\x00\xff\xff\xff\xff\xff\xff\xff\xff\x7f",
		"\xe3\x06\x92\x83\x80\x09123456789", "\xe3\x06\x92\x83\x0a123456789", "\xe3\x06\x92\x83\x08123456789",
	} {
		mustNotUnframe(t, []byte(s), 0)
		mustNotUnframe(t, []byte("\x00"+s), 1)
	}
}

func TestEachTurnedBitIsTold(t *testing.T) {
	for _, body := range bodies {
		if len(body) > 1000 {
			continue
		}
		f := append([]byte("at"), impl.Frame([]byte(body))...)
		start := 2 + 4 + len(impl.PutNum(nil, len(body)))
		f = append(f, "more"...)
		for i := 2; i < start+len(body); i++ {
			if i >= 6 && i < start {
				continue
			}
			for bit := range 8 {
				f[i] ^= 1 << bit
				mustNotUnframe(t, f, 2)
				f[i] ^= 1 << bit
			}
		}
		if _, _, ok := impl.Unframe(f, 2); !ok {
			t.Errorf("%q is none, with all its bits", body)
		}
	}
}

func TestWhatLiesBehindTheLengthIsNotRead(t *testing.T) {
	f := impl.Frame([]byte("abc"))
	for cut := range f {
		mustNotUnframe(t, f[:cut], 0)
	}
	text := impl.PutText(nil, "abc")
	for cut := range text {
		mustNotGetText(t, text[:cut], 0)
	}
	n := impl.PutNum(nil, impl.MaxNum)
	for cut := range n {
		mustNotGetNum(t, n[:cut], 0)
	}
}

func TestMemoryOfBytes(t *testing.T) {
	for _, s := range bodies {
		b := []byte(s)
		for _, n := range []int{-1, 0, 128, impl.MaxNum, math.MaxInt} {
			checkOwnMemory(t, "PutNum", b, func(b []byte) []byte { return impl.PutNum(b, n) })
		}
		checkOwnMemory(t, "PutText, empty", b, func(b []byte) []byte { return impl.PutText(b, "") })
		checkOwnMemory(t, "PutText", b, func(b []byte) []byte { return impl.PutText(b, "abc") })
		checkOwnMemory(t, "Frame", b, impl.Frame)
		checkOwnMemory(t, "Sum", b, func(b []byte) []byte { impl.Sum(b); return nil })
		checkOwnMemory(t, "GetNum", impl.PutNum(b, 300), func(x []byte) []byte {
			impl.GetNum(x, len(s))
			return nil
		})
		checkOwnMemory(t, "Unframe", impl.Frame(b), func(x []byte) []byte {
			body, _, _ := impl.Unframe(x, 0)
			return body
		})
		checkOwnMemory(t, "Unframe, refused", append(impl.Frame(b), 1), func(x []byte) []byte {
			body, _, _ := impl.Unframe(x, 1)
			return body
		})
	}
}

func TestTextIsNotKeptWithItsBytes(t *testing.T) {
	for _, s := range bodies {
		b := roomy(impl.PutText(nil, s))
		before := bytes.Clone(whole(b))
		got, _, _ := impl.GetText(b, 0)
		if !bytes.Equal(whole(b), before) {
			t.Errorf("wrote into %q", s)
		}
		clear(whole(b))
		if got != s {
			t.Errorf("%q changed with its bytes", s)
		}
	}
}

func TestTwoAnswersShareNothing(t *testing.T) {
	b := roomy([]byte("b"))
	n1, n2 := impl.PutNum(b, 1), impl.PutNum(b, 2)
	t1, t2 := impl.PutText(b, "x"), impl.PutText(b, "y")
	if string(n1) != "b\x01" || string(n2) != "b\x02" || string(t1) != "b\x01x" || string(t2) != "b\x01y" {
		t.Errorf("%x %x %x %x", n1, n2, t1, t2)
	}
	f := impl.Frame([]byte("body"))
	first, _, _ := impl.Unframe(f, 0)
	second, _, _ := impl.Unframe(f, 0)
	first[0] = 'x'
	if string(second) != "body" {
		t.Errorf("%q", second)
	}
}

func FuzzBytes(f *testing.F) {
	f.Add([]byte("\x83\xdc\xeb\x94\x00"), 0, "abc")
	f.Add(impl.Frame([]byte("abc")), 0, "")
	f.Fuzz(func(t *testing.T, b []byte, at int, s string) {
		if n, next, ok := impl.GetNum(b, at); ok && !bytes.Equal(impl.PutNum(b[:at], n), b[:next]) {
			t.Error("number", n, next)
		}
		if x, next, ok := impl.GetText(b, at); ok && !bytes.Equal(impl.PutText(b[:at], x), b[:next]) {
			t.Error("text", x, next)
		}
		if body, next, ok := impl.Unframe(b, at); ok && string(b[at:next]) != slowFrame(string(body)) || !ok && next != at {
			t.Error("frame", body, next)
		}
		if x, next, ok := impl.GetText(impl.PutText(b, s), len(b)); !ok || x != s || next <= len(b) {
			t.Error("text back", x, next)
		}
		if body, _, ok := impl.Unframe(append(bytes.Clone(b), impl.Frame([]byte(s))...), len(b)); !ok || string(body) != s {
			t.Error("frame back", body)
		}
	})
}
