package tests

import (
	"bytes"
	"fmt"
	"math/rand"
	"slices"
	"strings"
	"testing"

	"loop.example/g00184/impl"
)

var (
	_ func(string) (int, int)               = impl.Mark
	_ func([]string) []byte                 = impl.Filter
	_ func([]byte, string) bool             = impl.MayHave
	_ func([]impl.Pair) []byte              = impl.PutTable
	_ func([]byte, string) (impl.Pair, int) = impl.TableGet
	_ func([]byte) ([]impl.Pair, bool)      = impl.TablePairs
)

var long = strings.Repeat("x", 20)

// tableLists are right lists: of one pair, of whole blocks, of one more, of keys
// that have much, all or nothing in common, of odd bytes, of what is Gone.
func tableLists() map[string][]impl.Pair {
	out := map[string][]impl.Pair{
		"one pair":               pairs("a=1"),
		"one that is Gone":       pairs("a-"),
		"one without a value":    pairs("a="),
		"the longest":            {{Key: long, Val: long}},
		"three":                  pairs("a=1 b- c=3"),
		"one block":              pairs("a=1 b=2 c=3 d=4"),
		"a block and one":        pairs("a=1 b=2 c=3 d=4 e=5"),
		"seven":                  pairs("a=1 ab- abc=3 abcd=4 abcde=5 b- bc=7"),
		"two blocks":             pairs("a=1 ab=2 abc=3 abcd=4 abcde=5 b- bc=7 bcd="),
		"two blocks and one":     pairs("a=1 ab=2 abc=3 abcd=4 abcde=5 b- bc=7 bcd= x-"),
		"all Gone":               pairs("a- b- c- d- e- f-"),
		"in common over a block": pairs("key1=1 key2=2 key3=3 key4=4 key5=5 key6=6 key7=7 key8=8 key9=9"),
		"each a beginning":       pairs("k=1 ke=2 key=3 keys=4 keyst=5 keysto=6 keyston=7 keystone=8"),
		"long ones in common":    {{Key: long[:18] + "a"}, {Key: long[:18] + "aa"}, {Key: long[:18] + "ab", Val: long}, {Key: long[:18] + "b"}, {Key: long[:19], Gone: true}, {Key: long}},
		"the most":               manyPairs(impl.MaxTable),
		"one less than the most": manyPairs(impl.MaxTable - 1),
	}
	var odd []impl.Pair
	for i, key := range oddKeys {
		odd = append(odd, impl.Pair{Key: key, Val: strings.Repeat("\x00", i%21)})
	}
	out["odd keys"] = odd
	return out
}

func manyPairs(count int) []impl.Pair {
	var out []impl.Pair
	for i := range count {
		p := impl.Pair{Key: fmt.Sprintf("%05d", i*7), Gone: i%5 == 3}
		if !p.Gone {
			p.Val = strings.Repeat("v", i%21)
		}
		out = append(out, p)
	}
	return out
}

func fourOf(n int) string { return string([]byte{byte(n >> 24), byte(n >> 16), byte(n >> 8), byte(n)}) }

func num(n int) string { return string(impl.PutNum(nil, n)) }

func text(s string) string { return string(impl.PutText(nil, s)) }

// slowBits are the bits that are set in a filter of these keys, told as a set.
func slowBits(keys []string) map[int]bool {
	out := map[int]bool{}
	for _, key := range keys {
		x := slowSum([]byte(key))
		out[x&63] = true
		out[x>>6&63] = true
	}
	return out
}

func slowFilter(keys []string) string {
	bits := slowBits(keys)
	out := ""
	for place := range 8 {
		n := 0
		for bit := 7; bit >= 0; bit-- {
			n *= 2
			if bits[place*8+bit] {
				n++
			}
		}
		out += string([]byte{byte(n)})
	}
	return out
}

func keysIn(l []impl.Pair) []string {
	var out []string
	for _, p := range l {
		out = append(out, p.Key)
	}
	return out
}

// A built is a table of which each part can be chosen, right or not.
type built struct {
	bodies []string
	gap    string // behind each block
	lasts  []string
	places []int // where they are nil: where the blocks begin
	count  int   // less than 0: as many as there are
	filter string
	left   string // behind the filter
	behind string // behind the index
}

func (x built) bytes() []byte {
	out := ""
	var begins []int
	for _, body := range x.bodies {
		begins = append(begins, len(out))
		out += slowFrame(body) + x.gap
	}
	if x.places == nil {
		x.places = begins
	}
	if x.count < 0 {
		x.count = len(x.lasts)
	}
	at := len(out)
	index := num(x.count)
	for i, last := range x.lasts {
		index += text(last) + num(x.places[i])
	}
	return []byte(out + slowFrame(index+x.filter+x.left) + x.behind + fourOf(at))
}

// entry is what a block has of a pair: as many bytes in common as told.
func entry(same int, rest string, gone string, val string) string {
	return num(same) + text(rest) + gone + text(val)
}

func slowBody(l []impl.Pair) string {
	out := ""
	ahead := ""
	for _, p := range l {
		same := 0
		for n := range len(ahead) + 1 {
			if strings.HasPrefix(p.Key, ahead[:n]) {
				same = n
			}
		}
		ahead = p.Key
		gone := "\x00"
		if p.Gone {
			gone = "\x01"
		}
		out += entry(same, p.Key[same:], gone, p.Val)
	}
	return out
}

// slowBuilt is the table of a right list, before it is put together; blocks
// are of so many pairs.
func slowBuilt(l []impl.Pair, most int) built {
	x := built{count: -1, filter: slowFilter(keysIn(l))}
	for len(l) > 0 {
		n := min(most, len(l))
		x.bodies = append(x.bodies, slowBody(l[:n]))
		x.lasts = append(x.lasts, l[n-1].Key)
		l = l[n:]
	}
	return x
}

// slowUnframe is the body of a whole frame at this place, and the place behind it.
func slowUnframe(b []byte, at int) (string, int, bool) {
	if at < 0 || at > len(b) {
		return "", 0, false
	}
	n, used, ok := slowNum(b[min(at+4, len(b)):])
	from := at + 4 + used
	if !ok || n > len(b)-from || slowFrame(string(b[from:from+n])) != string(b[at:from+n]) {
		return "", 0, false
	}
	return string(b[from : from+n]), from + n, true
}

// cutNum and cutText take what stands ahead off a body.
func cutNum(body *string) (int, bool) {
	n, used, ok := slowNum([]byte(*body))
	if ok {
		*body = (*body)[used:]
	}
	return n, ok
}

func cutText(body *string) (string, bool) {
	n, ok := cutNum(body)
	if !ok || n > len(*body) {
		return "", false
	}
	s := (*body)[:n]
	*body = (*body)[n:]
	return s, true
}

// slowIndex is what the last four bytes lead to: the last keys, the places, the filter.
func slowIndex(b []byte) ([]string, []int, []byte, bool) {
	if len(b) < 4 {
		return nil, nil, nil, false
	}
	l := b[len(b)-4:]
	body, end, ok := slowUnframe(b, int(l[0])*16777216+int(l[1])*65536+int(l[2])*256+int(l[3]))
	if !ok || end != len(b)-4 {
		return nil, nil, nil, false
	}
	count, ok := cutNum(&body)
	var lasts []string
	var places []int
	for ok && len(lasts) < count {
		var last string
		var at int
		if last, ok = cutText(&body); ok {
			at, ok = cutNum(&body)
		}
		lasts, places = append(lasts, last), append(places, at)
	}
	return lasts, places, []byte(body), ok && len(body) == 8
}

func slowBlock(b []byte, at int) ([]impl.Pair, bool) {
	body, _, ok := slowUnframe(b, at)
	var out []impl.Pair
	ahead := ""
	for ok && body != "" {
		var p impl.Pair
		var same int
		if same, ok = cutNum(&body); !ok || same > len(ahead) {
			return nil, false
		}
		if p.Key, ok = cutText(&body); !ok || body == "" || body[0] > 1 {
			return nil, false
		}
		p.Key = ahead[:same] + p.Key
		p.Gone = body[0] == 1
		body = body[1:]
		p.Val, ok = cutText(&body)
		out = append(out, p)
		ahead = p.Key
	}
	return out, ok
}

func slowGet(b []byte, key string) (impl.Pair, int) {
	lasts, places, filter, ok := slowIndex(b)
	if !ok {
		return impl.Pair{}, impl.TableBad
	}
	for bit := range slowBits([]string{key}) {
		if filter[bit/8]&(1<<(bit%8)) == 0 {
			return impl.Pair{}, impl.TableNone
		}
	}
	for i, last := range lasts {
		if slowLess(last, key) {
			continue
		}
		l, ok := slowBlock(b, places[i])
		if !ok {
			return impl.Pair{}, impl.TableBad
		}
		for _, p := range l {
			if p.Key == key {
				return p, impl.TableGood
			}
		}
		break
	}
	return impl.Pair{}, impl.TableNone
}

func mustGet(t *testing.T, what string, b []byte, key string, want impl.Pair, code int) {
	t.Helper()
	if p, c := impl.TableGet(b, key); p != want || c != code {
		t.Errorf("%s: TableGet of %q: %v %d, not %v %d", what, key, p, c, want, code)
	}
}

func mustGetAsTold(t *testing.T, what string, b []byte, keys ...string) {
	t.Helper()
	for _, key := range keys {
		want, code := slowGet(b, key)
		mustGet(t, what, b, key, want, code)
	}
}

func mustHavePairs(t *testing.T, what string, b []byte, want []impl.Pair) {
	t.Helper()
	if l, ok := impl.TablePairs(b); !ok || !slices.Equal(l, want) {
		t.Errorf("%s: TablePairs: %v %v, not %v", what, l, ok, want)
	}
}

func mustHaveNoPairs(t *testing.T, what string, b []byte) {
	t.Helper()
	if l, ok := impl.TablePairs(b); ok || len(l) != 0 {
		t.Errorf("%s: TablePairs: %v %v, not nothing and false", what, l, ok)
	}
}

// mustBeBad: whatever is asked for, it is told that this is no table.
func mustBeBad(t *testing.T, what string, b []byte, keys ...string) {
	t.Helper()
	for _, key := range append([]string{"", "a", "\xff"}, keys...) {
		mustGet(t, what, b, key, impl.Pair{}, impl.TableBad)
	}
	mustHaveNoPairs(t, what, b)
}

func TestTableConstants(t *testing.T) {
	if impl.MaxTable != 200 || impl.BlockPairs != 4 || impl.TableGood != 0 || impl.TableNone != 1 || impl.TableBad != 2 {
		t.Error(impl.MaxTable, impl.BlockPairs, impl.TableGood, impl.TableNone, impl.TableBad)
	}
}

func TestMarks(t *testing.T) {
	// Sum of nothing is 0, and of these digits 0xe3069283.
	for key, want := range map[string][2]int{"": {0, 0}, "123456789": {0x03, 0x0a}} {
		if a, b := impl.Mark(key); a != want[0] || b != want[1] {
			t.Errorf("Mark(%q): %d %d", key, a, b)
		}
	}
	first, second := map[int]bool{}, map[int]bool{}
	for i := range 3000 {
		key := fmt.Sprint("key ", i)
		x := slowSum([]byte(key))
		a, b := impl.Mark(key)
		if a != x-x/64*64 || b != x/64-x/4096*64 {
			t.Fatalf("Mark(%q): %d %d of %d", key, a, b, x)
		}
		first[a], second[b] = true, true
	}
	if len(first) != 64 || len(second) != 64 {
		t.Error("bits that never come", len(first), len(second))
	}
}

func TestFilters(t *testing.T) {
	var many []string
	for i := range 300 {
		many = append(many, fmt.Sprint(i))
	}
	for _, keys := range [][]string{
		nil, {}, {""}, {"a"}, {"123456789"}, {"a", "a"}, {"a", "b"}, {"b", "a"}, {"", "a", long, long + long}, oddKeys, oddKeys[:5], many[:3], many[:10], many[:20], many,
	} {
		f := impl.Filter(keys)
		if string(f) != slowFilter(keys) {
			t.Errorf("Filter(%q): %x, not %x", keys, f, slowFilter(keys))
		}
		for _, key := range keys {
			if !impl.MayHave(f, key) {
				t.Errorf("the filter of %q has not %q", keys, key)
			}
		}
	}
	if f := impl.Filter([]string{"123456789"}); string(f) != "\x08\x04\x00\x00\x00\x00\x00\x00" {
		t.Errorf("%x", f)
	}
}

func TestMayHave(t *testing.T) {
	for _, key := range append([]string{"", "123456789", long + long}, oddKeys...) {
		a, b := impl.Mark(key)
		for _, n := range []int{0, 1, 7, 9, 16, 64} {
			if !impl.MayHave(make([]byte, n), key) {
				t.Errorf("a filter of %d bytes has not %q", n, key)
			}
		}
		if impl.MayHave(make([]byte, 8), key) || !impl.MayHave(bytes.Repeat([]byte{255}, 8), key) {
			t.Errorf("%q: no bits, or all", key)
		}
		for bit := range 64 {
			one, but := make([]byte, 8), bytes.Repeat([]byte{255}, 8)
			one[bit/8] = 1 << (bit % 8)
			but[bit/8] ^= 1 << (bit % 8)
			if impl.MayHave(one, key) != (a == bit && b == bit) {
				t.Errorf("%q, of which the bits are %d and %d: %d alone", key, a, b, bit)
			}
			if impl.MayHave(but, key) != (a != bit && b != bit) {
				t.Errorf("%q, of which the bits are %d and %d: all but %d", key, a, b, bit)
			}
		}
	}
	if !impl.MayHave(nil, "a") {
		t.Error("no filter")
	}
}

func TestTablesByHand(t *testing.T) {
	first := "\x00\x01a\x00\x011" + "\x01\x01b\x01\x00" + "\x02\x01c\x00\x00" + "\x01\x01c\x00\x02xy"
	second := "\x00\x02ad\x00\x00" + "\x00\x01b\x01\x00"
	x := built{bodies: []string{first, second}, lasts: []string{"ac", "b"}, count: -1, filter: slowFilter([]string{"a", "ab", "abc", "ac", "ad", "b"})}
	l := pairs("a=1 ab- abc= ac=xy ad= b-")
	if got := impl.PutTable(l); !bytes.Equal(got, x.bytes()) {
		t.Errorf("%x, not %x", got, x.bytes())
	}
	one := slowFrame("\x00\x01a\x01\x00")
	index := "\x01\x01a\x00" + slowFilter([]string{"a"})
	if got := impl.PutTable(pairs("a-")); string(got) != one+slowFrame(index)+"\x00\x00\x00\x0a" {
		t.Errorf("%x", got)
	}
}

func TestTablesThereAndBack(t *testing.T) {
	for what, l := range tableLists() {
		b := impl.PutTable(l)
		if want := slowBuilt(l, impl.BlockPairs).bytes(); !bytes.Equal(b, want) {
			t.Errorf("%s: %x, not %x", what, b, want)
		}
		mustHavePairs(t, what, b, l)
		for _, p := range l {
			mustGet(t, what, b, p.Key, p, impl.TableGood)
		}
	}
}

// Of the keys that are not there some are told by the filter, others are not.
func TestNoOtherKeyIsFound(t *testing.T) {
	asked := []string{"", "\x00", "aa", "aab", "abcc", "b\x00", "bb", "key", "key10", "zz", "\xff\xff\xff", long[:19], long + "x", long + long}
	for i := range 2000 {
		asked = append(asked, fmt.Sprint(i), fmt.Sprintf("%05d", i))
	}
	for what, l := range tableLists() {
		b := impl.PutTable(l)
		passed := 0
		for _, p := range l {
			asked = append(asked, p.Key+"\x00", p.Key[:len(p.Key)-1], p.Key+"\xff")
		}
		for _, key := range append(asked, oddKeys...) {
			if slices.Contains(keysIn(l), key) {
				continue
			}
			mustGet(t, what, b, key, impl.Pair{}, impl.TableNone)
			if impl.MayHave(impl.Filter(keysIn(l)), key) {
				passed++
			}
		}
		if len(l) > 10 && passed == 0 {
			t.Error(what, "no other key goes past the filter")
		}
	}
}

// A full filter lets each key past, so that the blocks are asked.
func TestGetWithAFullFilter(t *testing.T) {
	for what, l := range tableLists() {
		x := slowBuilt(l, impl.BlockPairs)
		full := strings.Repeat("\xff", 8)
		own := x.filter == full
		x.filter = full
		b := x.bytes()
		for _, key := range append([]string{"", "\x00", "b\x00", "bb", "zz", long[:19] + "y", long + "x"}, oddKeys...) {
			mustGetAsTold(t, what, b, key)
		}
		for _, p := range l {
			mustGet(t, what, b, p.Key, p, impl.TableGood)
			mustGetAsTold(t, what, b, p.Key+"\x00", p.Key[:len(p.Key)-1])
		}
		if !own {
			mustHaveNoPairs(t, what, b)
		}
	}
}

func TestGetWithAnEmptyFilter(t *testing.T) {
	l := pairs("a=1 b=2 c=3 d=4 e=5")
	x := slowBuilt(l, impl.BlockPairs)
	x.filter = strings.Repeat("\x00", 8)
	for _, key := range []string{"a", "b", "e", "f"} {
		mustGet(t, "an empty filter", x.bytes(), key, impl.Pair{}, impl.TableNone)
	}
	mustHaveNoPairs(t, "an empty filter", x.bytes())
	// The filter is asked ahead of the block.
	x.bodies[0] = "no block"
	mustGet(t, "an empty filter, no block", x.bytes(), "a", impl.Pair{}, impl.TableNone)
}

func TestListsThatAreNoTable(t *testing.T) {
	wrong := map[string][]impl.Pair{
		"nil": nil, "none": {}, "descending": pairs("b=1 a=2"), "two alike": pairs("a=1 a=1"), "two alike, one Gone": pairs("a=1 a-"),
		"a longer one ahead": pairs("aa=1 a=2"), "out of order over a block": pairs("a=1 b=2 c=3 e=4 d=5"), "alike over a block": pairs("a=1 b=2 c=3 d=4 d=5"),
		"as runes, not as bytes": {{Key: "\xff"}, {Key: "\xf0\x9f\x98\x80"}}, "one too many": manyPairs(impl.MaxTable + 1), "many too many": manyPairs(1000),
	}
	for i, p := range wrongPairs {
		wrong[fmt.Sprint("wrong pair ", i)] = []impl.Pair{p}
		wrong[fmt.Sprint("wrong pair behind another ", i)] = append(pairs("0=1"), p)
		wrong[fmt.Sprint("wrong pair ahead of another ", i)] = append([]impl.Pair{p}, pairs("zz=1")...)
	}
	for why, l := range wrong {
		if b := impl.PutTable(l); len(b) != 0 {
			t.Errorf("%s: %x", why, b)
		}
	}
}

func TestMostPairs(t *testing.T) {
	l := manyPairs(impl.MaxTable)
	mustHavePairs(t, "the most", impl.PutTable(l), l)
	// What a table would be, if it could have one more.
	l = manyPairs(impl.MaxTable + 1)
	b := slowBuilt(l, impl.BlockPairs).bytes()
	mustHaveNoPairs(t, "one too many", b)
	mustGet(t, "one too many", b, l[200].Key, l[200], impl.TableGood)
}

func TestTablesCutShort(t *testing.T) {
	for what, l := range tableLists() {
		b := impl.PutTable(l)
		keys := []string{l[0].Key, l[len(l)-1].Key}
		for n := range len(b) {
			if len(b) > 500 && n%17 != 0 {
				continue
			}
			mustGetAsTold(t, fmt.Sprint(what, ", the first ", n), b[:n], keys...)
			mustHaveNoPairs(t, fmt.Sprint(what, ", the first ", n), b[:n])
			if n > 0 {
				mustGetAsTold(t, fmt.Sprint(what, ", all but the first ", n), b[n:], keys...)
				mustHaveNoPairs(t, fmt.Sprint(what, ", all but the first ", n), b[n:])
			}
		}
	}
	b := impl.PutTable(pairs("a=1 ab- b=22 c= d=5"))
	for n := range len(b) {
		mustBeBad(t, fmt.Sprint("the first ", n), b[:n], "d")
		if n > 0 {
			mustBeBad(t, fmt.Sprint("all but the first ", n), b[n:], "d")
		}
	}
}

func TestMoreBehindATable(t *testing.T) {
	b := string(impl.PutTable(pairs("a=1 ab- b=22 c= d=5")))
	for _, more := range []string{"\x00", "\x01", "\xff", "\x00\x00", "\x00\x00\x00\x00", "more", "\xff\xff\xff\xff", b[len(b)-4:], b, b + b[len(b)-4:]} {
		mustBeBad(t, fmt.Sprintf("%x behind it", more), []byte(b+more), "d")
	}
	for _, more := range []string{"\x00", "more", b} {
		mustBeBad(t, fmt.Sprintf("%x ahead of it", more), []byte(more+"."+b), "d")
	}
}

func TestNoBytes(t *testing.T) {
	for _, s := range []string{
		"", "\x00", "\x00\x00\x00", "\x00\x00\x00\x00", "\xff\xff\xff\xff", "\x00\x00\x00\x01", "\x00\x00\x00\x04", "no table at all", strings.Repeat("\x00", 100),
		slowFrame(""), slowFrame("") + fourOf(0), slowFrame("a") + fourOf(0), slowFrame("\x00") + fourOf(0), slowFrame("\x00"+strings.Repeat("\x00", 7)) + fourOf(0), slowFrame("\x00"+strings.Repeat("\x00", 9)) + fourOf(0),
		strings.Repeat("\xff", 100), strings.Repeat("\x80", 50),
	} {
		mustBeBad(t, fmt.Sprintf("%x", s), []byte(s), s)
	}
	mustBeBad(t, "nil", nil)
}

// An index of no blocks can be read; no block's last key is as great.
func TestAnIndexOfNoBlocks(t *testing.T) {
	for _, filter := range []string{strings.Repeat("\x00", 8), strings.Repeat("\xff", 8)} {
		b := built{count: -1, filter: filter}.bytes()
		for _, key := range []string{"", "a", long} {
			mustGet(t, "no blocks", b, key, impl.Pair{}, impl.TableNone)
		}
		mustHaveNoPairs(t, "no blocks", b)
	}
}

// A table that has within it, as a value, what is itself an index.
func TestTheLastFourBytes(t *testing.T) {
	within := slowFrame("\x01\x01a\x00" + strings.Repeat("\xff", 8))
	l := append(pairs("a=1 b=2 c=3"), impl.Pair{Key: "d", Val: within}, impl.Pair{Key: "e"})
	b := impl.PutTable(l)
	mustHavePairs(t, "as it is", b, l)
	begins := len(b) - 4
	right := int(b[begins])<<24 + int(b[begins+1])<<16 + int(b[begins+2])<<8 + int(b[begins+3])
	for at := range len(b) + 20 {
		if at != right {
			mustBeBad(t, fmt.Sprint("place ", at), append(slices.Clone(b[:begins]), fourOf(at)...), "d", "e")
		}
	}
	for _, at := range []int{right + 1<<8, right + 1<<16, right + 1<<24, right + 1<<31, 1<<31 - 1, 1 << 31, 1<<32 - 1, 1<<32 - right} {
		mustBeBad(t, fmt.Sprint("place ", at), append(slices.Clone(b[:begins]), fourOf(at)...), "d", "e")
	}
}

// A bit turned anywhere: TablePairs tells it; TableGet goes by what it reads.
func TestEachTurnedBitOfATable(t *testing.T) {
	for what, l := range tableLists() {
		b := impl.PutTable(l)
		if len(b) > 600 {
			continue
		}
		for bit := range 8 * len(b) {
			turned := slices.Clone(b)
			turned[bit/8] ^= 1 << (bit % 8)
			mustHaveNoPairs(t, fmt.Sprint(what, ", bit ", bit), turned)
			mustGetAsTold(t, fmt.Sprint(what, ", bit ", bit), turned, l[0].Key, l[len(l)-1].Key)
		}
	}
}

func TestWhatATurnedBitSpoils(t *testing.T) {
	l := pairs("a=1 ab- b=22 c= d=5 e=6 f=7 g=8 h=9")
	b := impl.PutTable(l)
	begins := []int{0}
	for i := range 4 {
		_, end, _ := slowUnframe(b, begins[i])
		begins = append(begins, end)
	}
	for bit := range 8 * len(b) {
		turned := slices.Clone(b)
		turned[bit/8] ^= 1 << (bit % 8)
		for i, p := range l {
			mine := bit/8 >= begins[i/4] && bit/8 < begins[i/4+1]
			if mine || bit/8 >= begins[3] {
				mustGet(t, fmt.Sprint("bit ", bit), turned, p.Key, impl.Pair{}, impl.TableBad)
			} else {
				mustGet(t, fmt.Sprint("bit ", bit), turned, p.Key, p, impl.TableGood)
			}
		}
	}
}

// noBlocks are bodies in which a pair of the key b, the first one, is none.
var noBlocks = map[string]string{
	"some text":                         "no block",
	"zeros":                             "\x00\x00\x00",
	"a beginning alone":                 "\x00",
	"no rest of a key":                  "\x00\x02b",
	"no flag":                           "\x00\x01b",
	"no value":                          "\x00\x01b\x00",
	"a value cut short":                 "\x00\x01b\x00\x02v",
	"a value of too many":               "\x00\x01b\x00\x83\xdc\xeb\x94\x00v",
	"in common with none":               entry(1, "", "\x00", ""),
	"in common with none, and a rest":   entry(1, "b", "\x00", ""),
	"flag 2":                            entry(0, "b", "\x02", ""),
	"flag 3":                            entry(0, "b", "\x03", ""),
	"flag 128":                          entry(0, "b", "\x80", ""),
	"flag 129":                          entry(0, "b", "\x81", ""),
	"flag 255":                          entry(0, "b", "\xff", ""),
	"needless groups in common":         "\x80\x00\x01b\x00\x00",
	"needless groups of the rest":       "\x00\x80\x01b\x00\x00",
	"needless groups of the value":      "\x00\x01b\x00\x80\x01v",
	"a number that goes on":             "\x81",
	"in common above MaxNum":            "\x83\xdc\xeb\x94\x01\x01b\x00\x00",
	"a zero left over":                  entry(0, "b", "\x00", "v") + "\x00",
	"a one left over":                   entry(0, "b", "\x00", "v") + "\x01",
	"bytes left over":                   entry(0, "b", "\x00", "v") + "left",
	"more in common than there is":      entry(0, "b", "\x00", "v") + entry(2, "", "\x00", ""),
	"more in common, and a rest":        entry(0, "b", "\x00", "v") + entry(2, "c", "\x00", ""),
	"much more in common":               entry(0, "b", "\x00", "v") + entry(impl.MaxNum, "c", "\x00", ""),
	"in common with one farther ahead":  entry(0, "b", "\x00", "v") + entry(0, "bcd", "\x00", "") + entry(2, "e", "\x00", "") + entry(4, "", "\x00", ""),
	"in common by the block ahead":      entry(0, "b", "\x00", "v") + entry(0, "", "\x00", "") + entry(1, "c", "\x00", ""),
	"flag 2 of the second":              entry(0, "b", "\x00", "v") + entry(1, "c", "\x02", ""),
	"the second without a value":        entry(0, "b", "\x00", "v") + "\x00\x01c\x01",
	"the second with a key of too many": entry(0, "b", "\x00", "v") + "\x00\x03c\x00\x00",
}

func TestWholeFramesThatAreNoBlock(t *testing.T) {
	for why, body := range noBlocks {
		x := slowBuilt(pairs("a=1 ab=2 b=3 c=4 d=5"), impl.BlockPairs)
		x.bodies[0] = body
		b := x.bytes()
		for _, key := range []string{"a", "ab", "b", "c"} {
			mustGet(t, why, b, key, impl.Pair{}, impl.TableBad)
		}
		mustGet(t, why, b, "d", impl.Pair{Key: "d", Val: "5"}, impl.TableGood)
		mustHaveNoPairs(t, why, b)

		y := built{bodies: []string{x.bodies[1], body}, lasts: []string{"d", "z"}, count: -1, filter: strings.Repeat("\xff", 8)}
		mustGet(t, why, y.bytes(), "d", impl.Pair{Key: "d", Val: "5"}, impl.TableGood)
		mustGet(t, why, y.bytes(), "e", impl.Pair{}, impl.TableBad)
		mustGet(t, why, y.bytes(), "zz", impl.Pair{}, impl.TableNone)
		mustHaveNoPairs(t, why, y.bytes())
	}
}

func TestWholeFramesThatAreNoIndex(t *testing.T) {
	block := slowFrame("\x00\x01a\x00\x00")
	filter := strings.Repeat("\xff", 8)
	for why, index := range map[string]string{
		"nothing":                        "",
		"some text":                      "no index",
		"a filter alone":                 filter,
		"a block":                        "\x00\x01a\x00\x00",
		"no filter":                      "\x01\x01a\x00",
		"a filter of seven bytes":        "\x01\x01a\x00" + filter[1:],
		"a filter of nine bytes":         "\x01\x01a\x00" + filter + "\xff",
		"a filter of 16 bytes":           "\x01\x01a\x00" + filter + filter,
		"one more by the count":          "\x02\x01a\x00" + filter,
		"one less by the count":          "\x00\x01a\x00" + filter,
		"a count that is far too great":  num(impl.MaxNum) + "\x01a\x00" + filter,
		"a count above MaxNum":           "\x83\xdc\xeb\x94\x01\x01a\x00" + filter,
		"a count with a needless group":  "\x80\x01\x01a\x00" + filter,
		"a key with a needless group":    "\x01\x80\x01a\x00" + filter,
		"a place with a needless group":  "\x01\x01a\x80\x00" + filter,
		"a place above MaxNum":           "\x01\x01a\x83\xdc\xeb\x94\x01" + filter,
		"a place that is lacking":        "\x01\x01a" + filter,
		"a key that is lacking":          "\x01\x00" + filter,
		"a key of too many":              "\x01\x7fa\x00" + filter,
		"a count that goes on":           "\xff",
		"the last place not there whole": "\x01\x01a\x81",
	} {
		mustBeBad(t, why, []byte(block+slowFrame(index)+fourOf(len(block))), "b")
	}
	mustGet(t, "an index", []byte(block+slowFrame("\x01\x01a\x00"+filter)+fourOf(len(block))), "a", impl.Pair{Key: "a"}, impl.TableGood)
}

func TestPlacesInTheIndex(t *testing.T) {
	l := pairs("a=1 b=2 c=3 d=4 e=5")
	x := slowBuilt(l, impl.BlockPairs)
	x.filter = strings.Repeat("\xff", 8)
	first := len(slowFrame(x.bodies[0]))
	size := len(x.bytes())
	for at := range size + 10 {
		x.places = []int{0, at}
		b := x.bytes()
		mustGet(t, fmt.Sprint("place ", at), b, "a", l[0], impl.TableGood)
		switch at {
		case first:
			mustGet(t, "its place", b, "e", l[4], impl.TableGood)
		case 0:
			mustGet(t, "the other block", b, "e", impl.Pair{}, impl.TableNone)
		default:
			mustGet(t, fmt.Sprint("place ", at), b, "e", impl.Pair{}, impl.TableBad)
		}
		mustHaveNoPairs(t, fmt.Sprint("place ", at), b)
	}
	x.places = []int{0, impl.MaxNum}
	mustGet(t, "the greatest place", x.bytes(), "e", impl.Pair{}, impl.TableBad)
	mustHaveNoPairs(t, "the greatest place", x.bytes())
}

// What can be read, and yet is not PutTable of its pairs.
func TestTablesThatAreReadOnly(t *testing.T) {
	l := pairs("a=1 ab=2 abc- b=3 c=4 d=5")
	right := slowBuilt(l, impl.BlockPairs)
	change := func(f func(*built)) built {
		x := slowBuilt(l, impl.BlockPairs)
		f(&x)
		return x
	}
	for why, x := range map[string]built{
		"blocks of one":   slowBuilt(l, 1),
		"blocks of three": slowBuilt(l, 3),
		"a block of six":  slowBuilt(l, 6),
		"less in common": change(func(x *built) {
			x.bodies[0] = entry(0, "a", "\x00", "1") + entry(0, "ab", "\x00", "2") + entry(1, "bc", "\x01", "") + entry(0, "b", "\x00", "3")
		}),
		"more bits in the filter":    change(func(x *built) { x.filter = strings.Repeat("\xff", 8) }),
		"bytes behind the blocks":    change(func(x *built) { x.gap = "gap" }),
		"a last key that is greater": change(func(x *built) { x.lasts[0] = "bb" }),
		"the last one greater":       change(func(x *built) { x.lasts[1] = "zz" }),
		"a block nobody asks":        change(func(x *built) { x.bodies = append(x.bodies, slowBody(pairs("e=1"))) }),
		"a block named twice": change(func(x *built) {
			x.lasts, x.places = []string{"b", "d", "d"}, []int{0, len(slowFrame(x.bodies[0])), len(slowFrame(x.bodies[0]))}
		}),
		"more behind, by the index": change(func(x *built) { x.bodies, x.lasts = append(x.bodies, slowBody(nil)), append(x.lasts, "e") }),
	} {
		b := x.bytes()
		for _, p := range l {
			mustGet(t, why, b, p.Key, p, impl.TableGood)
		}
		mustGetAsTold(t, why, b, "", "aa", "abcd", "bb", "cc", "e", "zz", "zzz")
		mustHaveNoPairs(t, why, b)
	}
	mustHavePairs(t, "the right one", right.bytes(), l)
	// The index is the one behind which the last four bytes stand.
	right.behind = "behind"
	mustBeBad(t, "bytes behind the index", right.bytes(), "a", "d")
}

// Of lists that PutTable refuses there are tables that can be read all the same.
func TestTablesOfWrongLists(t *testing.T) {
	lists := map[string][]impl.Pair{
		"two alike": pairs("a=1 a=2 b-"), "descending": pairs("b=1 a=2"), "alike over a block": pairs("a=1 b=2 c=3 d=4 d=5"), "descending over a block": pairs("d=1 e=2 f=3 g=4 b=5"),
	}
	for i, p := range wrongPairs {
		lists[fmt.Sprint("wrong pair ", i)] = []impl.Pair{p}
	}
	for why, l := range lists {
		x := slowBuilt(l, impl.BlockPairs)
		mustHaveNoPairs(t, why, x.bytes())
		mustGetAsTold(t, why, x.bytes(), keysIn(l)...)
	}
	mustGet(t, "the first of two alike", slowBuilt(lists["two alike"], 4).bytes(), "a", impl.Pair{Key: "a", Val: "1"}, impl.TableGood)
}

// sumAnew puts right the sums of the frames that a table had, so that what was
// changed within is read.
func sumAnew(b []byte, begins []int) {
	for _, at := range begins {
		if at+4 >= len(b) {
			continue
		}
		if n, used, ok := slowNum(b[at+4:]); ok && at+4+used+n <= len(b) {
			copy(b[at:], fourOf(slowSum(b[at+4+used:at+4+used+n])))
		}
	}
}

func TestTablesWithBytesChangedAndSummedAnew(t *testing.T) {
	codes := map[int]int{}
	for seed := range int64(3000) {
		r := rand.New(rand.NewSource(seed))
		l := someList(r, 1+r.Intn(12))
		if len(l) == 0 {
			continue
		}
		b := impl.PutTable(l)
		var begins []int
		for at := 0; at < len(b)-4; {
			begins = append(begins, at)
			_, at, _ = slowUnframe(b, at)
		}
		for range 1 + r.Intn(3) {
			b[r.Intn(len(b)-4)] = []byte{0, 1, 2, 127, 128, 129, 255, byte(r.Intn(256))}[r.Intn(8)]
		}
		sumAnew(b, begins)
		for _, key := range oddKeys {
			mustGetAsTold(t, fmt.Sprint("seed ", seed), b, key)
			_, code := impl.TableGet(b, key)
			codes[code]++
		}
		if got, ok := impl.TablePairs(b); ok && !bytes.Equal(slowBuilt(got, impl.BlockPairs).bytes(), b) || !ok && len(got) != 0 {
			t.Errorf("seed %d: TablePairs of %x: %v", seed, b, got)
		}
	}
	if len(codes) != 3 {
		t.Error("not all codes came:", codes)
	}
}

func TestWalksOverTables(t *testing.T) {
	for seed := range int64(400) {
		r := rand.New(rand.NewSource(seed))
		l := someList(r, r.Intn(len(oddKeys)+1))
		b := impl.PutTable(l)
		if len(l) == 0 {
			if len(b) != 0 {
				t.Errorf("seed %d: %x of nothing", seed, b)
			}
			continue
		}
		mustHavePairs(t, fmt.Sprint("seed ", seed), b, l)
		for _, key := range oddKeys {
			at := slices.IndexFunc(l, func(p impl.Pair) bool { return p.Key == key })
			if at < 0 {
				mustGet(t, fmt.Sprint("seed ", seed), b, key, impl.Pair{}, impl.TableNone)
			} else {
				mustGet(t, fmt.Sprint("seed ", seed), b, key, l[at], impl.TableGood)
			}
		}
	}
}

func TestTablesOfAnyBytes(t *testing.T) {
	r := rand.New(rand.NewSource(3))
	for range 5000 {
		b := make([]byte, r.Intn(60))
		for i := range b {
			b[i] = byte(r.Intn(256) >> (r.Intn(3) * 3))
		}
		mustGetAsTold(t, fmt.Sprintf("%x", b), b, "", "a", string(b))
		mustHaveNoPairs(t, fmt.Sprintf("%x", b), b)
	}
}

// An index that names one great block over and over, and a block of keys that
// grow, must not take more than there is.
func TestTablesThatSwell(t *testing.T) {
	var many []impl.Pair
	for i := range 3000 {
		many = append(many, impl.Pair{Key: fmt.Sprintf("%05d", i)})
	}
	x := slowBuilt(many, len(many))
	x.filter = strings.Repeat("\xff", 8)
	x.lasts, x.places = make([]string, 20000), make([]int, 20000)
	x.lasts[19999] = "99999"
	mustGet(t, "one block over and over", x.bytes(), "02999", impl.Pair{Key: "02999"}, impl.TableGood)
	mustHaveNoPairs(t, "one block over and over", x.bytes())

	body := ""
	for i := range 5000 {
		body += entry(i, "x", "\x00", "")
	}
	y := built{bodies: []string{body}, lasts: []string{"y"}, count: -1, filter: x.filter}
	mustGet(t, "keys that grow", y.bytes(), strings.Repeat("x", 4321), impl.Pair{Key: strings.Repeat("x", 4321)}, impl.TableGood)
	mustHaveNoPairs(t, "keys that grow", y.bytes())
}

func TestWhatLiesBehindATableIsNotRead(t *testing.T) {
	l := pairs("a=1 b=2 c=3 d=4 e=5")
	b := impl.PutTable(l)
	for n := range len(b) {
		mustBeBad(t, fmt.Sprint("the rest behind the length, ", n), b[:n:len(b)], "a")
	}
	mustHavePairs(t, "with room", roomy(b), l)
}

func TestMemoryOfTables(t *testing.T) {
	lists := tableLists()
	lists["none"] = nil
	lists["descending"] = pairs("b=1 a=2")
	lists["one too many"] = manyPairs(impl.MaxTable + 1)
	for what, l := range lists {
		checkMemory(t, what+": PutTable", []any{l}, func(args []any) []any {
			return []any{impl.PutTable(args[0].([]impl.Pair))}
		})
		checkMemory(t, what+": Filter", []any{keysIn(l)}, func(args []any) []any {
			return []any{impl.Filter(args[0].([]string))}
		})
		b := impl.PutTable(l)
		bad := slices.Clone(b)
		if len(bad) > 0 {
			bad[len(bad)/3] ^= 1
		}
		for _, b := range [][]byte{b, bad, b[:len(b)/2], append(slices.Clone(b), "more"...)} {
			checkMemory(t, what+": TablePairs", []any{b}, func(args []any) []any {
				l, _ := impl.TablePairs(args[0].([]byte))
				return []any{l}
			})
			for _, key := range []string{"", "a", "b", "key5", long} {
				checkMemory(t, what+": TableGet", []any{b}, func(args []any) []any {
					p, _ := impl.TableGet(args[0].([]byte), key)
					return []any{p}
				})
			}
		}
	}
	for n := range 10 {
		checkMemory(t, "MayHave", []any{make([]byte, n)}, func(args []any) []any {
			return []any{impl.MayHave(args[0].([]byte), "a")}
		})
	}
}

// Texts of an answer stay as they are when the bytes they came of are changed.
func TestTextsOfATableAreNotKeptWithIt(t *testing.T) {
	l := pairs("a=1 ab=2 abc- b=3 c=4")
	b := impl.PutTable(l)
	got, _ := impl.TablePairs(b)
	p, _ := impl.TableGet(b, "ab")
	for i := range b {
		b[i] = 'x'
	}
	if !slices.Equal(got, l) || p != l[1] {
		t.Error(got, p)
	}
}

func FuzzTable(f *testing.F) {
	f.Add([]byte(impl.PutTable(pairs("a=1 ab- abc=3 b=4 c=5"))), "a", "ab", "1")
	f.Add([]byte("\x00\x01a\x00\x00"), "a", "\xff", "")
	f.Add([]byte(entry(0, "b", "\x00", "v")+entry(1, "c", "\x01", "")), "b", "bc", "v")
	f.Fuzz(func(t *testing.T, b []byte, key string, other string, val string) {
		mustGetAsTold(t, "any bytes", b, "", key, other)
		for _, x := range []built{
			{bodies: []string{string(b)}, lasts: []string{key}, count: -1, filter: strings.Repeat("\xff", 8)},
			{bodies: []string{string(b), entry(0, key, "\x00", val)}, lasts: []string{other, key}, count: -1, filter: slowFilter([]string{key, other})},
			{bodies: []string{entry(0, key, "\x01", "")}, filter: string(b)},
		} {
			mustGetAsTold(t, "built", x.bytes(), "", key, other, val)
			if l, ok := impl.TablePairs(x.bytes()); ok && !bytes.Equal(impl.PutTable(l), x.bytes()) || !ok && len(l) != 0 {
				t.Errorf("%x: %v", x.bytes(), l)
			}
		}
		l := slowMerge([][]impl.Pair{{{Key: key, Val: val}}, {{Key: other, Gone: true}}, {{Key: val}}, {{Key: key + other}}, {{Key: key + val}}}, false)
		right := !slices.ContainsFunc(l, func(p impl.Pair) bool { return !impl.PairOk(p) })
		put := impl.PutTable(l)
		if !right {
			if len(put) != 0 {
				t.Errorf("%v: %x", l, put)
			}
			return
		}
		mustHavePairs(t, "put", put, l)
		for _, p := range l {
			mustGet(t, "put", put, p.Key, p, impl.TableGood)
		}
	})
}
