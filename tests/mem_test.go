package tests

import (
	"bytes"
	"fmt"
	"math"
	"math/rand"
	"slices"
	"strings"
	"testing"

	"loop.example/g00184/impl"
)

var (
	_ func(impl.Pair) bool                            = impl.PairOk
	_ func(impl.Mem) bool                             = impl.MemOk
	_ func(impl.Mem, impl.Pair, int) (impl.Mem, bool) = impl.MemPut
	_ func(impl.Mem, string) (impl.Pair, bool)        = impl.MemGet
	_ func(impl.Mem, string) []int                    = impl.Leaps
	_ func([][]impl.Pair, bool) []impl.Pair           = impl.Merge
	_ func([]impl.Pair, string, string) []impl.Pair   = impl.Range
	_                                                 = impl.Mem{Nodes: []impl.Node{{P: impl.Pair{Key: "", Val: "", Gone: false}, Tower: 1}}}
)

// These stand in their order: bytes above 127, whole runes, pieces of runes,
// and what looks like a rune that cannot be read.
var oddKeys = []string{
	"\x00", "\x00\x00", "\x00a", "A", "B", "a", "a\x00", "aa", "aaa", "ab", "a\x7f", "a\x80", "a\xc3", "a\xc3\x28", "a\xc3\xa9", "a\xc3\xa9\x00", "a\xc3\xaa",
	"a\xe2\x82", "a\xe2\x82\x28", "a\xe2\x82\xac", "a\xef\xbf\xbd", "a\xef\xbf\xbd\x00", "a\xef\xbf\xbe", "a\xf0\x9f\x98\x80", "a\xff", "a\xff\x00",
	"b", "\x7f", "\x80", "\x80a", "\x80\x80", "\xbf", "\xc0\x80", "\xc3", "\xc3\x28", "\xc3\xa9", "\xc3\xa9a", "\xe2\x82", "\xe2\x82\x80",
	"\xe2\x82\xac", "\xed\xa0\x80", "\xee\x80\x80", "\xef\xbf\xbc", "\xef\xbf\xbd", "\xef\xbf\xbd\xef\xbf\xbd", "\xef\xbf\xbe", "\xf0\x90\x80\x80",
	"\xf0\x9f\x98", "\xf0\x9f\x98\x80", "\xf4\x8f\xbf\xbf", "\xf4\x90\x80\x80", "\xfe", "\xff", "\xff\xfe", "\xff\xff",
}

// pairs reads "a=1 b= c-": c is Gone.
func pairs(text string) []impl.Pair {
	var out []impl.Pair
	for _, word := range strings.Fields(text) {
		key, val, ok := strings.Cut(word, "=")
		if !ok {
			key = strings.TrimSuffix(word, "-")
		}
		out = append(out, impl.Pair{Key: key, Val: val, Gone: !ok})
	}
	return out
}

// mem reads "a1 b3": keys with their towers, each its own value.
func mem(text string) impl.Mem {
	var m impl.Mem
	for _, word := range strings.Fields(text) {
		key := word[:len(word)-1]
		m.Nodes = append(m.Nodes, impl.Node{P: impl.Pair{Key: key, Val: key}, Tower: int(word[len(word)-1] - '0')})
	}
	return m
}

func fullMem(count int) impl.Mem {
	var m impl.Mem
	for i := range count {
		m.Nodes = append(m.Nodes, impl.Node{P: impl.Pair{Key: fmt.Sprintf("k%03d", 2*i), Val: fmt.Sprint(i)}, Tower: i%impl.MaxTower + 1})
	}
	return m
}

// slowLess holds bytes against each other, a beginning ahead of what goes on.
func slowLess(a string, b string) bool {
	for i := range min(len(a), len(b)) {
		if a[i] != b[i] {
			return a[i] < b[i]
		}
	}
	return len(a) < len(b)
}

func slowSort(list []impl.Pair) []impl.Pair {
	out := slices.Clone(list)
	for i := range out {
		for j := i; j > 0 && slowLess(out[j].Key, out[j-1].Key); j-- {
			out[j], out[j-1] = out[j-1], out[j]
		}
	}
	return out
}

// slowLeaps looks through all nodes to the right each time, as the chapter tells it.
func slowLeaps(m impl.Mem, key string) []int {
	var out []int
	at := -1
	for height := impl.MaxTower; height >= 1; height-- {
		for {
			next := at + 1
			for next < len(m.Nodes) && m.Nodes[next].Tower < height {
				next++
			}
			if next >= len(m.Nodes) || !slowLess(m.Nodes[next].P.Key, key) {
				break
			}
			at = next
			out = append(out, at)
		}
	}
	return out
}

func slowMerge(lists [][]impl.Pair, drop bool) []impl.Pair {
	first := map[string]bool{}
	var out []impl.Pair
	for _, l := range lists {
		for _, p := range l {
			if !first[p.Key] {
				first[p.Key] = true
				out = append(out, p)
			}
		}
	}
	if drop {
		out = slices.DeleteFunc(out, func(p impl.Pair) bool { return p.Gone })
	}
	return slowSort(out)
}

func mustPut(t *testing.T, m impl.Mem, p impl.Pair, tower int) impl.Mem {
	t.Helper()
	before := wholeCopy(m)
	got, ok := impl.MemPut(m, p, tower)
	if !ok || !impl.MemOk(got) || !same(wholeCopy(m), before) {
		t.Fatalf("MemPut of %v, tower %d: %v, %v", p, tower, got, ok)
	}
	if found, ok := impl.MemGet(got, p.Key); !ok || found != p {
		t.Fatalf("%v was put, and %v %v is found", p, found, ok)
	}
	return got
}

func mustNotPut(t *testing.T, what string, m impl.Mem, p impl.Pair, tower int) {
	t.Helper()
	before := wholeCopy(m)
	got, ok := impl.MemPut(m, p, tower)
	if ok || !same(got, m) || !same(wholeCopy(m), before) {
		t.Errorf("%s: MemPut of %v, tower %d: %v and %v", what, p, tower, got, ok)
	}
}

func mustBeMem(t *testing.T, what string, got impl.Mem, want impl.Mem) {
	t.Helper()
	if !same(got, want) {
		t.Fatalf("%s: %v, not %v", what, got, want)
	}
}

func TestMemConstants(t *testing.T) {
	if impl.MaxMem != 60 || impl.MaxTower != 4 {
		t.Error(impl.MaxMem, impl.MaxTower)
	}
}

func TestOddKeysAreInOrder(t *testing.T) {
	sorted := slices.Clone(oddKeys)
	slices.SortFunc(sorted, func(a string, b string) int { return bytes.Compare([]byte(a), []byte(b)) })
	if !slices.Equal(sorted, oddKeys) {
		t.Errorf("they are %q", sorted)
	}
}

func TestPairOk(t *testing.T) {
	long := strings.Repeat("x", 20)
	for _, p := range []impl.Pair{
		{Key: "k"}, {Key: "k", Val: "v"}, {Key: "k", Gone: true}, {Key: long}, {Key: long, Val: long}, {Key: long, Gone: true}, {Key: "\x00", Val: "\x00"},
		{Key: " "}, {Key: "\n=", Val: "a b\n"}, {Key: long[1:], Val: long[1:]}, {Key: "\xff\xff", Val: "\xff"}, {Key: strings.Repeat("\xc3\xa9", 10), Val: strings.Repeat("\xc3\xa9", 10)},
		{Key: strings.Repeat("\xff", 20), Val: strings.Repeat("\x80", 20)},
	} {
		if !impl.PairOk(p) {
			t.Errorf("%v is not right", p)
		}
	}
	for _, p := range wrongPairs {
		if impl.PairOk(p) {
			t.Errorf("%v is right", p)
		}
	}
}

// The last of them have no more than 20 runes, but more bytes.
var wrongPairs = []impl.Pair{
	{}, {Val: "v"}, {Gone: true}, {Key: strings.Repeat("x", 21)}, {Key: "k", Val: strings.Repeat("x", 21)}, {Key: strings.Repeat("x", 21), Gone: true},
	{Key: "k", Val: "v", Gone: true}, {Key: "k", Val: "\x00", Gone: true}, {Key: strings.Repeat("x", 1000), Val: strings.Repeat("x", 1000)}, {Key: "k", Val: strings.Repeat("x", 276)},
	{Key: strings.Repeat("x", 276)}, {Key: "k", Val: strings.Repeat("\x00", 21)}, {Key: strings.Repeat("\xc3\xa9", 10) + "x"}, {Key: "k", Val: strings.Repeat("\xe2\x82\xac", 7)}, {Key: strings.Repeat("\xe2\x82\xac", 7)},
}

func wrongMems() map[string]impl.Mem {
	out := map[string]impl.Mem{
		"descending":             mem("b1 a1"),
		"two alike":              mem("a1 b1 b1"),
		"two alike, other pairs": {Nodes: []impl.Node{{P: impl.Pair{Key: "a", Val: "1"}, Tower: 1}, {P: impl.Pair{Key: "a", Gone: true}, Tower: 2}}},
		"the last out of order":  mem("a1 b2 c3 d4 e1 c2"),
		"the first out of order": mem("d1 a1 b2 c3"),
		"one too many":           fullMem(impl.MaxMem + 1),
		"many too many":          fullMem(1000),
		"a longer one ahead":     mem("aa1 a1"),
		"as runes, not as bytes": {Nodes: []impl.Node{{P: impl.Pair{Key: "\xff"}, Tower: 1}, {P: impl.Pair{Key: "\xf0\x9f\x98\x80"}, Tower: 1}}},
	}
	for _, tower := range []int{0, -1, impl.MaxTower + 1, math.MaxInt, math.MinInt, 100} {
		for at := range 3 {
			m := mem("a1 b2 c3")
			m.Nodes[at].Tower = tower
			out[fmt.Sprint("tower ", tower, " at ", at)] = m
		}
	}
	for i, p := range wrongPairs {
		m := mem("a1 b2 c3")
		m.Nodes[i%3].P = p
		out[fmt.Sprint("wrong pair ", i)] = m
	}
	return out
}

func TestMemOk(t *testing.T) {
	odd := impl.Mem{}
	for i, key := range oddKeys {
		odd.Nodes = append(odd.Nodes, impl.Node{P: impl.Pair{Key: key, Gone: i%2 == 0}, Tower: i%impl.MaxTower + 1})
	}
	for i, m := range []impl.Mem{{}, {Nodes: []impl.Node{}}, mem("a1"), mem("a4"), mem("a1 b2 c3 d4"), mem("a4 aa4 ab4 b4"), fullMem(impl.MaxMem), fullMem(impl.MaxMem - 1), odd} {
		if !impl.MemOk(m) {
			t.Error("not right:", i, m)
		}
	}
	for why, m := range wrongMems() {
		if impl.MemOk(m) {
			t.Error("right:", why)
		}
	}
	for i := range oddKeys {
		for j := range i + 1 {
			m := impl.Mem{Nodes: []impl.Node{{P: impl.Pair{Key: oddKeys[i]}, Tower: 1}, {P: impl.Pair{Key: oddKeys[j]}, Tower: 1}}}
			if impl.MemOk(m) {
				t.Errorf("%q is ahead of %q", oddKeys[i], oddKeys[j])
			}
		}
	}
}

func TestMemPutSteps(t *testing.T) {
	m := impl.Mem{}
	for _, x := range []struct {
		p     impl.Pair
		tower int
		want  string
	}{
		{impl.Pair{Key: "d", Val: "d"}, 1, "d1"},
		{impl.Pair{Key: "b", Val: "b"}, 3, "b3 d1"},
		{impl.Pair{Key: "f", Val: "f"}, 4, "b3 d1 f4"},
		{impl.Pair{Key: "a", Val: "a"}, 1, "a1 b3 d1 f4"},
		{impl.Pair{Key: "e", Val: "e"}, 2, "a1 b3 d1 e2 f4"},
		{impl.Pair{Key: "e", Val: "e"}, 4, "a1 b3 d1 e2 f4"},
		{impl.Pair{Key: "a", Val: "a"}, 4, "a1 b3 d1 e2 f4"},
		{impl.Pair{Key: "f", Val: "f"}, 1, "a1 b3 d1 e2 f4"},
		{impl.Pair{Key: "aa", Val: "aa"}, 4, "a1 aa4 b3 d1 e2 f4"},
		{impl.Pair{Key: "ff", Val: "ff"}, 1, "a1 aa4 b3 d1 e2 f4 ff1"},
	} {
		m = mustPut(t, m, x.p, x.tower)
		mustBeMem(t, fmt.Sprint("put ", x.p.Key), m, mem(x.want))
	}
}

func TestMemPutInThePlaceOfAnother(t *testing.T) {
	for at, node := range mem("a1 b3 d1 e2 f4").Nodes {
		for tower := 1; tower <= impl.MaxTower; tower++ {
			for _, p := range []impl.Pair{{Key: node.P.Key, Val: "new"}, {Key: node.P.Key}, {Key: node.P.Key, Gone: true}} {
				want := mem("a1 b3 d1 e2 f4")
				want.Nodes[at].P = p
				got := mustPut(t, mem("a1 b3 d1 e2 f4"), p, tower)
				mustBeMem(t, fmt.Sprint(p, tower), got, want)
				back := mustPut(t, got, node.P, tower)
				mustBeMem(t, fmt.Sprint(p, tower, " and back"), back, mem("a1 b3 d1 e2 f4"))
			}
		}
	}
}

// Whatever the order in which they are put, the same is there.
func TestMemPutInAnyOrder(t *testing.T) {
	want := mem("a4 b1 c2 d3 e1")
	var walk func(m impl.Mem, left []impl.Node)
	walk = func(m impl.Mem, left []impl.Node) {
		if len(left) == 0 {
			mustBeMem(t, "all put", m, want)
		}
		for i, n := range left {
			walk(mustPut(t, m, n.P, n.Tower), slices.Delete(slices.Clone(left), i, i+1))
		}
	}
	walk(impl.Mem{}, want.Nodes)
}

func TestMemPutOfOddKeys(t *testing.T) {
	for seed := range int64(10) {
		r := rand.New(rand.NewSource(seed))
		m := impl.Mem{}
		for _, i := range r.Perm(len(oddKeys)) {
			m = mustPut(t, m, impl.Pair{Key: oddKeys[i], Val: fmt.Sprint(i)}, r.Intn(impl.MaxTower)+1)
		}
		for i, n := range m.Nodes {
			if n.P.Key != oddKeys[i] || n.P.Val != fmt.Sprint(i) {
				t.Fatalf("at %d is %v", i, n.P)
			}
		}
	}
}

func TestMemPutRefused(t *testing.T) {
	right := impl.Pair{Key: "b", Val: "new"}
	for why, m := range wrongMems() {
		mustNotPut(t, why, m, right, 1)
		mustNotPut(t, why, m, impl.Pair{Key: "zz"}, impl.MaxTower)
		mustNotPut(t, why, m, impl.Pair{}, 0)
	}
	for i, p := range wrongPairs {
		for _, m := range []impl.Mem{{}, mem("a1 b2 c3"), mem("k2"), fullMem(impl.MaxMem)} {
			mustNotPut(t, fmt.Sprint("wrong pair ", i), m, p, 1)
		}
	}
	for _, tower := range []int{0, -1, impl.MaxTower + 1, math.MaxInt, math.MinInt} {
		for _, m := range []impl.Mem{{}, mem("a1 b2 c3"), mem("a1 c3")} {
			mustNotPut(t, "a wrong tower", m, right, tower)
		}
	}
	for tower := 1; tower <= impl.MaxTower; tower++ {
		if m := mustPut(t, mem("a1 c3"), right, tower); m.Nodes[1].Tower != tower {
			t.Error("tower", tower, m)
		}
	}
}

func TestMostNodes(t *testing.T) {
	m := impl.Mem{}
	for i := range impl.MaxMem {
		m = mustPut(t, m, fullMem(impl.MaxMem).Nodes[i*7%impl.MaxMem].P, i*7%impl.MaxMem%impl.MaxTower+1)
	}
	mustBeMem(t, "full", m, fullMem(impl.MaxMem))
	for _, key := range []string{"a", "k001", "k057", "z"} {
		mustNotPut(t, "MaxMem are there", m, impl.Pair{Key: key}, 1)
	}
	// The document refuses where MaxMem are there, whatever the key.
	for _, n := range m.Nodes {
		mustNotPut(t, "MaxMem are there, and the key", m, impl.Pair{Key: n.P.Key, Val: "new"}, n.Tower)
	}
	less := fullMem(impl.MaxMem - 1)
	if got := mustPut(t, less, impl.Pair{Key: "k004", Val: "new"}, 1); len(got.Nodes) != impl.MaxMem-1 {
		t.Error(len(got.Nodes))
	}
	if got := mustPut(t, less, impl.Pair{Key: "k005", Val: "new"}, 1); len(got.Nodes) != impl.MaxMem {
		t.Error(len(got.Nodes))
	}
}

func TestMemGet(t *testing.T) {
	m := mustPut(t, mem("a1 b3 d1 e2 f4"), impl.Pair{Key: "d", Gone: true}, 1)
	for _, n := range m.Nodes {
		if p, ok := impl.MemGet(m, n.P.Key); !ok || p != n.P {
			t.Error(n.P, p, ok)
		}
	}
	for _, key := range []string{"", "c", "A", "aa", "0", "f\x00", "z", strings.Repeat("a", 100), "\xff"} {
		for _, m := range []impl.Mem{m, {}} {
			if p, ok := impl.MemGet(m, key); ok || p != (impl.Pair{}) {
				t.Errorf("%q: %v %v", key, p, ok)
			}
		}
	}
}

// What the pair with a key is hangs on no order and no tower; of two the first counts.
func TestMemGetOfAnything(t *testing.T) {
	for why, m := range wrongMems() {
		for _, key := range []string{"", "a", "aa", "b", "c", "d", "e", "k", "k002", "z", "\xff"} {
			at := slices.IndexFunc(m.Nodes, func(n impl.Node) bool { return n.P.Key == key })
			p, ok := impl.MemGet(m, key)
			if ok != (at >= 0) || at >= 0 && p != m.Nodes[at].P || at < 0 && p != (impl.Pair{}) {
				t.Errorf("%s: %q: %v %v", why, key, p, ok)
			}
		}
	}
}

func mustLeap(t *testing.T, what string, m impl.Mem, key string, want []int) {
	t.Helper()
	if got := impl.Leaps(m, key); !slices.Equal(got, want) {
		t.Errorf("%s: Leaps to %q: %v, not %v", what, key, got, want)
	}
}

func TestLeapsByHand(t *testing.T) {
	for _, x := range []struct {
		m    string
		key  string
		want []int
	}{
		{"", "a", nil}, {"", "", nil}, {"b1", "a", nil}, {"b1", "b", nil}, {"b1", "c", []int{0}}, {"b4", "c", []int{0}}, {"b4", "b", nil}, {"b4", "", nil},
		{"a1 b3 d1 e2 f4", "a", nil}, {"a1 b3 d1 e2 f4", "b", []int{0}}, {"a1 b3 d1 e2 f4", "c", []int{1}}, {"a1 b3 d1 e2 f4", "d", []int{1}},
		{"a1 b3 d1 e2 f4", "dd", []int{1, 2}}, {"a1 b3 d1 e2 f4", "e", []int{1, 2}}, {"a1 b3 d1 e2 f4", "f", []int{1, 3}}, {"a1 b3 d1 e2 f4", "z", []int{4}},
		{"a1 b1 c1 d1", "z", []int{0, 1, 2, 3}}, {"a4 b4 c4 d4", "z", []int{0, 1, 2, 3}}, {"a4 b3 c2 d1", "z", []int{0, 1, 2, 3}}, {"a1 b2 c3 d4", "z", []int{3}},
		{"a1 b2 c3 d4", "d", []int{2}}, {"a1 b2 c3 d4", "c", []int{1}}, {"a4 b1 c1 d4 e1", "e", []int{0, 3}}, {"a4 b1 c1 d4 e1", "d", []int{0, 1, 2}},
		{"a2 b1 c2 d1 e3 f1", "e", []int{0, 2, 3}}, {"a2 b1 c2 d1 e3 f1", "g", []int{4, 5}},
	} {
		mustLeap(t, x.m, mem(x.m), x.key, x.want)
	}
}

// checkLeaps: they go farther right, to lesser keys alone, as far as those go.
func checkLeaps(t *testing.T, what string, m impl.Mem, key string) {
	t.Helper()
	got := impl.Leaps(m, key)
	last := -1
	for _, at := range got {
		if at <= last || at >= len(m.Nodes) || !slowLess(m.Nodes[at].P.Key, key) {
			t.Fatalf("%s: Leaps to %q: %v", what, key, got)
		}
		last = at
	}
	if last+1 < len(m.Nodes) && slowLess(m.Nodes[last+1].P.Key, key) {
		t.Fatalf("%s: Leaps to %q: %v end too early", what, key, got)
	}
}

// All towers of some few nodes, and keys at each place.
func TestLeapsOfAllTowers(t *testing.T) {
	keys := []string{"", "a", "b", "bb", "c", "cc", "d", "dd", "e", "f", "z"}
	for code := range 1024 {
		m := mem("b1 c1 d1 e1 f1")
		for i := range m.Nodes {
			m.Nodes[i].Tower = code>>(2*i)&3 + 1
		}
		for _, key := range keys {
			mustLeap(t, fmt.Sprint(m), m, key, slowLeaps(m, key))
			checkLeaps(t, fmt.Sprint(m), m, key)
		}
	}
}

func TestLeapsToOddKeys(t *testing.T) {
	for seed := range int64(10) {
		r := rand.New(rand.NewSource(seed))
		m := impl.Mem{}
		for _, i := range r.Perm(len(oddKeys))[:30] {
			m = mustPut(t, m, impl.Pair{Key: oddKeys[i]}, r.Intn(impl.MaxTower)+1)
		}
		for _, key := range append([]string{"", strings.Repeat("\xff", 30)}, oddKeys...) {
			mustLeap(t, "odd keys", m, key, slowLeaps(m, key))
			checkLeaps(t, "odd keys", m, key)
		}
	}
}

func TestLeapsOfAnything(t *testing.T) {
	for why, m := range wrongMems() {
		for _, key := range []string{"", "a", "aa", "b", "bb", "c", "d", "k", "k003", "k119", "z", "\xf0\x9f\x98\x80", "\xff", "\xff\xff"} {
			mustLeap(t, why, m, key, slowLeaps(m, key))
		}
	}
	r := rand.New(rand.NewSource(1))
	for range 2000 {
		m := impl.Mem{}
		for range r.Intn(12) {
			m.Nodes = append(m.Nodes, impl.Node{P: impl.Pair{Key: oddKeys[r.Intn(len(oddKeys))]}, Tower: r.Intn(8) - 1})
		}
		key := oddKeys[r.Intn(len(oddKeys))]
		mustLeap(t, fmt.Sprintf("%v", m), m, key, slowLeaps(m, key))
	}
}

func mustMerge(t *testing.T, what string, lists [][]impl.Pair, drop bool, want []impl.Pair) {
	t.Helper()
	before := wholeCopy(lists)
	got := impl.Merge(lists, drop)
	if !slices.Equal(got, want) || !same(wholeCopy(lists), before) {
		t.Errorf("%s, drop %v: Merge: %v, not %v", what, drop, got, want)
	}
}

func TestMergeByHand(t *testing.T) {
	for _, x := range []struct {
		lists string
		all   string
		kept  string
	}{
		{"", "", ""},
		{"|", "", ""},
		{"a=1", "a=1", "a=1"},
		{"a-", "a-", ""},
		{"a=1 b- c=3", "a=1 b- c=3", "a=1 c=3"},
		{"|a=1", "a=1", "a=1"},
		{"a=1|", "a=1", "a=1"},
		{"a=1|b=2", "a=1 b=2", "a=1 b=2"},
		{"b=2|a=1", "a=1 b=2", "a=1 b=2"},
		{"a=1|a=2", "a=1", "a=1"},
		{"a-|a=2", "a-", ""},
		{"a=1|a-", "a=1", "a=1"},
		{"a=1 c-|b=2 c=3 d=4", "a=1 b=2 c- d=4", "a=1 b=2 d=4"},
		{"b=2 c=3 d=4|a=1 c-", "a=1 b=2 c=3 d=4", "a=1 b=2 c=3 d=4"},
		{"c=1|a=2 c=2|a=3 b=3 c=3", "a=2 b=3 c=1", "a=2 b=3 c=1"},
		{"a=1|b=2|c=3|d=4|e=5|f=6|g=7|h=8|i=9|j=10", "a=1 b=2 c=3 d=4 e=5 f=6 g=7 h=8 i=9 j=10", "a=1 b=2 c=3 d=4 e=5 f=6 g=7 h=8 i=9 j=10"},
		{"j=1|i=1|h=1|g=1|f=1|e=1|d=1|c=1|b=1|a-", "a- b=1 c=1 d=1 e=1 f=1 g=1 h=1 i=1 j=1", "b=1 c=1 d=1 e=1 f=1 g=1 h=1 i=1 j=1"},
		{"a=1|a=2|a=3|a=4|a=5|a=6|a=7|a=8|a=9|a=10", "a=1", "a=1"},
		{"a=1 aa=2 b=3|a-  aa- ab=4 b-", "a=1 aa=2 ab=4 b=3", "a=1 aa=2 ab=4 b=3"},
	} {
		var lists [][]impl.Pair
		for _, text := range strings.Split(x.lists, "|") {
			lists = append(lists, pairs(text))
		}
		mustMerge(t, x.lists, lists, false, pairs(x.all))
		mustMerge(t, x.lists, lists, true, pairs(x.kept))
	}
	mustMerge(t, "no list", nil, false, nil)
	mustMerge(t, "no list", [][]impl.Pair{}, true, nil)
}

func TestMergeRefused(t *testing.T) {
	wrong := map[string][]impl.Pair{
		"descending": pairs("b=1 a=2"), "two alike": pairs("a=1 a=1"), "two alike, one Gone": pairs("a=1 a-"), "the last out of order": pairs("a=1 b=2 d=3 c=4"),
		"a longer one ahead": pairs("aa=1 a=2"), "as runes, not as bytes": {{Key: "\xff"}, {Key: "\xf0\x9f\x98\x80"}},
	}
	for i, p := range wrongPairs {
		wrong[fmt.Sprint("wrong pair ", i)] = []impl.Pair{p}
		wrong[fmt.Sprint("wrong pair behind another ", i)] = append(pairs("0=1"), p)
	}
	for why, l := range wrong {
		for _, drop := range []bool{false, true} {
			mustMerge(t, why, [][]impl.Pair{l}, drop, nil)
			mustMerge(t, why+", ahead", [][]impl.Pair{l, pairs("a=1"), pairs("b=1")}, drop, nil)
			mustMerge(t, why+", within", [][]impl.Pair{pairs("a=1 b=1"), l, pairs("b=1 c=1")}, drop, nil)
			mustMerge(t, why+", at the end", [][]impl.Pair{pairs("a=1"), pairs("b=1"), l}, drop, nil)
		}
	}
}

func TestMostLists(t *testing.T) {
	for _, list := range []string{"", "a=1", "a=1 b-"} {
		var lists [][]impl.Pair
		for range 10 {
			lists = append(lists, pairs(list))
		}
		mustMerge(t, "10 lists", lists, false, pairs(list))
		mustMerge(t, "11 lists", append(lists, pairs(list)), false, nil)
		mustMerge(t, "11 lists", append(lists, nil), true, nil)
		mustMerge(t, "20 lists", append(lists, lists...), false, nil)
	}
	long := []impl.Pair{}
	for i := range 500 {
		long = append(long, impl.Pair{Key: fmt.Sprintf("%04d", i)})
	}
	mustMerge(t, "long lists", [][]impl.Pair{long[:300], long, long[200:]}, true, long)
}

func someList(r *rand.Rand, most int) []impl.Pair {
	var out []impl.Pair
	for i, key := range oddKeys {
		if r.Intn(len(oddKeys)) < most {
			p := impl.Pair{Key: key, Gone: r.Intn(3) == 0}
			if !p.Gone {
				p.Val = fmt.Sprint(i, "-", r.Intn(1000))
			}
			out = append(out, p)
		}
	}
	return out
}

func TestMergeOfManyLists(t *testing.T) {
	r := rand.New(rand.NewSource(2))
	for range 500 {
		var lists [][]impl.Pair
		for range r.Intn(11) {
			lists = append(lists, someList(r, r.Intn(20)))
		}
		for _, drop := range []bool{false, true} {
			mustMerge(t, fmt.Sprintf("%v", lists), lists, drop, slowMerge(lists, drop))
			got := impl.Merge(lists, drop)
			mustMerge(t, "merged once more", [][]impl.Pair{got}, drop, got)
		}
	}
}

func mustRange(t *testing.T, l []impl.Pair, from string, to string, want []impl.Pair) {
	t.Helper()
	before := wholeCopy(l)
	got := impl.Range(l, from, to)
	if !slices.Equal(got, want) || !same(wholeCopy(l), before) {
		t.Errorf("%v from %q to %q: %v, not %v", l, from, to, got, want)
	}
}

func TestRangeByHand(t *testing.T) {
	for _, x := range []struct {
		from string
		to   string
		want string
	}{
		{"", "", "a=1 c- cc=3 e=4"}, {"a", "", "a=1 c- cc=3 e=4"}, {"b", "", "c- cc=3 e=4"}, {"c", "", "c- cc=3 e=4"}, {"c\x00", "", "cc=3 e=4"},
		{"e", "", "e=4"}, {"f", "", ""}, {"", "a", ""}, {"", "b", "a=1"}, {"", "c", "a=1"}, {"", "c\x00", "a=1 c-"}, {"", "e", "a=1 c- cc=3"}, {"", "f", "a=1 c- cc=3 e=4"},
		{"a", "a", ""}, {"c", "c", ""}, {"c", "cc", "c-"}, {"c", "a", ""}, {"e", "a", ""}, {"b", "d", "c- cc=3"}, {"d", "dd", ""}, {"a", "e", "a=1 c- cc=3"},
		{"\xff", "", ""}, {"", "\xff", "a=1 c- cc=3 e=4"}, {strings.Repeat("a", 100), strings.Repeat("d", 100), "c- cc=3"},
	} {
		mustRange(t, pairs("a=1 c- cc=3 e=4"), x.from, x.to, pairs(x.want))
		mustRange(t, nil, x.from, x.to, nil)
	}
}

// Of a list in any order, or of what is no right pair, each one is asked for itself.
func TestRangeOfAnything(t *testing.T) {
	lists := [][]impl.Pair{pairs("c=1 a=2 b=3 a=4 a-"), wrongPairs, nil}
	for _, key := range oddKeys {
		lists[2] = append(lists[2], impl.Pair{Key: key, Val: "v", Gone: true})
	}
	slices.Reverse(lists[2])
	ends := append([]string{"", "k", "x", strings.Repeat("x", 21)}, oddKeys...)
	for _, l := range lists {
		for _, from := range ends {
			for _, to := range ends {
				var want []impl.Pair
				for _, p := range l {
					if !slowLess(p.Key, from) && (to == "" || slowLess(p.Key, to)) {
						want = append(want, p)
					}
				}
				mustRange(t, l, from, to, want)
			}
		}
	}
}

func somePair(r *rand.Rand) impl.Pair {
	p := impl.Pair{Key: oddKeys[r.Intn(len(oddKeys))], Val: fmt.Sprint(r.Intn(100))}
	switch r.Intn(12) {
	case 0:
		return wrongPairs[r.Intn(len(wrongPairs))]
	case 1, 2, 3:
		p.Val, p.Gone = "", true
	case 4:
		p.Key = fmt.Sprint("more ", r.Intn(30))
	}
	return p
}

// Long walks: what was put is found, held against a plain list that is sorted each time.
func TestWalksOverMem(t *testing.T) {
	for seed := range int64(30) {
		r := rand.New(rand.NewSource(seed))
		m := impl.Mem{}
		var put []impl.Pair
		towers := map[string]int{}
		for range 150 {
			p, tower := somePair(r), r.Intn(6)
			at := slices.IndexFunc(put, func(q impl.Pair) bool { return q.Key == p.Key })
			if !impl.PairOk(p) || tower < 1 || tower > 4 || len(put) == impl.MaxMem {
				mustNotPut(t, fmt.Sprint("seed ", seed), m, p, tower)
				continue
			}
			m = mustPut(t, m, p, tower)
			if at >= 0 {
				put[at] = p
			} else {
				put = append(put, p)
				towers[p.Key] = tower
			}
			want := impl.Mem{}
			for _, p := range slowSort(put) {
				want.Nodes = append(want.Nodes, impl.Node{P: p, Tower: towers[p.Key]})
			}
			mustBeMem(t, fmt.Sprint("seed ", seed), m, want)
		}
		for _, key := range oddKeys {
			at := slices.IndexFunc(put, func(q impl.Pair) bool { return q.Key == key })
			if p, ok := impl.MemGet(m, key); ok != (at >= 0) || ok && p != put[at] {
				t.Fatalf("seed %d: %q: %v %v", seed, key, p, ok)
			}
			checkLeaps(t, fmt.Sprint("seed ", seed), m, key)
		}
	}
}

func TestMemoryOfMem(t *testing.T) {
	mems := wrongMems()
	mems["none"] = impl.Mem{}
	mems["some"] = mem("a1 b3 d1 e2 f4")
	mems["full"] = fullMem(impl.MaxMem)
	mems["one less"] = fullMem(impl.MaxMem - 1)
	for why, m := range mems {
		for _, key := range []string{"", "a", "b", "c", "z", "k004"} {
			for _, tower := range []int{0, 1, impl.MaxTower} {
				checkMemory(t, fmt.Sprintf("%s: MemPut of %q", why, key), []any{m}, func(args []any) []any {
					got, _ := impl.MemPut(args[0].(impl.Mem), impl.Pair{Key: key, Val: "new"}, tower)
					return []any{got}
				})
			}
			checkMemory(t, fmt.Sprintf("%s: Leaps to %q", why, key), []any{m}, func(args []any) []any {
				impl.MemOk(args[0].(impl.Mem))
				impl.MemGet(args[0].(impl.Mem), key)
				return []any{impl.Leaps(args[0].(impl.Mem), key)}
			})
		}
	}
}

func TestMemoryOfMergeAndRange(t *testing.T) {
	for i, lists := range [][][]impl.Pair{
		nil, {nil}, {pairs("a=1")}, {pairs("a=1 b- c=3")}, {nil, pairs("a=1 b-")}, {pairs("a=1 b-"), nil}, {pairs("a=1"), pairs("b=2"), pairs("c-")},
		{pairs("b=1"), pairs("a=1 c-")}, {pairs("b=1 a=1")}, {pairs("a=1"), pairs("b=1 a=1")}, make([][]impl.Pair, 11), {pairs("a-"), pairs("a=1")},
	} {
		for _, drop := range []bool{false, true} {
			checkMemory(t, fmt.Sprint("Merge ", i, drop), []any{lists}, func(args []any) []any {
				return []any{impl.Merge(args[0].([][]impl.Pair), drop)}
			})
		}
		for _, l := range lists {
			for _, from := range []string{"", "a", "b", "z"} {
				for _, to := range []string{"", "b", "z"} {
					checkMemory(t, fmt.Sprint("Range ", i, from, to), []any{l}, func(args []any) []any {
						return []any{impl.Range(args[0].([]impl.Pair), from, to)}
					})
				}
			}
		}
	}
	shared := pairs("a=1 b-")
	mustMerge(t, "one list twice", [][]impl.Pair{shared, shared}, true, pairs("a=1"))
	if !slices.Equal(shared, pairs("a=1 b-")) {
		t.Error("the list was changed:", shared)
	}
}

func FuzzMem(f *testing.F) {
	f.Add("a", "b", "1", "c", 3, 1, true)
	f.Add("\xff", "\xf0\x9f\x98\x80", "", "\xef\xbf\xbd", 1, 4, false)
	f.Add("", "a", "v", "", 0, 5, true)
	f.Fuzz(func(t *testing.T, a string, b string, val string, key string, high int, low int, gone bool) {
		m := impl.Mem{}
		want := []impl.Pair{}
		for i, p := range []impl.Pair{{Key: a, Val: val}, {Key: b, Val: val, Gone: gone}, {Key: key}} {
			tower := []int{high, low, 1}[i]
			if !impl.PairOk(p) || tower < 1 || tower > impl.MaxTower {
				mustNotPut(t, "any", m, p, tower)
				continue
			}
			m = mustPut(t, m, p, tower)
			want = slowMerge([][]impl.Pair{{p}, want}, false)
		}
		var got []impl.Pair
		for _, n := range m.Nodes {
			got = append(got, n.P)
		}
		if !slices.Equal(got, want) {
			t.Fatalf("%v, not %v", got, want)
		}
		checkLeaps(t, "any", m, key)
		mustLeap(t, "any", m, val, slowLeaps(m, val))
		odd := impl.Mem{Nodes: []impl.Node{{P: impl.Pair{Key: a}, Tower: high}, {P: impl.Pair{Key: b}, Tower: low}, {P: impl.Pair{Key: val}, Tower: 2}}}
		mustLeap(t, "anything", odd, key, slowLeaps(odd, key))
	})
}
