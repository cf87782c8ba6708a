package tests

import (
	"fmt"
	"math"
	"math/rand"
	"slices"
	"strings"
	"testing"

	"loop.example/g00184/impl"
)

// A history is what a store was made sure of, and what was written since.
type history struct {
	sure  []impl.Pair
	since []impl.Pair
}

// at is what must be there when the first n of what was written since are.
func (h history) at(n int) []impl.Pair {
	var lists [][]impl.Pair
	for _, p := range h.since[:n] {
		lists = append([][]impl.Pair{{p}}, lists...)
	}
	return slowMerge(append(lists, h.sure), true)
}

func (h history) all() []impl.Pair { return h.at(len(h.since)) }

func (h history) made() history { return history{sure: h.all()} }

// behind is the history behind an op of this store that was good.
func (h history) behind(s impl.Store, o op) history {
	switch {
	case o.call == "Write":
		return history{sure: h.sure, since: append(slices.Clone(h.since), o.p)}
	case o.call == "Press", o.call == "Settle" && len(s.M.Nodes) < impl.FlushAt:
		return h
	}
	return h.made()
}

// mustOpenBehindACrash asks that what was made sure is there, and of what was
// written since the first ones; it tells what is.
func mustOpenBehindACrash(t *testing.T, what string, d impl.Disk, keep int, h history) impl.Store {
	t.Helper()
	fallen := impl.Store{D: impl.Fall(d, keep)}
	up, code := mustDo(t, what, fallen, op{call: "Open"})
	if code != impl.StoreGood {
		t.Fatalf("%s, %d kept: Open: %d", what, keep, code)
	}
	got := impl.Scan(up)
	for n := range len(h.since) + 1 {
		if slices.Equal(got, h.at(n)) {
			return up
		}
	}
	t.Fatalf("%s, %d kept: %v is there, of %v sure and %v since", what, keep, got, h.sure, h.since)
	return up
}

// mustOutliveCrashes lets the disk fall behind each call of the disk that an op
// makes; and, while what is left is opened, behind each call of that.
func mustOutliveCrashes(t *testing.T, what string, s impl.Store, o op, h history, keeps []int) {
	t.Helper()
	_, code, way := plainly(s, o)
	if code != impl.StoreGood {
		t.Fatal(what, o, code)
	}
	for i, d := range append([]impl.Disk{s.D}, way...) {
		for _, keep := range keeps {
			here := fmt.Sprintf("%s: %v, behind %d of %d calls, %d kept", what, o, i, len(way), keep)
			up := mustOpenBehindACrash(t, here, d, keep, h)
			_, _, opening := plainly(impl.Store{D: impl.Fall(d, keep)}, op{call: "Open"})
			for _, half := range opening {
				again := mustOpenBehindACrash(t, here+", and again", half, keep, h)
				if !slices.Equal(impl.Scan(again), impl.Scan(up)) {
					t.Fatalf("%s: %v, opened again %v", here, impl.Scan(up), impl.Scan(again))
				}
			}
		}
	}
	last := way[len(way)-1:]
	if o.call != "Press" && o.call != "Write" && (o.call != "Settle" || len(s.M.Nodes) >= impl.FlushAt) {
		mustHave(t, what+", made sure", mustOpenBehindACrash(t, what, last[0], 0, h), h.all())
	}
}

// scriptHistory does a script, and tells its store and its history.
func scriptHistory(t *testing.T, script string) (impl.Store, history) {
	t.Helper()
	s, h := impl.StoreNew(), history{}
	for _, o := range parseOps(script) {
		next, code := mustDo(t, script, s, o)
		if code != impl.StoreGood {
			t.Fatal(script, o, code)
		}
		s, h = next, h.behind(s, o)
		mustHave(t, script, s, h.all())
	}
	return s, h
}

func TestCrashesWithinAnOp(t *testing.T) {
	keeps := []int{0, 1, 7, 10, 13, 25, 1000, math.MaxInt}
	for _, x := range []string{
		"a=1 | b=2", "a=1 make | a-", "a=1 b=2 | make", "a=1 flush b=2 | make",
		"a=1 | flush", "a=1 b=2 make a=3 c- | flush", "a=1 make a=2 flush a- b=1 | flush", "a=1 flush b=1 make open c=2 | flush",
		"a=1 flush | press0", "a=1 flush a- flush b=2 | press0", "a=1 b=2 flush press0 b=3 c=4 flush a- make c- | press0", "a- flush | press0", "a=1 flush press0 a- flush | press0",
		"a=1 flush press0 press1 a- flush b=7 | press0", "a=1 flush press0 z=1 flush press0 m=1 flush | press0",
		"a=1 flush press0 make b=2 | press1", "a=1 flush press0 press1 a- flush press0 b=2 | press1", "a=1 flush press0 press1 a=2 c=3 flush press0 | press1",
		"a=1 flush press0 press1 b=2 | press2", "a=1 flush press0 press1 press2 a- flush press0 press1 | press2",
		"a=1 b=1 c=1 d=1 e=1 f=1 make g=1 h- | settle", "a=1 flush b=1 flush a- flush c=2 | settle", "a=1 flush b=1 flush make a=3 b=3 c=3 d=3 e=3 f=3 g=3 h- | settle",
		"a=1 flush press0 b=1 flush press0 c=1 flush press0 b- | settle", "a=1 flush press0 press1 b=1 flush press0 press1 c=1 flush press0 press1 a- flush a=2 flush b- flush | settle",
		"a=1 flush b=2 make c=3 | open", "a=1 make b=2 a- | open",
	} {
		script, last, _ := strings.Cut(x, " | ")
		s, h := scriptHistory(t, script)
		o := parseOps(last)[0]
		if o.call == "Write" {
			h = h.behind(s, o)
		}
		mustOutliveCrashes(t, x, s, o, h, keeps)
		next, _ := perform(s, o)
		mustOutliveCrashes(t, x+", and more", next, op{call: "Write", p: impl.Pair{Key: "y", Val: "1"}, tower: 1}, h.behind(s, o).behind(next, parseOps("y=1")[0]), keeps)
	}
}

func TestCrashesWithinASettleOfSeveralLevels(t *testing.T) {
	s := layered(t, []int{2, 2, 2, 1, 1, 1, 0, 0, 0},
		numbered(0, 3), numbered(10, 13), numbered(20, 23), numbered(0, 2), numbered(12, 15), numbered(30, 33), pairs("a=1 k011- z=2"), pairs("k001- k031=new"), pairs("a- k012-"))
	h := history{sure: impl.Scan(s)}
	for _, o := range parseOps("k001=1 k020- settle") {
		next := h.behind(s, o)
		if o.call == "Settle" {
			mustOutliveCrashes(t, "several levels", s, o, h, []int{0, 9, 1000})
		}
		s, _ = perform(s, o)
		h = next
	}
}

// Each number of bytes that a crash keeps, behind each number of records that are sure.
func TestCrashesAtEachByte(t *testing.T) {
	written := parseOps("a=1 b=22 a- c=333 b=4 c-")
	for sure := range len(written) + 1 {
		s, h := impl.StoreNew(), history{}
		for i, o := range append(slices.Clone(written), op{}) {
			if i == sure {
				s, _ = impl.Make(s)
				h = h.made()
			}
			if o.call == "Write" {
				next, _ := impl.Write(s, o.p, o.tower)
				s, h = next, h.behind(s, o)
			}
		}
		log, ends := 0, []int{}
		for _, p := range h.since {
			log += len(slowFrame(slowRecord(p, 1)))
			ends = append(ends, log)
		}
		for keep := range log + 3 {
			whole := 0
			for whole < len(ends) && ends[whole] <= keep {
				whole++
			}
			up := mustOpenBehindACrash(t, fmt.Sprint(sure, " sure"), s.D, keep, h)
			mustHave(t, fmt.Sprint(sure, " sure, ", keep, " bytes kept"), up, h.at(whole))
		}
	}
}

// What Open made sure outlives the next crash, and can be gone on with.
func TestOpenMakesSure(t *testing.T) {
	s, _ := scriptHistory(t, "a=1 make b=2 c=3")
	for keep := range 30 {
		up, _ := impl.Open(impl.Fall(s.D, keep))
		want := impl.Scan(up)
		again, code := impl.Open(impl.Fall(up.D, 0))
		if code != impl.StoreGood || !same(again, up) {
			t.Fatal(keep, code)
		}
		next := mustDoAll(t, again, "d=4 make")
		after, _ := impl.Open(impl.Fall(next.D, 0))
		mustHave(t, "gone on with", after, append(want, pairs("d=4")...))
	}
}

var (
	mostCalls = []string{"Make", "Flush", "Flush", "Settle", "Settle", "Press", "Press", "Press", "Open"}
	fewCalls  = []string{"Flush", "Flush", "Make", "Open"} // they let the tables and the memory grow full
)

func someOp(r *rand.Rand, keys []string, calls []string) op {
	if r.Intn(3) > 0 {
		p := impl.Pair{Key: keys[r.Intn(len(keys))], Gone: r.Intn(3) == 0}
		if !p.Gone {
			p.Val = strings.Repeat("v", r.Intn(3)) + fmt.Sprint(r.Intn(100))
		}
		return op{call: "Write", p: p, tower: 1 + r.Intn(4)}
	}
	return op{call: calls[r.Intn(len(calls))], level: r.Intn(3)}
}

// Long walks: any ops and crashes, held against the plain way and a history.
func TestWalksOverStores(t *testing.T) {
	few := append([]string{"a", "b", "c", "d", "e", "f"}, oddKeys[10:20]...)
	var many []string
	for i := range 90 {
		many = append(many, fmt.Sprintf("key%02d%s", i, strings.Repeat("x", i%10)))
	}
	codes := map[int]int{}
	for seed := range int64(9) {
		r := rand.New(rand.NewSource(seed))
		keys := few
		if seed%2 == 1 {
			keys = many
		}
		calls := mostCalls
		if seed%3 == 2 {
			calls = fewCalls
		}
		s, h := impl.StoreNew(), history{}
		for i := range 250 {
			what := fmt.Sprintf("seed %d, step %d", seed, i)
			o := someOp(r, keys, calls)
			next, code := mustDo(t, what, s, o)
			codes[code]++
			if code == impl.StoreGood {
				s, h = next, h.behind(s, o)
			}
			if got := impl.Scan(s); !slices.Equal(got, h.all()) {
				t.Fatalf("%s: %v: %v, not %v", what, o, got, h.all())
			}
			if r.Intn(20) == 0 {
				s = mustOpenBehindACrash(t, what, s.D, r.Intn(60), h)
				h = history{sure: impl.Scan(s)}
			}
		}
	}
	if codes[impl.StoreGood] < 1000 || codes[impl.StoreNone] < 50 || codes[impl.StoreFull] < 10 {
		t.Error(codes)
	}
}

// Long walks with crashes at any call within any op.
func TestWalksWithCrashesWithinOps(t *testing.T) {
	keys := []string{"a", "b", "c", "d", "e", "f", "g", "h", "i", "j", "k", "l"}
	for seed := range int64(16) {
		r := rand.New(rand.NewSource(seed))
		s, h := impl.StoreNew(), history{}
		for i := range 150 {
			what := fmt.Sprintf("seed %d, step %d", seed, i)
			o := someOp(r, keys, mostCalls)
			_, code, way := plainly(s, o)
			if code == impl.StoreGood && r.Intn(4) == 0 {
				if o.call == "Write" {
					h = h.behind(s, o)
				}
				s = mustOpenBehindACrash(t, what, append(way, s.D)[r.Intn(len(way)+1)], r.Intn(40), h)
				h = history{sure: impl.Scan(s)}
				continue
			}
			if next, code := mustDo(t, what, s, o); code == impl.StoreGood {
				s, h = next, h.behind(s, o)
			}
			mustHave(t, what, s, h.all())
		}
	}
}

// A store that is written and settled again and again goes on until nothing is
// left, and keeps what it has when it is refused.
func TestAStoreThatFillsUp(t *testing.T) {
	s, h := impl.StoreNew(), history{}
	refused := 0
	for i := range 400 {
		p := impl.Pair{Key: fmt.Sprintf("%03d%s", i*37%400, long[:12]), Val: long}
		for _, o := range []op{{call: "Write", p: p, tower: i%4 + 1}, {call: "Settle"}} {
			next, code := perform(s, o)
			switch {
			case code == impl.StoreGood:
				s, h = next, h.behind(s, o)
			case code == impl.StoreFull && same(next, s):
				refused++
			default:
				t.Fatal(i, o, code)
			}
		}
		if i%20 == 0 {
			mustHave(t, fmt.Sprint("behind ", i), s, h.all())
		}
	}
	mustHave(t, "full", s, h.all())
	if refused == 0 || len(h.all()) < 60 {
		t.Error(refused, len(h.all()))
	}
	up, code := impl.Open(impl.Fall(s.D, 0))
	if code != impl.StoreGood || !impl.StoreOk(up) {
		t.Error(code)
	}
}

func FuzzStore(f *testing.F) {
	f.Add([]byte("abcdefghijklmnop"), []byte{1})
	f.Add([]byte{0, 1, 2, 3, 250, 251, 252, 253, 254, 255, 0, 1}, []byte{0, 1})
	f.Fuzz(func(t *testing.T, script []byte, log []byte) {
		s, h := impl.StoreNew(), history{}
		for _, c := range script[:min(len(script), 60)] {
			o := op{call: "Write", p: impl.Pair{Key: string([]byte{'a' + c%16}), Gone: c%5 == 0}, tower: int(c)%4 + 1}
			if c >= 192 {
				o = op{call: []string{"Make", "Flush", "Press", "Settle", "Open"}[c%5], level: int(c) / 5 % 3}
			}
			if next, code := mustDo(t, "any", s, o); code == impl.StoreGood {
				s, h = next, h.behind(s, o)
			}
			mustHave(t, "any", s, h.all())
		}
		mustOpenBehindACrash(t, "any", s.D, len(log), h)
		if d, code := impl.Append(s.D, slowLogName(s.Man), log); code == impl.DiskGood {
			mustDo(t, "any log", impl.Store{D: d}, op{call: "Open"})
		}
	})
}
