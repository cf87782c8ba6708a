package tests

import (
	"fmt"
	"slices"
	"testing"

	"loop.example/g00184/impl"
)

// withFiles has empty files that no one names, so that there are this many in all.
func withFiles(t *testing.T, s impl.Store, count int) impl.Store {
	t.Helper()
	for i := len(impl.List(s.D)); i < count; i++ {
		d, code := impl.Create(s.D, fmt.Sprintf("z%02d", i))
		if code != impl.DiskGood {
			t.Fatal(i, code)
		}
		s.D = d
	}
	return s
}

// withBytes has a file that no one names, so that this many bytes are left.
func withBytes(t *testing.T, s impl.Store, left int) impl.Store {
	t.Helper()
	d, code := impl.Create(s.D, "zz")
	if code != impl.DiskGood {
		t.Fatal(code)
	}
	used := 0
	for _, n := range d.Inodes {
		used += len(n.Data)
	}
	s.D = mustAppend(t, d, "zz", make([]byte, impl.MaxDisk-used-left))
	return s
}

// fullCases are stores, each with an op that asks for room.
func fullCases(t *testing.T) map[string]struct {
	s impl.Store
	o op
} {
	out := map[string]struct {
		s impl.Store
		o op
	}{}
	add := func(script string, o string) {
		s := storeOf(t, script)
		out[script+", then "+o] = struct {
			s impl.Store
			o op
		}{s, parseOps(o)[0]}
	}
	add("a=1", "b=22/3")
	add("a=1 flush", "a-")
	add("a=1 b=2", "flush")
	add("a=1 flush b=2 c=3 d=4 e=5 f=6", "flush")
	add("a=1 flush", "press0")
	add("a=1 flush b=2 flush", "press0")
	add("a=1 b=2 c=3 d=4 flush e=5 f=6 g=7 flush", "press0")
	add("a=1 flush press0 a=2 flush", "press0")
	add("a=1 flush press0", "press1")
	add("a=1 flush press0 press1 a- flush press0", "press1")
	add("a=1 flush press0 press1", "press2")
	add("a=1 b=1 c=1 d=1 e=1 f=1 g=1 h=1", "settle")
	add("a=1 flush b=1 flush c=1 flush", "settle")
	add("a=1 flush b=1 flush a=3 b=3 c=3 d=3 e=3 f=3 g=3 h=3", "settle")
	return out
}

// Whatever is left of names, bytes or numbers: each call of the disk that is
// refused tells StoreFull, and leaves the store as it was.
func TestStoresWithoutRoom(t *testing.T) {
	for why, x := range fullCases(t) {
		sweep := func(what string, from int, to int, bent func(n int) impl.Store) {
			codes := map[int]int{}
			// Once there are bytes enough, more of them tell nothing new.
			for n := from; n <= to && (what != "bytes" || codes[impl.StoreGood] < 5); n++ {
				s := bent(n)
				_, code := mustDo(t, fmt.Sprint(why, ", ", what, " ", n), s, x.o)
				codes[code]++
				if code == impl.StoreFull {
					mustRefuseOp(t, why, s, x.o, impl.StoreFull)
					mustHave(t, why, s, slowScan(x.s))
				} else if code != impl.StoreGood {
					t.Fatal(why, what, n, code)
				}
			}
			// A write asks for bytes alone.
			if codes[impl.StoreGood] == 0 || codes[impl.StoreFull] == 0 && (x.o.call != "Write" || what == "bytes") {
				t.Errorf("%s, %s: %v", why, what, codes)
			}
		}
		sweep("files", len(impl.List(x.s.D)), impl.MaxFiles, func(n int) impl.Store { return withFiles(t, x.s, n) })
		sweep("bytes", 0, 500, func(n int) impl.Store { return withBytes(t, x.s, n) })
		sweep("the next Id", lastNext-12, lastNext, func(n int) impl.Store {
			s := x.s
			s.D.Next = n
			return s
		})
	}
}

func TestOpenWithoutRoom(t *testing.T) {
	s := storeOf(t, "a=1 flush b=2 make c=3")
	torn := impl.Store{D: impl.Fall(s.D, 5)}
	whole := impl.Store{D: impl.Fall(s.D, 0)}
	kept := len(slowFrame(slowRecord(impl.Pair{Key: "b", Val: "2"}, 1)))
	for left := range kept + 3 {
		bent := withBytes(t, torn, left)
		_, code := mustDo(t, fmt.Sprint("room for ", left), bent, op{call: "Open"})
		if good := left >= kept; good != (code == impl.StoreGood) || !good && code != impl.StoreFull {
			t.Error(left, code)
		}
		mustDoAll(t, withBytes(t, whole, left), "open", "a=1 b=2")
	}
	mustDoAll(t, withFiles(t, torn, impl.MaxFiles-1), "open", "a=1 b=2")
	mustDoAll(t, withFiles(t, whole, impl.MaxFiles), "open", "a=1 b=2")
	mustRefuseOp(t, "no name is left", withFiles(t, torn, impl.MaxFiles), op{call: "Open"}, impl.StoreFull)
	torn.D.Next = lastNext - 1
	mustDoAll(t, torn, "open", "a=1 b=2")
	torn.D.Next, whole.D.Next = lastNext, lastNext
	mustRefuseOp(t, "no Id is left", torn, op{call: "Open"}, impl.StoreFull)
	mustDoAll(t, whole, "open", "a=1 b=2")
}

// What asks for no room is done on a disk that has none.
func TestMakeOnAFullDisk(t *testing.T) {
	s := storeOf(t, "a=1 flush b=2")
	for _, full := range []impl.Store{withBytes(t, s, 0), withFiles(t, s, impl.MaxFiles), withBytes(t, withFiles(t, s, impl.MaxFiles-1), 0)} {
		mustDoAll(t, full, "make settle", "a=1 b=2")
		mustDoAll(t, full, "make open", "a=1 b=2")
	}
}

func TestMemoryOfAStoreIsFull(t *testing.T) {
	s := impl.StoreNew()
	for i := range impl.MaxMem {
		next, code := mustDo(t, "write", s, op{call: "Write", p: numbered(0, 60)[i*7%60], tower: i%4 + 1})
		if code != impl.StoreGood {
			t.Fatal(i, code)
		}
		s = next
	}
	mustHave(t, "full", s, numbered(0, 60))
	for _, p := range pairs("a=1 z- k000=new k059-") { // also a key that is there: so says chapter 4
		mustRefuseOp(t, "MaxMem are there", s, op{call: "Write", p: p, tower: 1}, impl.StoreFull)
	}
	mustRefuseOp(t, "MaxMem are there, and a wrong pair", s, op{call: "Write", tower: 1}, impl.StoreForm)
	mustHave(t, "opened", mustDoAll(t, s, "make open"), numbered(0, 60))
	mustHave(t, "settled", mustDoAll(t, s, "settle a=1 a-"), numbered(0, 60))
}

func TestMostTables(t *testing.T) {
	s := impl.StoreNew()
	for i := range impl.MaxTables {
		s = mustDoAll(t, s, fmt.Sprintf("a=%d k%d=1 flush", i, i%3))
	}
	mustHave(t, "most", s, pairs("a=19 k0=1 k1=1 k2=1"))
	if len(s.Man.Tables) != 20 || len(impl.List(s.D)) != 22 {
		t.Error(tablesOf(s), impl.List(s.D))
	}
	more := mustDoAll(t, s, "b=1 make open")
	mustRefuseOp(t, "one more", more, op{call: "Flush"}, impl.StoreFull)
	mustHave(t, "open", mustDoAll(t, s, "open"), pairs("a=19 k0=1 k1=1 k2=1"))
	pressed := mustDoAll(t, more, "press0 flush", "a=19 b=1 k0=1 k1=1 k2=1")
	mustHaveTables(t, "pressed", pressed, "42:1:a-k2 43:0:b-b")
	eight := s
	for _, p := range numbered(0, 8) {
		eight, _ = mustDo(t, "write", eight, op{call: "Write", p: p, tower: 1})
	}
	mustRefuseOp(t, "the flush that is due", eight, op{call: "Settle"}, impl.StoreFull)
	mustDoAll(t, s, "c=1 settle", "a=19 c=1 k0=1 k1=1 k2=1")
}

// A press that would make MaxTables, and one that would make one more.
func TestPressToTheMostTables(t *testing.T) {
	lists := [][]impl.Pair{numbered(500, 506)}
	levels := []int{0}
	for i := range 17 {
		lists = append(lists, numbered(i*10, i*10+3))
		levels = append(levels, 3)
	}
	for count, good := range map[int]bool{6: true, 17: true, 18: true, 19: false, 24: false} {
		lists[0] = numbered(500, 500+count)
		s := layered(t, levels, lists...)
		pressed, code := mustDo(t, "press", s, op{call: "Press"})
		if good != (code == impl.StoreGood) || !good && code != impl.StoreFull {
			t.Error(count, code, tablesOf(pressed))
		}
		if count == 18 && len(pressed.Man.Tables) != impl.MaxTables {
			t.Error(tablesOf(pressed))
		}
	}
}

// numberedStore has a table at level 0 and a pair in memory, and is to go on with this number.
func numberedStore(t *testing.T, next int, l []impl.Pair) impl.Store {
	t.Helper()
	m := impl.Manifest{Next: next, Log: next - 1, Tables: []impl.Meta{{No: next - 2, Lo: l[0].Key, Hi: l[len(l)-1].Key}}}
	return handStore(t, m, [][]impl.Pair{l}, mem("m1").Nodes)
}

func TestNumbersThatAreLeft(t *testing.T) {
	for next := lastNumber - 5; next <= lastNumber; next++ {
		what := fmt.Sprint("Next ", next)
		s := numberedStore(t, next, numbered(0, 3))
		_, code := mustDo(t, what, s, op{call: "Flush"})
		if good := next+2 <= lastNumber; good != (code == impl.StoreGood) || !good && code != impl.StoreFull {
			t.Error(what, "Flush", code)
		}
		for _, count := range []int{6, 7, 13} {
			s := numberedStore(t, next, numbered(0, count))
			pressed, code := mustDo(t, what, s, op{call: "Press"})
			if good := next+(count+5)/6 <= lastNumber; good != (code == impl.StoreGood) || !good && code != impl.StoreFull {
				t.Error(what, "Press of", count, code)
			}
			if code == impl.StoreGood && pressed.Man.Next != next+(count+5)/6 {
				t.Error(what, pressed.Man)
			}
		}
		mustDoAll(t, numberedStore(t, next, pairs("a- b-")), "press0", "m=m") // no pair is left, so no number is asked for
		mustDoAll(t, s, "x=1 make open settle x-", "k000=0 k001=1 k002=2 m=m")
	}
}

// A settle that fails at its second step leaves nothing of the first one.
func TestSettleThatIsRefusedOnItsWay(t *testing.T) {
	l := slices.Concat(numbered(0, 3))
	m := impl.Manifest{Next: lastNumber - 2, Log: lastNumber - 3, Tables: []impl.Meta{{No: 1, Lo: "k000", Hi: "k002"}, {No: 2, Lo: "k000", Hi: "k002"}}}
	s := handStore(t, m, [][]impl.Pair{l, l}, fullMem(8).Nodes)
	if flushed, code := mustDo(t, "the first step", s, op{call: "Flush"}); code != impl.StoreGood || len(flushed.Man.Tables) != 3 {
		t.Fatal(code)
	}
	mustRefuseOp(t, "settle", s, op{call: "Settle"}, impl.StoreFull)
}
