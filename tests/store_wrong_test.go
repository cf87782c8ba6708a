package tests

import (
	"bytes"
	"fmt"
	"slices"
	"strings"
	"testing"

	"loop.example/g00184/impl"
)

var allOps = parseOps("a=new zz- make flush press0 press1 press2 settle")

// mustBeNoStore asks of a store that is not right all that can be asked of it.
func mustBeNoStore(t *testing.T, what string, s impl.Store) {
	t.Helper()
	if impl.StoreOk(s) {
		t.Errorf("%s: StoreOk", what)
	}
	for _, o := range append([]op{{call: "Write"}, {call: "Press", level: -1}, {call: "Press", level: 3}}, allOps...) {
		mustRefuseOp(t, what, s, o, impl.StoreForm)
	}
	for _, key := range []string{"a", "b", "c", "k", "none", ""} {
		mustRead(t, what, s, key, "", impl.StoreForm)
	}
	if l := impl.Scan(s); len(l) != 0 {
		t.Errorf("%s: Scan: %v", what, l)
	}
}

// A bentStore has two tables, of level 0 and 1, and two pairs in memory.
func bentStore(t *testing.T) impl.Store {
	t.Helper()
	s := storeOf(t, "a=1 b=2 c=3 d=4 e=5 flush press0 b- c=4 flush c=5/2 f=6/3", "a=1 c=5 d=4 e=5 f=6")
	mustHaveTables(t, "bent", s, "4:1:a-e 5:0:b-c")
	return s
}

// withData has other bytes in a file.
func withData(t *testing.T, s impl.Store, name string, b []byte) impl.Store {
	t.Helper()
	d, code := impl.Remove(s.D, name)
	if code != impl.DiskGood {
		t.Fatal(name, code)
	}
	d, _ = impl.Create(d, name)
	s.D = mustAppend(t, d, name, b)
	return s
}

func dataOf(t *testing.T, s impl.Store, name string) []byte {
	t.Helper()
	b, ok := impl.Bytes(s.D, name)
	if !ok {
		t.Fatal("no", name)
	}
	return b
}

func TestStoresWithAWrongPart(t *testing.T) {
	s := bentStore(t)
	mustBeNoStore(t, "the zero one", impl.Store{})
	for why, d := range wrongDisks() {
		mustBeNoStore(t, why, impl.Store{D: d, M: s.M, Man: s.Man})
	}
	next := s.D
	next.Next = 1
	mustBeNoStore(t, "right but for its Next", impl.Store{D: next, M: s.M, Man: s.Man})
	for why, m := range wrongMems() {
		mustBeNoStore(t, why, impl.Store{D: s.D, M: m, Man: s.Man})
	}
	for why, m := range wrongManifests() {
		mustBeNoStore(t, why, impl.Store{D: s.D, M: s.M, Man: m})
	}
}

func TestStoresOfAnotherManifest(t *testing.T) {
	s := bentStore(t)
	for why, change := range map[string]func(m *impl.Manifest){
		"Next":               func(m *impl.Manifest) { m.Next++ },
		"Log":                func(m *impl.Manifest) { m.Log-- },
		"a table less":       func(m *impl.Manifest) { m.Tables = m.Tables[:1] },
		"the other one less": func(m *impl.Manifest) { m.Tables = m.Tables[1:] },
		"no table":           func(m *impl.Manifest) { m.Tables = nil },
		"a level":            func(m *impl.Manifest) { m.Tables[0].Level = 2 },
		"a No":               func(m *impl.Manifest) { m.Tables[0].No = 3 },
		"a Lo":               func(m *impl.Manifest) { m.Tables[0].Lo = "aa" },
		"a Hi":               func(m *impl.Manifest) { m.Tables[1].Hi = "d" },
		"a table more": func(m *impl.Manifest) {
			m.Next++
			m.Tables = append(m.Tables, impl.Meta{No: m.Next - 1, Level: 3, Lo: "a", Hi: "b"})
		},
	} {
		bent := impl.Store{D: s.D, M: s.M, Man: impl.Manifest{Next: s.Man.Next, Log: s.Man.Log, Tables: slices.Clone(s.Man.Tables)}}
		change(&bent.Man)
		mustBeNoStore(t, "Man is another one: "+why, bent)
		if !slowManOk(bent.Man) {
			t.Error(why, "is not right by itself")
		}
		bent = withData(t, s, "cur", []byte(slowManText(bent.Man)))
		mustBeNoStore(t, "cur is another one: "+why, bent)
	}
	removed, _ := impl.Remove(s.D, "cur")
	mustBeNoStore(t, "cur is not there", impl.Store{D: removed, M: s.M, Man: s.Man})
	renamed, _ := impl.Rename(s.D, "cur", "new")
	mustBeNoStore(t, "cur is new", impl.Store{D: renamed, M: s.M, Man: s.Man})
	for _, cur := range []string{"", "x", slowManText(s.Man) + "\n", strings.TrimSuffix(slowManText(s.Man), "\n"), newText} {
		mustBeNoStore(t, "cur is no manifest", withData(t, s, "cur", []byte(cur)))
	}
}

// record is a whole record of a pair that is told as pairs are.
func record(p string, tower int) string { return slowFrame(slowRecord(pairs(p)[0], tower)) }

func TestStoresWithAnotherLog(t *testing.T) {
	s := bentStore(t)
	right := record("c=5", 2) + record("f=6", 3)
	if string(dataOf(t, s, "log-6")) != right {
		t.Fatal(s.D)
	}
	removed, _ := impl.Remove(s.D, "log-6")
	mustBeNoStore(t, "no log", impl.Store{D: removed, M: s.M, Man: s.Man})
	mustBeNoStore(t, "no log, and no memory", impl.Store{D: removed, Man: s.Man})
	renamed, _ := impl.Rename(s.D, "log-6", "log-7")
	mustBeNoStore(t, "another number", impl.Store{D: renamed, M: s.M, Man: s.Man})
	for why, log := range map[string]string{
		"empty": "", "one less": record("c=5", 2), "another one less": record("f=6", 3), "one more": right + record("g=7", 1), "one more Gone": right + record("g-", 1),
		"another value": record("c=5", 2) + record("f=7", 3), "another key": record("c=5", 2) + record("g=6", 3), "another tower": record("c=5", 2) + record("f=6", 4),
		"Gone": record("c=5", 2) + record("f-", 3), "a later one": right + record("c=6", 2), "torn": right[:len(right)-1], "spoilt": right[:9] + "\x00" + right[10:],
		"behind what is none": "\x01" + right, "another tower first": record("f=6", 1) + right, "no value": record("c=5", 2) + record("f=", 3),
	} {
		mustBeNoStore(t, "log: "+why, withData(t, s, "log-6", []byte(log)))
	}
	for why, log := range map[string]string{
		"in another order": record("f=6", 3) + record("c=5", 2), "written twice": right + right, "written over": record("c=1", 2) + record("f-", 3) + right,
		"another tower of what is there": right + record("c=5", 4), "and back": right + record("c-", 1) + record("c=5", 3),
	} {
		mustHave(t, why, withData(t, s, "log-6", []byte(log)), pairs("a=1 c=5 d=4 e=5 f=6"))
	}
	for why, body := range noRecords {
		mustBeNoStore(t, why, withData(t, s, "log-6", []byte(right+slowFrame(body))))
		mustBeNoStore(t, why, withData(t, s, "log-6", []byte(slowFrame(body)+right)))
		alone := withData(t, s, "log-6", []byte(slowFrame(body)))
		mustBeNoStore(t, why+", and no memory", impl.Store{D: alone.D, Man: s.Man})
	}
	mustBeNoStore(t, "another memory", impl.Store{D: s.D, M: mem("c2"), Man: s.Man})
	mustBeNoStore(t, "no memory", impl.Store{D: s.D, Man: s.Man})
	mustBeNoStore(t, "more in memory", impl.Store{D: s.D, M: impl.Mem{Nodes: append(slices.Clone(s.M.Nodes), mem("g1").Nodes...)}, Man: s.Man})
}

// None of these bodies is the record of a pair.
var noRecords = map[string]string{
	"an empty body":           "",
	"a key alone":             "\x01a",
	"no value":                "\x01a\x00",
	"no tower":                "\x01a\x00\x011",
	"two towers":              "\x01a\x00\x011\x01\x01",
	"tower 0":                 "\x01a\x00\x011\x00",
	"tower 5":                 "\x01a\x00\x011\x05",
	"tower 255":               "\x01a\x00\x011\xff",
	"a digit as tower":        "\x01a\x00\x0111",
	"2 for Gone":              "\x01a\x02\x011\x01",
	"a digit for Gone":        "\x01a0\x011\x01",
	"Gone with a value":       "\x01a\x01\x011\x01",
	"no key":                  "\x00\x00\x011\x01",
	"no key, Gone":            "\x00\x01\x00\x01",
	"a long key":              "\x15" + strings.Repeat("x", 21) + "\x00\x00\x01",
	"a long value":            "\x01a\x00\x15" + strings.Repeat("x", 21) + "\x01",
	"a count past the end":    "\x09a\x00\x011\x01",
	"a value past the end":    "\x01a\x00\x091\x01",
	"a needless group":        "\x80\x01a\x00\x011\x01",
	"a count above MaxNum":    "\x83\xdc\xeb\x94\x01a\x00\x011\x01",
	"a count that has no end": "\x01a\x00\x81",
	"a frame in a frame":      slowFrame("\x01a\x00\x011\x01"),
	"five bytes of 0":         "\x00\x00\x00\x00\x00",
}

func TestStoresWithAnotherTable(t *testing.T) {
	s := bentStore(t)
	for _, x := range s.Man.Tables {
		name := slowTableName(x.No)
		right := dataOf(t, s, name)
		removed, _ := impl.Remove(s.D, name)
		mustBeNoStore(t, name+" is not there", impl.Store{D: removed, M: s.M, Man: s.Man})
		renamed, _ := impl.Rename(s.D, name, "tab-9")
		mustBeNoStore(t, name+" is tab-9", impl.Store{D: renamed, M: s.M, Man: s.Man})
		for i := range right {
			bent := bytes.Clone(right)
			bent[i] ^= 1 << (i % 8)
			mustBeNoStore(t, fmt.Sprint(name, " is bent at ", i), withData(t, s, name, bent))
		}
		for why, bent := range map[string][]byte{
			"empty": {}, "cut": right[:len(right)-1], "longer": append(bytes.Clone(right), 1), "of other blocks": slowBuilt(slowTable(s.D, x.No), 3).bytes(), "no table": []byte("x"),
		} {
			if x.No == 5 && why == "of other blocks" {
				continue // two pairs are one block in any case
			}
			mustBeNoStore(t, name+" is "+why, withData(t, s, name, bent))
		}
		for _, l := range []string{"a=1", "b=2", "a=1 e=5 f=6", "0=1 a=1 e=5", "b- c=4 d=4", "a=1 b- c=4", "b- b1=1", "b1=1 c=4", "a=1 d=4"} {
			mustBeNoStore(t, name+" has other first and last keys", withData(t, s, name, slowBuilt(pairs(l), 4).bytes()))
		}
	}
	other := withData(t, s, "tab-4", slowBuilt(pairs("a=9 e=9"), 4).bytes())
	mustHave(t, "other pairs, the same first and last keys", other, pairs("a=9 c=5 e=9 f=6"))
	swapped, _ := impl.Rename(s.D, "tab-4", "tab-9")
	swapped, _ = impl.Rename(swapped, "tab-5", "tab-4")
	swapped, _ = impl.Rename(swapped, "tab-9", "tab-5")
	mustBeNoStore(t, "each has the other's name", impl.Store{D: swapped, M: s.M, Man: s.Man})
}

// Such a store is not StoreOk, and that is named first: StoreForm, not StoreBad.
func TestReadOfAStoreWithABentTable(t *testing.T) {
	s := bentStore(t)
	bent := withData(t, s, "tab-4", append(dataOf(t, s, "tab-4"), 1))
	for _, key := range []string{"a", "b", "c", "f", "none"} {
		mustRead(t, "bent", bent, key, "", impl.StoreForm)
	}
}

func mustNotOpen(t *testing.T, what string, d impl.Disk, code int) {
	t.Helper()
	mustRefuseOp(t, what, impl.Store{D: d}, op{call: "Open"}, code)
}

func TestOpenOfDisksThatAreNoStore(t *testing.T) {
	for why, d := range wrongDisks() {
		mustNotOpen(t, why, d, impl.StoreForm)
	}
	mustNotOpen(t, "the zero one", impl.Disk{}, impl.StoreForm)
	s := bentStore(t)
	next := s.D
	next.Next = 1
	mustNotOpen(t, "right but for its Next", next, impl.StoreForm)
	mustNotOpen(t, "a new disk", impl.DiskNew(), impl.StoreBad)
	for _, script := range []string{"+cur", "+cur +log-1", "+log-1", "+cur cur=x", "+new", "+a a=x !", "+log-0", "+cur +log-0", "+cur cur=x +log-0 !"} {
		mustNotOpen(t, script, diskOf(t, script), impl.StoreBad)
	}
	for _, name := range []string{"cur", "log-6", "tab-4", "tab-5"} {
		removed, _ := impl.Remove(s.D, name)
		mustNotOpen(t, "without "+name, removed, impl.StoreBad)
		renamed, _ := impl.Rename(s.D, name, "x")
		mustNotOpen(t, "renamed "+name, renamed, impl.StoreBad)
		if name != "log-6" { // an empty log is one
			mustNotOpen(t, "empty "+name, withData(t, s, name, nil).D, impl.StoreBad)
			mustNotOpen(t, "longer "+name, mustAppend(t, s.D, name, []byte{10}), impl.StoreBad)
		}
	}
	for i := range dataOf(t, s, "tab-4") {
		b := dataOf(t, s, "tab-4")
		b[i] ^= 1 << (i % 8)
		mustNotOpen(t, fmt.Sprint("bent at ", i), withData(t, s, "tab-4", b).D, impl.StoreBad)
	}
	for _, l := range []string{"a=1", "a=1 e=5 f=6", "b=1 e=5", "0=1 e=5"} {
		mustNotOpen(t, "other keys", withData(t, s, "tab-4", slowBuilt(pairs(l), 4).bytes()).D, impl.StoreBad)
	}
	m := man("7/9")
	mustNotOpen(t, "a manifest that is not right", withData(t, s, "cur", []byte(slowManText(m))).D, impl.StoreBad)
	full := withFiles(t, impl.Store{D: mustAppend(t, s.D, "log-6", []byte{1})}, impl.MaxFiles)
	mustNotOpen(t, "no room, and a table that is bent", mustAppend(t, full.D, "tab-4", []byte{1}), impl.StoreBad)
}

func TestOpenOfLogs(t *testing.T) {
	s := bentStore(t)
	right := record("c=5", 2) + record("f=6", 3)
	for why, x := range map[string][2]string{
		"torn":                {right + record("g=7", 1)[:7], "a=1 c=5 d=4 e=5 f=6"},
		"torn in its sum":     {right + "\x01", "a=1 c=5 d=4 e=5 f=6"},
		"torn at its first":   {right[:3], "a=1 c=4 d=4 e=5"},
		"empty":               {"", "a=1 c=4 d=4 e=5"},
		"spoilt in the midst": {record("c=5", 2) + "\x00" + record("f=6", 3), "a=1 c=5 d=4 e=5"},
		"whole":               {right, "a=1 c=5 d=4 e=5 f=6"},
		"more":                {right + record("a-", 1) + record("c=7", 1), "c=7 d=4 e=5 f=6"},
	} {
		opened, code := mustDo(t, why, impl.Store{D: withData(t, s, "log-6", []byte(x[0])).D}, op{call: "Open"})
		if code != impl.StoreGood {
			t.Fatal(why, code)
		}
		mustHave(t, why, opened, pairs(x[1]))
		mustDoAll(t, opened, "open make g=7 g=8 settle")
	}
	for why, body := range noRecords {
		for _, log := range []string{right + slowFrame(body), slowFrame(body) + right, slowFrame(body) + "\x01", slowFrame(body)} {
			mustNotOpen(t, why, withData(t, s, "log-6", []byte(log)).D, impl.StoreBad)
		}
		mustDoAll(t, impl.Store{D: withData(t, s, "log-6", []byte(right+"\x01"+slowFrame(body))).D}, "open", "a=1 c=5 d=4 e=5 f=6")
	}
	log := ""
	for i, p := range numbered(0, 61) {
		if i == 60 {
			opened := mustDoAll(t, impl.Store{D: withData(t, s, "log-6", []byte(log)).D}, "open")
			if len(opened.M.Nodes) != impl.MaxMem {
				t.Error(len(opened.M.Nodes))
			}
			mustNotOpen(t, "MaxMem, and one written again", withData(t, s, "log-6", []byte(log+record("k000=1", 1))).D, impl.StoreBad)
		}
		log += slowFrame(slowRecord(p, 1))
	}
	mustNotOpen(t, "more than MaxMem", withData(t, s, "log-6", []byte(log)).D, impl.StoreBad)
}

func TestOpenWithFilesThatNoOneNames(t *testing.T) {
	s := bentStore(t)
	for _, script := range []string{"+x", "+new new=x", "+mend mend=x !mend !", "+log-1 +log-7 +tab-1 +tab-6 tab-6=x", "+tab-04 +tab +cur.", "+log-5 ! -log-5 +0"} {
		d := s.D
		for _, st := range parseSteps(script) {
			d, _ = take(d, st)
		}
		for _, behind := range []string{"", "\x01\x02"} {
			opened := mustDoAll(t, impl.Store{D: mustAppend(t, d, "log-6", []byte(behind))}, "open", "a=1 c=5 d=4 e=5 f=6")
			if !same(impl.List(opened.D), []string{"cur", "log-6", "tab-4", "tab-5"}) || len(opened.D.Inodes) != 4 || !same(opened.D.Names, opened.D.Safe) {
				t.Error(script, opened.D)
			}
			again := mustDoAll(t, opened, "open")
			if !same(again, opened) {
				t.Error(script, "another one, opened again")
			}
		}
	}
}

func storesForMemory(t *testing.T) map[string]impl.Store {
	s := bentStore(t)
	out := map[string]impl.Store{
		"new": impl.StoreNew(), "bent": s, "the zero one": {},
		"due":           storeOf(t, "a=1 flush b=2 flush a- c=3 d=3 e=3 f=3 g=3 h=3 i=3"),
		"nothing left":  storeOf(t, "a- flush"),
		"all levels":    layered(t, []int{3, 2, 1, 0}, pairs("a=1 b=2"), pairs("a- c=3"), pairs("a=4"), pairs("b-")),
		"seven":         layered(t, []int{0, 1, 1}, numbered(0, 7), numbered(3, 5), numbered(6, 9)),
		"full":          withFiles(t, s, impl.MaxFiles),
		"no bytes left": withBytes(t, s, 3),
		"torn":          {D: mustAppend(t, s.D, "log-6", []byte{1, 2}), M: s.M, Man: s.Man},
		"no log":        withData(t, s, "log-6", nil),
		"a bent table":  withData(t, s, "tab-4", []byte{1}),
		"no manifest":   {D: s.D, M: s.M},
	}
	for why, d := range wrongDisks() {
		out[why] = impl.Store{D: d, M: s.M, Man: s.Man}
	}
	shared := []byte("next 2 log 1\nend\n")
	twice := entries("cur1 log-12")
	empty := make([]byte, 0, 9)
	out["lists that are shared"] = impl.Store{D: disk(inodes(impl.Inode{Id: 1, Data: shared}, impl.Inode{Id: 2, Data: empty}), twice, twice, 3), Man: man("2/1")}
	return out
}

func TestMemoryOfStores(t *testing.T) {
	for why, s := range storesForMemory(t) {
		for _, o := range append([]op{{call: "Write"}, {call: "Press", level: -1}, {call: "Open"}}, allOps...) {
			checkMemory(t, fmt.Sprint(why, ": ", o), []any{s}, func(args []any) []any {
				next, _ := perform(args[0].(impl.Store), o)
				return []any{next}
			})
		}
		checkMemory(t, why, []any{s}, func(args []any) []any {
			s := args[0].(impl.Store)
			v, _ := impl.Read(s, "a")
			return []any{impl.Scan(s), v, impl.StoreOk(s)}
		})
	}
	checkMemory(t, "new", nil, func([]any) []any { return []any{impl.StoreNew(), impl.StoreNew()} })
	s := storesForMemory(t)["lists that are shared"]
	if !impl.StoreOk(s) {
		t.Error("lists that are shared")
	}
}

// What a store answers does not change with the store it was made of.
func TestAnswersOfAStoreAreNotKeptWithIt(t *testing.T) {
	s := bentStore(t)
	next, _ := impl.Write(s, impl.Pair{Key: "x", Val: "1"}, 1)
	flushed, _ := impl.Flush(s)
	want, wantFlushed := wholeCopy(next), wholeCopy(flushed)
	for _, n := range s.D.Inodes {
		clear(n.Data)
	}
	clear(s.D.Inodes)
	clear(s.D.Names)
	clear(s.D.Safe)
	clear(s.M.Nodes)
	clear(s.Man.Tables)
	if !same(wholeCopy(next), want) || !same(wholeCopy(flushed), wantFlushed) {
		t.Error("changed with the store")
	}
}
