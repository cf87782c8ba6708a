package tests

import (
	"fmt"
	"math"
	"slices"
	"strings"
	"testing"

	"loop.example/g00184/impl"
)

var (
	_ func() impl.Store                                  = impl.StoreNew
	_ func(impl.Store) bool                              = impl.StoreOk
	_ func(impl.Store, impl.Pair, int) (impl.Store, int) = impl.Write
	_ func(impl.Store) (impl.Store, int)                 = impl.Make
	_ func(impl.Store, string) (string, int)             = impl.Read
	_ func(impl.Store) []impl.Pair                       = impl.Scan
	_ func(impl.Store) (impl.Store, int)                 = impl.Flush
	_ func(impl.Store, int) (impl.Store, int)            = impl.Press
	_ func(impl.Store) (impl.Store, int)                 = impl.Settle
	_ func(impl.Disk) (impl.Store, int)                  = impl.Open
	_                                                    = impl.Store{D: impl.Disk{}, M: impl.Mem{}, Man: impl.Manifest{}}
	_ [impl.FlushAt]struct{}                             = [8]struct{}{}
	_ [impl.LevelRoom]struct{}                           = [2]struct{}{}
)

func TestStoreConstants(t *testing.T) {
	if impl.StoreGood != 0 || impl.StoreForm != 1 || impl.StoreFull != 2 || impl.StoreNone != 3 || impl.StoreBad != 4 {
		t.Error("codes")
	}
}

const newText = "next 2 log 1\nend\n"

func newCur() impl.Inode { return inode(2, newText, len(newText)) }

func TestStoreNew(t *testing.T) {
	s := impl.StoreNew()
	mustBeDisk(t, "new", s.D, disk(inodes(inode(1, "", 0), newCur()), entries("cur2 log-11"), entries("cur2 log-11"), 3))
	if !same(s.Man, man("2/1")) || len(s.M.Nodes) != 0 {
		t.Error(s.Man, s.M)
	}
	mustHave(t, "new", s, nil)
	mustDoAll(t, s, "open make settle", "")
	for _, script := range []string{"flush", "press0", "press1", "press2"} {
		mustRefuseOp(t, "new", s, parseOps(script)[0], impl.StoreNone)
	}
}

func TestWriteByHand(t *testing.T) {
	s := storeOf(t, "b=23/4 a-/2 b=/1", "b=")
	log := "\x01b\x00\x0223\x04"
	want := slowFrame(log) + slowFrame("\x01a\x01\x00\x02") + slowFrame("\x01b\x00\x00\x01")
	mustBeDisk(t, "written", s.D, disk(inodes(inode(1, want, 0), newCur()), entries("cur2 log-11"), entries("cur2 log-11"), 3))
	nodes := []impl.Node{{P: impl.Pair{Key: "a", Gone: true}, Tower: 2}, {P: impl.Pair{Key: "b"}, Tower: 4}}
	if !slices.Equal(s.M.Nodes, nodes) || !same(s.Man, man("2/1")) {
		t.Error(s.M, s.Man)
	}
	made := mustDoAll(t, s, "make", "b=")
	mustBeDisk(t, "made sure", made.D, disk(inodes(inode(1, want, len(want)), newCur()), entries("cur2 log-11"), entries("cur2 log-11"), 3))
}

func TestFlushByHand(t *testing.T) {
	s := storeOf(t, "b=2/3 a=1/2 flush", "a=1 b=2")
	table := string(slowBuilt(pairs("a=1 b=2"), 4).bytes())
	old := slowFrame("\x01b\x00\x012\x03") + slowFrame("\x01a\x00\x011\x02")
	cur := "next 4 log 3\ntab 2 0 61 62\nend\n"
	want := disk(
		inodes(inode(1, old, 0), inode(3, table, len(table)), inode(4, "", 0), inode(5, cur, len(cur))),
		entries("cur5 log-34 tab-23"), entries("cur5 log-11 log-34 tab-23"), 6)
	mustBeDisk(t, "flushed", s.D, want) // the old log would come back behind a crash, and Open removes it
	if !same(s.Man, man("4/3 2:0:a:b")) || len(s.M.Nodes) != 0 {
		t.Error(s.Man, s.M)
	}
	opened := mustDoAll(t, s, "open", "a=1 b=2")
	want = disk(
		inodes(inode(3, table, len(table)), inode(4, "", 0), inode(5, cur, len(cur))),
		entries("cur5 log-34 tab-23"), entries("cur5 log-34 tab-23"), 6)
	mustBeDisk(t, "opened", opened.D, want)
}

func TestPressByHand(t *testing.T) {
	s := storeOf(t, "b=2 flush a=1 flush press0", "a=1 b=2")
	table := string(slowBuilt(pairs("a=1 b=2"), 4).bytes())
	cur := "next 7 log 5\ntab 6 1 61 62\nend\n"
	first, second := string(slowBuilt(pairs("b=2"), 4).bytes()), string(slowBuilt(pairs("a=1"), 4).bytes())
	want := disk(
		inodes(inode(3, first, len(first)), inode(6, second, len(second)), inode(7, "", 0), inode(9, table, len(table)), inode(10, cur, len(cur))),
		[]impl.Entry{{Name: "cur", Id: 10}, {Name: "log-5", Id: 7}, {Name: "tab-6", Id: 9}},
		[]impl.Entry{{Name: "cur", Id: 10}, {Name: "log-5", Id: 7}, {Name: "tab-2", Id: 3}, {Name: "tab-4", Id: 6}, {Name: "tab-6", Id: 9}}, 11)
	mustBeDisk(t, "pressed", s.D, want)
	if !same(s.Man, man("7/5 6:1:a:b")) {
		t.Error(s.Man)
	}
}

func TestOpenByHand(t *testing.T) {
	s := storeOf(t, "a=1 make b=2")
	sure, torn := slowFrame("\x01a\x00\x011\x01"), slowFrame("\x01b\x00\x012\x01")
	for keep := range len(torn) + 2 {
		up, code := impl.Open(impl.Fall(s.D, keep))
		kept := disk(inodes(inode(1, sure, len(sure)), newCur()), entries("cur2 log-11"), entries("cur2 log-11"), 3)
		nodes := mem("a1").Nodes
		nodes[0].P.Val = "1"
		switch {
		case keep >= len(torn):
			kept.Inodes[0] = inode(1, sure+torn, len(sure+torn))
			nodes = append(nodes, impl.Node{P: impl.Pair{Key: "b", Val: "2"}, Tower: 1})
		case keep > 0:
			kept = disk(inodes(newCur(), inode(3, sure, len(sure))), entries("cur2 log-13"), entries("cur2 log-13"), 4)
		}
		mustBeDisk(t, fmt.Sprint("fallen with ", keep), up.D, kept)
		if code != impl.StoreGood || !slices.Equal(up.M.Nodes, nodes) || !same(up.Man, s.Man) {
			t.Error(keep, code, up.M, up.Man)
		}
	}
	// A log that was whole is made sure by Open, and so are the names.
	bare := mustAppend(t, diskOf(t, "+log-1 +cur ! +stray"), "cur", []byte(newText))
	bare = mustAppend(t, bare, "log-1", []byte(sure))
	up, code := impl.Open(bare)
	want := disk(inodes(inode(1, sure, len(sure)), inode(2, newText, 0)), entries("cur2 log-11"), entries("cur2 log-11"), 4)
	mustBeDisk(t, "not made sure", up.D, want)
	mustHave(t, "not made sure", up, pairs("a=1"))
	if code != impl.StoreGood {
		t.Error(code)
	}
}

func TestWritesReadAndScanned(t *testing.T) {
	for script, want := range map[string]string{
		"a=1":                                 "a=1",
		"a=1 b=2 c=3":                         "a=1 b=2 c=3",
		"c=3/4 b=2/3 a=1/2":                   "a=1 b=2 c=3",
		"a=1 a=2":                             "a=2",
		"a=1/1 a=2/4 a=3/2":                   "a=3",
		"a=":                                  "a=",
		"a-":                                  "",
		"a=1 a-":                              "",
		"a=1 a- a=2":                          "a=2",
		"a=1 a- a=2 a-":                       "",
		"a- a-":                               "",
		"a=1 b=2 a-":                          "b=2",
		"b=2 ab=1 aa=3 b-":                    "aa=3 ab=1",
		"a=1 flush":                           "a=1",
		"a=1 b=2 c- flush":                    "a=1 b=2",
		"a- flush":                            "",
		"a=1 flush a=2":                       "a=2",
		"a=1 flush a=2 flush":                 "a=2",
		"a=1 flush a=2 flush a=3":             "a=3",
		"a=1 b=1 flush a=2 flush b=3 c=3":     "a=2 b=3 c=3",
		"a=1 flush b=2 flush c=3 flush":       "a=1 b=2 c=3",
		"c=3 flush b=2 flush a=1 flush":       "a=1 b=2 c=3",
		"a=1 make b=2 make":                   "a=1 b=2",
		"a=1 flush make b=2 open":             "a=1 b=2",
		"a=1 b=2 open open a=3 open":          "a=3 b=2",
		"a=1 flush open open b=2 flush open":  "a=1 b=2",
		"a=1 flush a- make open a=2 open":     "a=2",
		"a=1 flush a=2 flush press0 open a-":  "",
		"a=1 settle b=2 settle settle":        "a=1 b=2",
		"a=1 flush b=2 flush settle c=3 open": "a=1 b=2 c=3",
	} {
		s := storeOf(t, script, want)
		mustDoAll(t, s, "open", want)
		mustDoAll(t, s, "open open", want)
		mustDoAll(t, s, "make settle", want)
	}
}

func TestTheNewestIsRead(t *testing.T) {
	levels := []string{"", "flush", "flush press0", "flush press0 press1", "flush press0 press1 press2"}
	for deep := range len(levels) - 1 {
		for over := range deep + 1 {
			for _, old := range []string{"a=old b=1", "a- b=1"} {
				for _, fresh := range []string{"a=new", "a-", "a="} {
					script := old + " " + levels[deep] + " " + fresh + " " + strings.Join(strings.Fields(levels[over]), " ")
					want := "b=1"
					if !strings.HasSuffix(fresh, "-") {
						want = fresh + " b=1"
					}
					s := storeOf(t, script, want)
					mustDoAll(t, s, "open make open", want)
					mustDoAll(t, s, "settle", want)
				}
			}
		}
	}
}

// At level 0 the greatest No counts, though another table is longer or has it first.
func TestLevelZeroIsReadByItsNos(t *testing.T) {
	s := storeOf(t, "a=1 b=1 c=1 d=1 e=1 flush b=2 c=2 flush a=3 c- z=3 flush", "a=3 b=2 d=1 e=1 z=3")
	mustHaveTables(t, "three", s, "2:0:a-e 4:0:b-c 6:0:a-z")
	mustDoAll(t, s, "press0", "a=3 b=2 d=1 e=1 z=3")
	var lists [][]impl.Pair
	for i := range 15 {
		lists = append(lists, []impl.Pair{{Key: "a", Val: fmt.Sprint(i)}, {Key: fmt.Sprintf("b%02d", i), Val: "x"}})
	}
	many := layered(t, make([]int, 15), lists...)
	mustRead(t, "many", many, "a", "14", impl.StoreGood)
	mustRead(t, "many", many, "b03", "x", impl.StoreGood)
}

func TestPressByLevels(t *testing.T) {
	for _, x := range []struct {
		script string
		tables string
		want   string
	}{
		{"a=1 flush press0", "4:1:a-a", "a=1"},
		{"a=1 flush press0 press1", "5:2:a-a", "a=1"},
		{"a=1 flush press0 press1 press2", "6:3:a-a", "a=1"},
		{"a=1 b=2 flush b=3 c=4 flush press0", "6:1:a-c", "a=1 b=3 c=4"},
		{"a=1 flush press0 b=2 flush press0", "4:1:a-a 7:1:b-b", "a=1 b=2"},
		{"b=1 flush press0 a=2 c=3 flush press0", "7:1:a-c", "a=2 b=1 c=3"},
		{"a=1 flush press0 z=2 flush press0 m=3 n=4 flush press0", "4:1:a-a 7:1:z-z 10:1:m-n", "a=1 m=3 n=4 z=2"},
		{"a=1 c=1 flush press0 x=2 z=2 flush press0 c=3 x=3 flush press0", "10:1:a-z", "a=1 c=3 x=3 z=2"},
		{"a=1 flush press0 z=2 flush press0 press1", "7:1:z-z 8:2:a-a", "a=1 z=2"},
		{"z=1 flush press0 a=2 flush press0 press1", "7:1:a-a 8:2:z-z", "a=2 z=1"},
		{"a=1 flush press0 z=2 flush press0 press1 press1", "8:2:a-a 9:2:z-z", "a=1 z=2"},
		{"a=1 flush press0 z=2 flush press0 press1 press1 a=3 flush press0 press1", "9:2:z-z 13:2:a-a", "a=3 z=2"},
		{"b=1 flush press0 press1 a=2 c=2 flush press0 press1", "9:2:a-c", "a=2 b=1 c=2"},
		{"b=1 flush press0 press1 press2 a=2 flush press0 press1 press2", "6:3:b-b 11:3:a-a", "a=2 b=1"},
		{"b=1 flush press0 press1 press2 a=2 b=3 flush press0 press1 press2", "11:3:a-b", "a=2 b=3"},
		{"m=1 flush press0 a=2 flush z=3 flush press0", "9:1:a-z", "a=2 m=1 z=3"}, // m lies between the two, so it is spanned
		{"m=1 flush press0 z=2 flush a=3 flush press0", "9:1:a-z", "a=3 m=1 z=2"},
		{"c=1 flush press0 m=1 flush press0 n=1 o=1 flush a=2 d=2 flush press0", "12:1:a-o", "a=2 c=1 d=2 m=1 n=1 o=1"},
		{"c=1 flush press0 x=1 flush press0 a=2 d=2 flush m=1 flush press0", "7:1:x-x 12:1:a-m", "a=2 c=1 d=2 m=1 x=1"},
	} {
		s := storeOf(t, x.script, x.want)
		mustHaveTables(t, x.script, s, x.tables)
		mustDoAll(t, s, "open open settle", x.want)
	}
}

func TestHowManyPairsATableGets(t *testing.T) {
	for count, want := range map[int]string{
		1:  "3:1:k000-k000",
		5:  "3:1:k000-k004",
		6:  "3:1:k000-k005",
		7:  "3:1:k000-k005 4:1:k006-k006",
		12: "3:1:k000-k005 4:1:k006-k011",
		13: "3:1:k000-k005 4:1:k006-k011 5:1:k012-k012",
	} {
		s := layered(t, []int{0}, numbered(0, count))
		pressed := mustDoAll(t, s, "press0")
		mustHave(t, want, pressed, numbered(0, count))
		mustHaveTables(t, fmt.Sprint(count, " pairs"), pressed, want)
	}
	// What is dropped does not count.
	l := numbered(0, 8)
	for _, i := range []int{0, 3} {
		l[i] = impl.Pair{Key: l[i].Key, Gone: true}
	}
	mustHaveTables(t, "6 of 8", mustDoAll(t, layered(t, []int{0}, l), "press0"), "3:1:k001-k007")
	l[5] = impl.Pair{Key: l[5].Key, Gone: true}
	mustHaveTables(t, "5 of 8", mustDoAll(t, layered(t, []int{0}, l), "press0"), "3:1:k001-k007")
	mustHaveTables(t, "8 of 8", mustDoAll(t, layered(t, []int{0, 2}, l, pairs("x=1")), "press0"), "2:2:x-x 4:1:k000-k005 5:1:k006-k007")
}

// More tables are merged than Merge takes lists.
func TestPressOfManyTables(t *testing.T) {
	for count := 9; count <= 20; count++ {
		var lists [][]impl.Pair
		for i := range count {
			lists = append(lists, []impl.Pair{{Key: "a", Val: fmt.Sprint(i)}, {Key: "b", Gone: i%2 == 1}, {Key: fmt.Sprintf("c%02d", i), Val: "x"}})
		}
		s := layered(t, make([]int, count), lists...)
		had := impl.Scan(s)
		if pressed, _ := mustDo(t, "many at level 0", s, op{call: "Press"}); len(levelTables(pressed.Man, 0)) != 0 || !slices.Equal(impl.Scan(pressed), had) {
			t.Error(count, tablesOf(pressed), impl.Scan(pressed), had)
		}
		levels := slices.Repeat([]int{1}, count)
		lists, levels[0] = [][]impl.Pair{{{Key: "a", Val: "new"}, {Key: "z", Gone: true}}}, 0
		for i := 1; i < count; i++ {
			lists = append(lists, []impl.Pair{{Key: fmt.Sprintf("c%02d", i), Val: "x"}})
		}
		s = layered(t, levels, lists...)
		had = impl.Scan(s)
		pressed, code := mustDo(t, "many at level 1", s, op{call: "Press"})
		if code != impl.StoreGood || !slices.Equal(impl.Scan(pressed), had) || len(pressed.Man.Tables) != (count+5)/6 {
			t.Error(count, code, tablesOf(pressed), impl.Scan(pressed), had)
		}
	}
}

func TestWhatIsGone(t *testing.T) {
	for _, x := range []struct {
		script string
		tables string
		want   string
	}{
		{"a=1 flush a-", "2:0:a-a", ""},                                       // Gone in memory, there in a table
		{"a=1 b=2 flush press0 a-", "4:1:a-b", "b=2"},                         // the same, deeper
		{"a=1 flush a- flush", "2:0:a-a 4:0:a-a", ""},                         // Gone at level 0, there at level 0
		{"a- flush a=1 flush", "2:0:a-a 4:0:a-a", "a=1"},                      // and the other way
		{"a=1 flush press0 a- flush", "4:1:a-a 5:0:a-a", ""},                  // Gone at level 0, there at level 1
		{"a=1 flush press0 press1 a- flush", "5:2:a-a 6:0:a-a", ""},           // there at level 2
		{"a- flush press0", "", ""},                                           // nothing deeper: no pair is left at all
		{"a- b=1 flush press0", "4:1:b-b", "b=1"},                             // nothing deeper: dropped
		{"a=1 flush a- flush press0", "", ""},                                 // hides what is pressed with it, and goes
		{"a=1 flush a- flush a=2 flush press0", "8:1:a-a", "a=2"},             // is hidden itself
		{"a=1 flush press0 a- flush press0", "", ""},                          // hides what is at the next level
		{"a=1 flush press0 press1 a- flush press0", "5:2:a-a 8:1:a-a", ""},    // something deeper: kept
		{"a=1 flush press0 press1 a- flush press0 press1", "", ""},            // and gone once it has met it
		{"z=1 flush press0 press1 a- flush press0", "5:2:z-z 8:1:a-a", "z=1"}, // kept, though what is deeper has not its key
		{"z=1 flush press0 press1 press2 a- flush press0", "6:3:z-z 9:1:a-a", "z=1"},
		{"z=1 flush press0 press1 press2 a- flush press0 press1", "6:3:z-z 10:2:a-a", "z=1"},
		{"z=1 flush press0 press1 press2 a- flush press0 press1 press2", "6:3:z-z", "z=1"}, // at the last level nothing is deeper
		{"a=1 flush press0 press1 press2 a- flush press0 press1 press2", "", ""},
		{"z=1 flush press0 a- flush press0", "4:1:z-z", "z=1"}, // a table of the next level is not deeper
		{"z=1 flush press0 y=1 flush press0 a- flush press0 press1", "7:1:y-y 10:2:z-z", "y=1 z=1"},
		{"a=1 flush press0 press1 a- flush press0 a=2 flush press0", "5:2:a-a 11:1:a-a", "a=2"},
		{"a=1 flush press0 press1 a- flush press0 open a-", "5:2:a-a 8:1:a-a", ""},
	} {
		s := storeOf(t, x.script, x.want)
		mustHaveTables(t, x.script, s, x.tables)
		mustRead(t, x.script, s, "none", "", impl.StoreNone)
		mustDoAll(t, s, "open settle open", x.want)
		mustHave(t, x.script+", and more", mustDoAll(t, s, "x=1 flush press0 press1"), slowSort(append(pairs(x.want), pairs("x=1")...)))
	}
}

func TestGoneIsKeptInItsTable(t *testing.T) {
	s := storeOf(t, "a=1 b=2 flush press0 press1 a- c=3 flush press0", "b=2 c=3")
	if l := slowTable(s.D, 8); !slices.Equal(l, pairs("a- c=3")) {
		t.Error(l)
	}
	s = mustDoAll(t, s, "press1", "b=2 c=3")
	if l := slowTable(s.D, 9); !slices.Equal(l, pairs("b=2 c=3")) {
		t.Error(l)
	}
}

func TestSettleAtFlushAt(t *testing.T) {
	for count := range 12 {
		s := impl.StoreNew()
		for _, p := range numbered(0, count) {
			s, _ = mustDo(t, "write", s, op{call: "Write", p: p, tower: count%4 + 1})
		}
		settled := mustDoAll(t, s, "settle")
		mustHave(t, "settled", settled, numbered(0, count))
		if count < impl.FlushAt && !same(settled, s) {
			t.Error(count, "something was due")
		}
		if count >= impl.FlushAt && (len(settled.M.Nodes) != 0 || tablesOf(settled) != fmt.Sprintf("2:0:k000-k%03d", count-1)) {
			t.Error(count, tablesOf(settled), settled.M)
		}
	}
	// Keys that are written again are in memory once.
	s := storeOf(t, "a=1 b=1 c=1 d=1 e=1 f=1 g=1 a=2 b=2 a- a-", "b=2 c=1 d=1 e=1 f=1 g=1")
	if settled := mustDoAll(t, s, "settle"); !same(settled, s) {
		t.Error("seven keys are flushed")
	}
	// What is Gone counts, too.
	s = storeOf(t, "a- b- c- d- e- f- g- h- settle", "")
	mustHaveTables(t, "all Gone", s, "2:0:a-h")
}

func TestSettleAtLevelRoom(t *testing.T) {
	for _, x := range []struct {
		script string
		tables string
		want   string
	}{
		{"a=1 flush b=2 flush settle", "2:0:a-a 4:0:b-b", "a=1 b=2"},
		{"a=1 flush b=2 flush c=3 flush settle", "8:1:a-c", "a=1 b=2 c=3"},
		{"a=1 flush b=2 flush c=3 flush d=4 settle", "8:1:a-c", "a=1 b=2 c=3 d=4"},
		{"a=1 flush press0 b=2 flush press0 settle", "4:1:a-a 7:1:b-b", "a=1 b=2"},
		{"a=1 flush press0 b=2 flush press0 c=3 flush press0 settle", "7:1:b-b 10:1:c-c 11:2:a-a", "a=1 b=2 c=3"},
		{"a=1 flush press0 b=2 flush press0 c=3 flush press0 press1 press1 press1 settle", "12:2:b-b 13:2:c-c 14:3:a-a", "a=1 b=2 c=3"},
		{"a=1 flush press0 press1 b=2 flush press0 press1 settle", "5:2:a-a 9:2:b-b", "a=1 b=2"},
		{"a=1 flush b=2 flush a=3 b=3 c=3 d=3 e=3 f=3 g=3 h=3 settle", "8:1:a-f 9:1:g-h", "a=3 b=3 c=3 d=3 e=3 f=3 g=3 h=3"}, // the flush makes the press due
	} {
		s := storeOf(t, x.script, x.want)
		mustHaveTables(t, x.script, s, x.tables)
		again := mustDoAll(t, s, "settle", x.want)
		if !same(again, s) {
			t.Error(x.script, "something was still due")
		}
	}
	// At the last level nothing is due, however many there are.
	var lists [][]impl.Pair
	for i := range 18 {
		lists = append(lists, numbered(i*10, i*10+3))
	}
	s := layered(t, slices.Repeat([]int{3}, 18), lists...)
	if settled := mustDoAll(t, s, "settle"); !same(settled, s) {
		t.Error("level 3 was pressed")
	}
}

// Several levels are due at once, and one press makes the next one due.
func TestSettleOfSeveralLevels(t *testing.T) {
	s := layered(t, []int{2, 2, 2, 1, 1, 1, 0, 0, 0},
		numbered(0, 3), numbered(10, 13), numbered(20, 23), numbered(0, 2), numbered(12, 15), numbered(30, 33), pairs("a=1 k011- z=2"), pairs("k001- k031=new"), pairs("a- k012-"))
	had := impl.Scan(s)
	settled := mustDoAll(t, s, "settle")
	if !slices.Equal(impl.Scan(settled), had) || len(had) != 12 {
		t.Error(impl.Scan(settled), had)
	}
	for level := range 3 {
		if n := len(levelTables(settled.Man, level)); n > impl.LevelRoom {
			t.Error(n, "at level", level, tablesOf(settled))
		}
	}
	// One wide table at level 0 makes ten at level 1, of which eight go on, and of these six.
	wide := layered(t, []int{0, 0, 0}, numbered(0, 58), numbered(58, 59), numbered(59, 60))
	settled, code := mustDo(t, "wide", wide, op{call: "Settle"})
	if code != impl.StoreGood || !slices.Equal(impl.Scan(settled), numbered(0, 60)) || len(levelTables(settled.Man, 3)) != 6 {
		t.Error(code, tablesOf(settled))
	}
}

func TestLevelsThatCannotBePressed(t *testing.T) {
	s := layered(t, []int{0, 1, 2, 3}, pairs("a=1"), pairs("b=1"), pairs("c=1"), pairs("d=1"))
	for _, level := range []int{-1, 3, 4, -9, 100, math.MinInt, math.MaxInt, math.MaxInt - 1} {
		mustRefuseOp(t, "no such level", s, op{call: "Press", level: level}, impl.StoreForm)
		mustRefuseOp(t, "no such level", impl.StoreNew(), op{call: "Press", level: level}, impl.StoreForm)
	}
	for level := range impl.MaxLevel {
		pressed := mustDoAll(t, s, fmt.Sprint("press", level), "a=1 b=1 c=1 d=1")
		mustRefuseOp(t, "nothing there any more", pressed, op{call: "Press", level: level}, impl.StoreNone)
		lone := layered(t, []int{level}, pairs("a=1 b="))
		for other := range impl.MaxLevel {
			if other != level {
				mustRefuseOp(t, "nothing there", lone, op{call: "Press", level: other}, impl.StoreNone)
			}
		}
		mustDoAll(t, lone, fmt.Sprint("press", level), "a=1 b=")
	}
	last := layered(t, []int{3}, pairs("a=1"))
	mustRefuseOp(t, "the last level", last, op{call: "Press", level: 3}, impl.StoreForm)
}

// A flush of what is in memory, one pair or many, with each tower.
func TestFlushOfSome(t *testing.T) {
	for _, count := range []int{1, 2, 4, 5, 8, 59, 60} {
		s := impl.StoreNew()
		for i, p := range numbered(0, count) {
			s, _ = impl.Write(s, p, i%4+1)
		}
		flushed := mustDoAll(t, s, "flush")
		mustHave(t, "flushed", flushed, numbered(0, count))
		mustHaveTables(t, "flushed", flushed, fmt.Sprintf("2:0:k000-k%03d", count-1))
		mustRefuseOp(t, "nothing in memory", flushed, op{call: "Flush"}, impl.StoreNone)
		mustHave(t, "opened", mustDoAll(t, flushed, "open"), numbered(0, count))
	}
}

func TestKeysValuesAndTowersOfAWrite(t *testing.T) {
	s := storeOf(t, "a=1 flush b=2")
	for _, p := range []impl.Pair{
		{Key: long}, {Key: long, Val: long}, {Key: "k", Val: long}, {Key: long, Gone: true}, {Key: long[1:], Val: long[1:]}, {Key: "\x00", Val: "\x00"}, {Key: "\xff\n", Val: " \x80"},
	} {
		for tower := 1; tower <= impl.MaxTower; tower++ {
			next, code := mustDo(t, "right", s, op{call: "Write", p: p, tower: tower})
			if code != impl.StoreGood {
				t.Error(p, tower, code)
			}
			next = mustDoAll(t, next, "make open")
			mustRead(t, "right, but Gone", next, "none", "", impl.StoreNone)
			if v, c := impl.Read(next, p.Key); v != p.Val || p.Gone != (c == impl.StoreNone) {
				t.Error(p, v, c)
			}
		}
		for _, tower := range []int{0, -1, impl.MaxTower + 1, 256, 257, 258, math.MaxInt, math.MinInt} {
			mustRefuseOp(t, "a wrong tower", s, op{call: "Write", p: p, tower: tower}, impl.StoreForm)
		}
	}
	for _, p := range wrongPairs {
		for tower := -1; tower <= impl.MaxTower+1; tower++ {
			mustRefuseOp(t, "a wrong pair", s, op{call: "Write", p: p, tower: tower}, impl.StoreForm)
		}
	}
	for _, key := range []string{"", long + "x", strings.Repeat("x", 1000)} {
		mustRead(t, "no key", s, key, "", impl.StoreNone)
	}
}

// The tower of a key that is there stays, behind Open, too.
func TestTowersStay(t *testing.T) {
	s := storeOf(t, "a=1/3 a=2/1 b-/4 b=1/2 open")
	if s.M.Nodes[0].Tower != 3 || s.M.Nodes[1].Tower != 4 {
		t.Error(s.M)
	}
}

func TestOddKeysInAStore(t *testing.T) {
	s := impl.StoreNew()
	var want []impl.Pair
	for i := range oddKeys {
		p := impl.Pair{Key: oddKeys[i*7%len(oddKeys)], Val: fmt.Sprint(i)}
		s, _ = mustDo(t, "odd", s, op{call: "Write", p: p, tower: i%4 + 1})
		want = append(want, p)
		if i%20 == 19 {
			s = mustDoAll(t, s, "flush")
		}
		if i%40 == 39 {
			s = mustDoAll(t, s, "press0")
		}
	}
	want = slowSort(want)
	for _, script := range []string{"open", "flush", "settle", "open"} {
		s = mustDoAll(t, s, script)
		mustHave(t, script, s, want)
	}
}

// What lies behind the records of a log is not asked for: the words name its records alone.
func TestStoreOkWithMoreBehindTheRecords(t *testing.T) {
	s := storeOf(t, "a=1 b=2")
	s.D = mustAppend(t, s.D, "log-1", []byte{1, 2, 3})
	mustHave(t, "torn", s, pairs("a=1 b=2"))
	mustDoAll(t, s, "make flush", "a=1 b=2")
	mustDoAll(t, s, "open", "a=1 b=2")
}

func TestStoreOkWithFilesThatNoOneNames(t *testing.T) {
	s := storeOf(t, "a=1 flush b=2")
	for _, name := range []string{"x", "new", "mend", "log-1", "log-9", "tab-9", "tab-02", "tab-", "cur-1"} {
		d, code := impl.Create(s.D, name)
		if code != impl.DiskGood {
			t.Fatal(name, code)
		}
		d = mustAppend(t, d, name, []byte("stray"))
		stray := impl.Store{D: d, M: s.M, Man: s.Man}
		mustHave(t, name, stray, pairs("a=1 b=2"))
		mustDoAll(t, stray, "c=3 make flush press0 settle", "a=1 b=2 c=3")
		opened := mustDoAll(t, stray, "open", "a=1 b=2")
		if !same(impl.List(opened.D), []string{"cur", "log-3", "tab-2"}) || len(opened.D.Inodes) != 3 {
			t.Error(name, impl.List(opened.D))
		}
	}
}

// A file that has the name of the next table or log is in the way.
func TestNamesThatAreTaken(t *testing.T) {
	s := storeOf(t, "a=1 flush b=2")
	for _, name := range []string{"tab-4", "log-5"} {
		d, _ := impl.Create(s.D, name)
		taken := impl.Store{D: d, M: s.M, Man: s.Man}
		mustRefuseOp(t, name, taken, op{call: "Flush"}, impl.StoreFull)
		mustDoAll(t, taken, "c=3 make open flush", "a=1 b=2 c=3")
	}
	d, _ := impl.Create(s.D, "tab-4")
	mustRefuseOp(t, "tab-4", impl.Store{D: d, M: s.M, Man: s.Man}, op{call: "Press"}, impl.StoreFull)
	d, _ = impl.Create(s.D, "log-4")
	mustDoAll(t, impl.Store{D: d, M: s.M, Man: s.Man}, "flush press0", "a=1 b=2")
}
