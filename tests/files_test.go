package tests

import (
	"bytes"
	"fmt"
	"maps"
	"math"
	"math/rand"
	"slices"
	"strings"
	"testing"

	"loop.example/g00184/impl"
)

var (
	_ func(impl.Disk) bool                             = impl.DiskOk
	_ func() impl.Disk                                 = impl.DiskNew
	_ func(impl.Disk, string) (impl.Disk, int)         = impl.Create
	_ func(impl.Disk, string, []byte) (impl.Disk, int) = impl.Append
	_ func(impl.Disk, string) (impl.Disk, int)         = impl.Sync
	_ func(impl.Disk) (impl.Disk, int)                 = impl.SyncDir
	_ func(impl.Disk, string, string) (impl.Disk, int) = impl.Rename
	_ func(impl.Disk, string) (impl.Disk, int)         = impl.Remove
	_ func(impl.Disk, int) impl.Disk                   = impl.Fall
	_ func(impl.Disk, string) ([]byte, bool)           = impl.Bytes
	_ func(impl.Disk) []string                         = impl.List
	_                                                  = impl.Disk{Inodes: []impl.Inode{{Id: 1, Data: []byte{}, Sure: 0}}, Names: []impl.Entry{{Name: "", Id: 1}}, Safe: []impl.Entry{}, Next: 1}
)

const lastNext = 1000000

// A step is one call of the disk: its name, and what is handed in beside the disk.
type step struct {
	call string
	name string
	to   string
	data []byte
}

func (s step) String() string {
	return fmt.Sprintf("%s(%q, %q, %d bytes)", s.call, s.name, s.to, len(s.data))
}

func take(d impl.Disk, s step) (impl.Disk, int) {
	switch s.call {
	case "Create":
		return impl.Create(d, s.name)
	case "Append":
		return impl.Append(d, s.name, s.data)
	case "Sync":
		return impl.Sync(d, s.name)
	case "SyncDir":
		return impl.SyncDir(d)
	case "Rename":
		return impl.Rename(d, s.name, s.to)
	}
	return impl.Remove(d, s.name)
}

// parseSteps reads steps parted by blanks: +a creates, a=x appends x, !a syncs,
// ! syncs the names, a>b renames, -a removes.
func parseSteps(script string) []step {
	var out []step
	for _, w := range strings.Fields(script) {
		from, to, renamed := strings.Cut(w, ">")
		name, data, appended := strings.Cut(w, "=")
		switch {
		case renamed:
			out = append(out, step{call: "Rename", name: from, to: to})
		case appended:
			out = append(out, step{call: "Append", name: name, data: []byte(data)})
		case w == "!":
			out = append(out, step{call: "SyncDir"})
		case w[0] == '!':
			out = append(out, step{call: "Sync", name: w[1:]})
		case w[0] == '+':
			out = append(out, step{call: "Create", name: w[1:]})
		default:
			out = append(out, step{call: "Remove", name: w[1:]})
		}
	}
	return out
}

// diskOf does steps that must all be good.
func diskOf(t testing.TB, script string) impl.Disk {
	t.Helper()
	d := impl.DiskNew()
	for _, s := range parseSteps(script) {
		next, code := take(d, s)
		if code != impl.DiskGood || !impl.DiskOk(next) {
			t.Fatal(script, ": ", s, " code ", code, next)
		}
		d = next
	}
	return d
}

func inode(id int, data string, sure int) impl.Inode {
	return impl.Inode{Id: id, Data: []byte(data), Sure: sure}
}

// entries are names with their Ids: "a1 b2".
func entries(text string) []impl.Entry {
	var out []impl.Entry
	for _, w := range strings.Fields(text) {
		out = append(out, impl.Entry{Name: w[:len(w)-1], Id: int(w[len(w)-1] - '0')})
	}
	return out
}

func inodes(list ...impl.Inode) []impl.Inode { return list }

func disk(list []impl.Inode, names []impl.Entry, safe []impl.Entry, next int) impl.Disk {
	return impl.Disk{Inodes: list, Names: names, Safe: safe, Next: next}
}

func mustBeDisk(t *testing.T, what string, got impl.Disk, want impl.Disk) {
	t.Helper()
	if !same(got, want) {
		t.Errorf("%s:\n %v, not\n %v", what, got, want)
	}
	if !impl.DiskOk(got) {
		t.Errorf("%s: not DiskOk: %v", what, got)
	}
}

func TestDiskConstants(t *testing.T) {
	if impl.MaxFiles != 30 || impl.MaxDisk != 60000 {
		t.Error(impl.MaxFiles, impl.MaxDisk)
	}
	if impl.DiskGood != 0 || impl.DiskForm != 1 || impl.DiskNone != 2 || impl.DiskThere != 3 || impl.DiskFull != 4 {
		t.Error("codes")
	}
	mustBeDisk(t, "DiskNew", impl.DiskNew(), impl.Disk{Next: 1})
}

func TestDiskSteps(t *testing.T) {
	for _, x := range []struct {
		script string
		want   impl.Disk
	}{
		{"+a", disk(inodes(inode(1, "", 0)), entries("a1"), nil, 2)},
		{"+b +a", disk(inodes(inode(1, "", 0), inode(2, "", 0)), entries("a2 b1"), nil, 3)},
		{"+a a=xy a= a=z", disk(inodes(inode(1, "xyz", 0)), entries("a1"), nil, 2)},
		{"+a a=xy !a a=z", disk(inodes(inode(1, "xyz", 2)), entries("a1"), nil, 2)},
		{"+a a=xy !a a=z !a !a", disk(inodes(inode(1, "xyz", 3)), entries("a1"), nil, 2)},
		{"+a a=xy !", disk(inodes(inode(1, "xy", 0)), entries("a1"), entries("a1"), 2)},
		{"+a ! +b", disk(inodes(inode(1, "", 0), inode(2, "", 0)), entries("a1 b2"), entries("a1"), 3)},
		{"+a -a", disk(nil, nil, nil, 2)},
		{"+a -a +a", disk(inodes(inode(2, "", 0)), entries("a2"), nil, 3)},
		{"+a a=x ! -a", disk(inodes(inode(1, "x", 0)), nil, entries("a1"), 2)},
		{"+a a=x ! -a !", disk(nil, nil, nil, 2)},
		{"+a a=x ! -a +a a=y", disk(inodes(inode(1, "x", 0), inode(2, "y", 0)), entries("a2"), entries("a1"), 3)},
		{"+a a=x ! -a +a a=y !", disk(inodes(inode(2, "y", 0)), entries("a2"), entries("a2"), 3)},
		{"+a a=x a>b", disk(inodes(inode(1, "x", 0)), entries("b1"), nil, 2)},
		{"+a a=x ! a>b", disk(inodes(inode(1, "x", 0)), entries("b1"), entries("a1"), 2)},
		{"+a a=x ! a>b b=y !b", disk(inodes(inode(1, "xy", 2)), entries("b1"), entries("a1"), 2)},
		{"+a +c +b b>d", disk(inodes(inode(1, "", 0), inode(2, "", 0), inode(3, "", 0)), entries("a1 c2 d3"), nil, 4)},
		{"+a a=x a>a", disk(inodes(inode(1, "x", 0)), entries("a1"), nil, 2)},
		{"+a a=x +b b=y b>a", disk(inodes(inode(2, "y", 0)), entries("a2"), nil, 3)},
		{"+a a=x +b b=y a>b", disk(inodes(inode(1, "x", 0)), entries("b1"), nil, 3)},
		{"+a a=x ! +b b=y b>a", disk(inodes(inode(1, "x", 0), inode(2, "y", 0)), entries("a2"), entries("a1"), 3)},
		{"+a a=x +b b=y ! b>a", disk(inodes(inode(1, "x", 0), inode(2, "y", 0)), entries("a2"), entries("a1 b2"), 3)},
		{"+a +b ! a>c b>a c>b", disk(inodes(inode(1, "", 0), inode(2, "", 0)), entries("a2 b1"), entries("a1 b2"), 3)},
		{"+a +b ! a>c b>a c>b !", disk(inodes(inode(1, "", 0), inode(2, "", 0)), entries("a2 b1"), entries("a2 b1"), 3)},
		{"+- +.. +0-9.z +abcdefghijkl", disk(inodes(inode(1, "", 0), inode(2, "", 0), inode(3, "", 0), inode(4, "", 0)),
			entries("-1 ..2 0-9.z3 abcdefghijkl4"), nil, 5)},
		{"+ab +a +b", disk(inodes(inode(1, "", 0), inode(2, "", 0), inode(3, "", 0)), entries("a2 ab1 b3"), nil, 4)},
	} {
		mustBeDisk(t, x.script, diskOf(t, x.script), x.want)
	}
}

func TestFallLeavesWhatWasMadeSure(t *testing.T) {
	for _, x := range []struct {
		script string
		keep   int
		want   impl.Disk
	}{
		{"", 0, impl.Disk{Next: 1}},
		{"+a a=xyz !a", 9, impl.Disk{Next: 2}},
		{"+a a=xyz !", 0, disk(inodes(inode(1, "", 0)), entries("a1"), entries("a1"), 2)},
		{"+a a=xyz !", 1, disk(inodes(inode(1, "x", 1)), entries("a1"), entries("a1"), 2)},
		{"+a ! a=xyz", 2, disk(inodes(inode(1, "xy", 2)), entries("a1"), entries("a1"), 2)},
		{"+a ! a=xyz", 3, disk(inodes(inode(1, "xyz", 3)), entries("a1"), entries("a1"), 2)},
		{"+a ! a=xyz", 4, disk(inodes(inode(1, "xyz", 3)), entries("a1"), entries("a1"), 2)},
		{"+a a=xy !a ! a=z", 0, disk(inodes(inode(1, "xy", 2)), entries("a1"), entries("a1"), 2)},
		{"+a a=xy !a ! a=zzz", 2, disk(inodes(inode(1, "xyzz", 4)), entries("a1"), entries("a1"), 2)},
		{"+a a=xy !a ! a=z", math.MaxInt, disk(inodes(inode(1, "xyz", 3)), entries("a1"), entries("a1"), 2)},
		{"+a a=xy !a ! a=z", math.MaxInt - 1, disk(inodes(inode(1, "xyz", 3)), entries("a1"), entries("a1"), 2)},
		{"+a a=xy !a ! +b b=z !b", 0, disk(inodes(inode(1, "xy", 2)), entries("a1"), entries("a1"), 3)},
		{"+a a=xy !a ! a>b", 0, disk(inodes(inode(1, "xy", 2)), entries("a1"), entries("a1"), 2)},
		{"+a a=xy !a ! a>b !", 0, disk(inodes(inode(1, "xy", 2)), entries("b1"), entries("b1"), 2)},
		{"+a a=xy !a ! -a", 0, disk(inodes(inode(1, "xy", 2)), entries("a1"), entries("a1"), 2)},
		{"+a a=xy !a ! -a !", 0, impl.Disk{Next: 2}},
		{"+a a=xy !a ! -a +a a=other !a", 9, disk(inodes(inode(1, "xy", 2)), entries("a1"), entries("a1"), 3)},
		{"+a a=old !a ! +b b=new !b b>a", 9, disk(inodes(inode(1, "old", 3)), entries("a1"), entries("a1"), 3)},
		{"+a a=old !a ! +b b=new !b b>a !", 0, disk(inodes(inode(2, "new", 3)), entries("a2"), entries("a2"), 3)},
		{"+a a=old !a ! +b b=new b>a !", 0, disk(inodes(inode(2, "", 0)), entries("a2"), entries("a2"), 3)},
		{"+a a=x +b b=yy ! !a a=xx", 1, disk(inodes(inode(1, "xx", 2), inode(2, "y", 1)), entries("a1 b2"), entries("a1 b2"), 3)},
	} {
		d := diskOf(t, x.script)
		fallen := impl.Fall(d, x.keep)
		mustBeDisk(t, fmt.Sprint(x.script, " fall ", x.keep), fallen, x.want)
		mustBeDisk(t, fmt.Sprint(x.script, " fall twice"), impl.Fall(fallen, 0), x.want)
		for _, keep := range []int{-1, -2, math.MinInt} {
			mustBeDisk(t, fmt.Sprint(x.script, " fall ", keep), impl.Fall(d, keep), d)
		}
	}
}

func TestBytesAndList(t *testing.T) {
	d := diskOf(t, "+b b=two !b ! +a b>c +b b=new a=\x00\xff")
	if l := impl.List(d); !slices.Equal(l, []string{"a", "b", "c"}) {
		t.Error(l)
	}
	for name, want := range map[string]string{"a": "\x00\xff", "b": "new", "c": "two"} {
		if b, ok := impl.Bytes(d, name); !ok || string(b) != want {
			t.Errorf("%s: %q %v", name, b, ok)
		}
	}
	fallen := impl.Fall(d, 0)
	if b, ok := impl.Bytes(fallen, "b"); !ok || string(b) != "two" {
		t.Errorf("%q %v", b, ok)
	}
	if l := impl.List(fallen); !slices.Equal(l, []string{"b"}) {
		t.Error(l)
	}
	removed := diskOf(t, "+b b=two !b ! -b")
	for _, name := range []string{"", "a", "b", "bb", "B", "b ", "\x00", strings.Repeat("b", 13)} {
		if b, ok := impl.Bytes(removed, name); ok || len(b) != 0 {
			t.Errorf("%q: %q %v", name, b, ok)
		}
	}
	if l := impl.List(removed); len(l) != 0 {
		t.Error(l)
	}
	if b, ok := impl.Bytes(diskOf(t, "+a"), "a"); !ok || len(b) != 0 {
		t.Error("an empty file", b, ok)
	}
}

// mustRefuse asks for the disk as it was, beside this code.
func mustRefuse(t *testing.T, d impl.Disk, s step, code int) {
	t.Helper()
	before := wholeCopy(d)
	got, c := take(d, s)
	if c != code || !same(got, d) || !same(wholeCopy(d), before) {
		t.Errorf("%v of %v: %v %d, not as it was and %d", s, d, got, c, code)
	}
}

var wrongNames = []string{
	"", "A", "Z", "aB", "a_b", "a b", " a", "a ", "a\n", "a/b", "a\x00", "\x00", "\xff", "é", "aé", "`", "{", "@", "[", "/", ":", ",", "+", "a~",
	"abcdefghijklm", strings.Repeat("a", 13), strings.Repeat("a", 1000),
}

func TestWrongNames(t *testing.T) {
	d := diskOf(t, "+a a=x !")
	for _, name := range wrongNames {
		for _, s := range []step{
			{call: "Create", name: name}, {call: "Append", name: name, data: []byte("x")}, {call: "Sync", name: name},
			{call: "Append", name: name, data: make([]byte, impl.MaxDisk+1)},
			{call: "Remove", name: name}, {call: "Rename", name: name, to: "b"}, {call: "Rename", name: "a", to: name},
			{call: "Rename", name: "none", to: name}, {call: "Rename", name: name, to: name},
		} {
			mustRefuse(t, d, s, impl.DiskForm)
		}
		bad := disk(inodes(inode(1, "", 0)), []impl.Entry{{Name: name, Id: 1}}, nil, 2)
		if impl.DiskOk(bad) {
			t.Errorf("%q among Names", name)
		}
		bad.Names, bad.Safe = bad.Safe, bad.Names
		if impl.DiskOk(bad) {
			t.Errorf("%q in Safe", name)
		}
	}
}

func TestRightNames(t *testing.T) {
	for c := range 256 {
		name := string([]byte{byte(c)})
		right := strings.Contains("abcdefghijklmnopqrstuvwxyz0123456789-.", name)
		for _, n := range []string{name, "a" + name, name + "0", strings.Repeat(name, 12)} {
			d, code := impl.Create(impl.DiskNew(), n)
			if right != (code == impl.DiskGood) || right != (len(d.Names) == 1) || !right && code != impl.DiskForm {
				t.Errorf("%q: %d", n, code)
			}
		}
		if _, code := impl.Create(impl.DiskNew(), strings.Repeat(name, 13)); code != impl.DiskForm {
			t.Errorf("13 of %q: %d", name, code)
		}
	}
}

func TestCodesOfTheDisk(t *testing.T) {
	d := diskOf(t, "+a a=x +b ! -b +c")
	tooMuch := make([]byte, impl.MaxDisk+1)
	for _, x := range []struct {
		s    step
		code int
	}{
		{step{call: "Create", name: "a"}, impl.DiskThere},
		{step{call: "Create", name: "c"}, impl.DiskThere},
		{step{call: "Append", name: "b"}, impl.DiskNone}, // of Safe alone
		{step{call: "Append", name: "d", data: []byte("x")}, impl.DiskNone},
		{step{call: "Append", name: "d", data: tooMuch}, impl.DiskNone},
		{step{call: "Append", name: "a", data: tooMuch}, impl.DiskFull},
		{step{call: "Append", name: "a", data: tooMuch[1:]}, impl.DiskFull},
		{step{call: "Sync", name: "b"}, impl.DiskNone},
		{step{call: "Sync", name: "d"}, impl.DiskNone},
		{step{call: "Remove", name: "b"}, impl.DiskNone},
		{step{call: "Remove", name: "d"}, impl.DiskNone},
		{step{call: "Rename", name: "b", to: "a"}, impl.DiskNone},
		{step{call: "Rename", name: "d", to: "a"}, impl.DiskNone},
		{step{call: "Rename", name: "d", to: "e"}, impl.DiskNone},
		{step{call: "Rename", name: "d", to: "d"}, impl.DiskNone},
	} {
		mustRefuse(t, d, x.s, x.code)
	}
	for _, s := range parseSteps("+b +d a= a>a c>c a>b a>c -a !a !c !") {
		if next, code := take(d, s); code != impl.DiskGood || !impl.DiskOk(next) {
			t.Error(s, code)
		}
	}
	same1, code := impl.Rename(d, "a", "a")
	if code != impl.DiskGood || !same(same1, d) {
		t.Error("renamed to its own name", same1, code)
	}
}

// fullDisk has as many files as there may be, of which the first has all bytes but left.
func fullDisk(t *testing.T, files int, left int) impl.Disk {
	d := impl.DiskNew()
	for i := range files {
		next, code := impl.Create(d, fmt.Sprintf("f%02d", i))
		if code != impl.DiskGood {
			t.Fatal(i, code)
		}
		d = next
	}
	d, code := impl.Append(d, "f00", make([]byte, impl.MaxDisk-left))
	if code != impl.DiskGood || !impl.DiskOk(d) {
		t.Fatal(code)
	}
	return d
}

func TestMostFiles(t *testing.T) {
	d := fullDisk(t, impl.MaxFiles, impl.MaxDisk)
	mustRefuse(t, d, step{call: "Create", name: "more"}, impl.DiskFull)
	mustRefuse(t, d, step{call: "Create", name: "f07"}, impl.DiskThere)
	d, code := impl.SyncDir(d)
	if code != impl.DiskGood || !impl.DiskOk(d) || len(d.Safe) != impl.MaxFiles {
		t.Fatal(code, d)
	}
	mustRefuse(t, d, step{call: "Create", name: "more"}, impl.DiskFull)
	for i := range impl.MaxFiles {
		d, code = impl.Remove(d, fmt.Sprintf("f%02d", i))
		if code != impl.DiskGood {
			t.Fatal(i, code)
		}
		if d, code = impl.Create(d, fmt.Sprintf("g%02d", i)); code != impl.DiskGood || !impl.DiskOk(d) {
			t.Fatal(i, code)
		}
	}
	if len(d.Inodes) != 2*impl.MaxFiles || d.Next != 2*impl.MaxFiles+1 {
		t.Error(len(d.Inodes), d.Next)
	}
	mustRefuse(t, d, step{call: "Create", name: "more"}, impl.DiskFull)
	if d, code = impl.Rename(d, "g00", "more"); code != impl.DiskGood || len(d.Names) != impl.MaxFiles {
		t.Error("renamed", code, d)
	}
	if d = impl.Fall(d, 0); len(d.Inodes) != impl.MaxFiles || !impl.DiskOk(d) {
		t.Error("fallen", d)
	}
	one := impl.Disk{Next: 99}
	for i := range impl.MaxFiles + 1 {
		one.Inodes = append(one.Inodes, impl.Inode{Id: i + 1})
		one.Names = append(one.Names, impl.Entry{Name: fmt.Sprintf("f%02d", i), Id: i + 1})
		other := impl.Disk{Inodes: one.Inodes, Safe: one.Names, Next: 99}
		if right := i < impl.MaxFiles; impl.DiskOk(one) != right || impl.DiskOk(other) != right {
			t.Error(i+1, "files", impl.DiskOk(one), impl.DiskOk(other))
		}
	}
}

func TestMostBytes(t *testing.T) {
	d := fullDisk(t, 2, 3)
	mustRefuse(t, d, step{call: "Append", name: "f01", data: []byte("four")}, impl.DiskFull)
	mustRefuse(t, d, step{call: "Append", name: "f00", data: []byte("four")}, impl.DiskFull)
	d, code := impl.Append(d, "f01", []byte("abc"))
	if code != impl.DiskGood || !impl.DiskOk(d) {
		t.Fatal(code)
	}
	mustRefuse(t, d, step{call: "Append", name: "f00", data: []byte("x")}, impl.DiskFull)
	mustRefuse(t, d, step{call: "Append", name: "f01", data: []byte("x")}, impl.DiskFull)
	if e, code := impl.Append(d, "f01", nil); code != impl.DiskGood || !same(e, d) {
		t.Error("nothing more has room", code)
	}
	d, _ = impl.SyncDir(d)
	d, _ = impl.Remove(d, "f00")
	mustRefuse(t, d, step{call: "Append", name: "f01", data: []byte("x")}, impl.DiskFull) // it would come back
	d, _ = impl.SyncDir(d)
	if d, code = impl.Append(d, "f01", make([]byte, impl.MaxDisk-3)); code != impl.DiskGood || !impl.DiskOk(d) {
		t.Error(code)
	}
	mustRefuse(t, d, step{call: "Append", name: "f01", data: []byte("x")}, impl.DiskFull)
	if b, ok := impl.Bytes(d, "f01"); !ok || len(b) != impl.MaxDisk || string(b[:4]) != "abc\x00" {
		t.Error(len(b), ok)
	}
	much := impl.Disk{Inodes: inodes(inode(1, "", 0), inode(2, "x", 0)), Names: entries("a1 b2"), Next: 3}
	for size, right := range map[int]bool{impl.MaxDisk - 1: true, impl.MaxDisk: false, 3 * impl.MaxDisk: false} {
		much.Inodes[0].Data = make([]byte, size)
		if impl.DiskOk(much) != right {
			t.Error(size+1, "bytes")
		}
	}
}

func TestNextAtItsEnds(t *testing.T) {
	for next, right := range map[int]bool{
		math.MinInt: false, -1: false, 0: false, 1: true, 2: true, lastNext - 1: true, lastNext: true, lastNext + 1: false, math.MaxInt: false,
	} {
		d := impl.Disk{Next: next}
		if impl.DiskOk(d) != right {
			t.Error("Next", next)
		}
		if !right {
			mustRefuse(t, d, step{call: "SyncDir"}, impl.DiskForm)
		}
	}
	d, code := impl.Create(impl.Disk{Next: lastNext - 1}, "a")
	mustBeDisk(t, "the last one", d, disk(inodes(inode(lastNext-1, "", 0)), []impl.Entry{{Name: "a", Id: lastNext - 1}}, nil, lastNext))
	if code != impl.DiskGood {
		t.Error(code)
	}
	mustRefuse(t, d, step{call: "Create", name: "b"}, impl.DiskFull)
	mustRefuse(t, d, step{call: "Create", name: "a"}, impl.DiskThere)
	if d, code = impl.Append(d, "a", []byte("x")); code != impl.DiskGood || !impl.DiskOk(d) {
		t.Error(code)
	}
}

// wrongDisks are not as told, each for one reason.
func wrongDisks() map[string]impl.Disk {
	good := func() impl.Disk {
		return disk(inodes(inode(2, "two", 1), inode(4, "four", 4), inode(5, "", 0)), entries("a2 b4"), entries("a5 c4"), 6)
	}
	out := map[string]impl.Disk{}
	wrong := func(why string, change func(d *impl.Disk)) {
		d := good()
		change(&d)
		out[why] = d
	}
	wrong("inodes out of order", func(d *impl.Disk) { slices.Reverse(d.Inodes) })
	wrong("two inodes out of order", func(d *impl.Disk) { d.Inodes[1], d.Inodes[2] = d.Inodes[2], d.Inodes[1] })
	wrong("an inode twice", func(d *impl.Disk) { d.Inodes = slices.Insert(d.Inodes, 0, d.Inodes[0]) })
	wrong("an inode of 0", func(d *impl.Disk) { d.Inodes[0].Id, d.Names[0].Id = 0, 0 })
	wrong("an inode below 0", func(d *impl.Disk) { d.Inodes[0].Id, d.Names[0].Id = -1, -1 })
	wrong("an inode of Next", func(d *impl.Disk) { d.Next = 5 })
	wrong("inodes above Next", func(d *impl.Disk) { d.Next = 1 })
	wrong("Next 0", func(d *impl.Disk) { d.Next = 0 })
	wrong("Next below 0", func(d *impl.Disk) { d.Next = -6 })
	wrong("Next too great", func(d *impl.Disk) { d.Next = lastNext + 1 })
	wrong("Sure below 0", func(d *impl.Disk) { d.Inodes[2].Sure = -1 })
	wrong("Sure far below 0", func(d *impl.Disk) { d.Inodes[0].Sure = math.MinInt })
	wrong("Sure past the bytes", func(d *impl.Disk) { d.Inodes[0].Sure = 4 })
	wrong("Sure past no bytes", func(d *impl.Disk) { d.Inodes[2].Sure = 1 })
	wrong("Sure far past the bytes", func(d *impl.Disk) { d.Inodes[0].Sure = math.MaxInt })
	wrong("Sure in the room behind the bytes", func(d *impl.Disk) { d.Inodes[1].Data = d.Inodes[1].Data[:3] })
	wrong("an inode that nothing names", func(d *impl.Disk) { d.Safe[0].Id = 2 })
	wrong("one more inode that nothing names", func(d *impl.Disk) { d.Inodes = append(inodes(inode(1, "", 0)), d.Inodes...) })
	wrong("no names at all", func(d *impl.Disk) { d.Names, d.Safe = nil, nil })
	wrong("no inodes at all", func(d *impl.Disk) { d.Inodes = nil })
	wrong("Names out of order", func(d *impl.Disk) { slices.Reverse(d.Names) })
	wrong("Safe out of order", func(d *impl.Disk) { slices.Reverse(d.Safe) })
	wrong("a name twice", func(d *impl.Disk) { d.Names[1].Name = "a" })
	wrong("a safe name twice", func(d *impl.Disk) { d.Safe[1].Name = "a" })
	wrong("an Id twice in Names", func(d *impl.Disk) { d.Names = append(d.Names, impl.Entry{Name: "d", Id: 2}) })
	wrong("an Id twice in Safe", func(d *impl.Disk) { d.Safe = append(d.Safe, impl.Entry{Name: "d", Id: 5}) })
	wrong("an Id in Names that is not there", func(d *impl.Disk) { d.Names = append(d.Names, impl.Entry{Name: "d", Id: 3}) })
	wrong("an Id in Safe that is not there", func(d *impl.Disk) { d.Safe = append(d.Safe, impl.Entry{Name: "d", Id: 1}) })
	wrong("the Id 0", func(d *impl.Disk) { d.Names = append(d.Names, impl.Entry{Name: "d"}) })
	wrong("an Id past all", func(d *impl.Disk) { d.Safe = append(d.Safe, impl.Entry{Name: "d", Id: 6}) })
	wrong("an empty name", func(d *impl.Disk) { d.Names[0].Name = "" })
	wrong("an empty safe name", func(d *impl.Disk) { d.Safe[0].Name = "" })
	wrong("a great letter", func(d *impl.Disk) { d.Names[0].Name = "A" })
	wrong("a great letter in Safe", func(d *impl.Disk) { d.Safe[0].Name = "A" })
	wrong("a long name", func(d *impl.Disk) { d.Names[0].Name = "aaaaaaaaaaaaa" })
	wrong("a long safe name", func(d *impl.Disk) { d.Safe[0].Name = "aaaaaaaaaaaaa" })
	wrong("too many bytes", func(d *impl.Disk) { d.Inodes[0].Data = make([]byte, impl.MaxDisk-3) })
	out["all zero"] = impl.Disk{}
	if !impl.DiskOk(good()) {
		out = nil
	}
	return out
}

func TestWrongDisks(t *testing.T) {
	all := wrongDisks()
	if len(all) < 30 {
		t.Fatal("what they are made of is not right")
	}
	for why, d := range all {
		if impl.DiskOk(d) {
			t.Error("DiskOk:", why)
		}
		for _, s := range parseSteps("+new +a a=x b=x none=x !a !b !none ! a>new a>b a>a none>a -a -b -none") {
			mustRefuse(t, d, s, impl.DiskForm)
		}
		mustRefuse(t, d, step{call: "Append", name: "a", data: make([]byte, impl.MaxDisk+1)}, impl.DiskForm)
		for _, keep := range []int{-1, 0, 1, math.MaxInt} {
			if got := impl.Fall(d, keep); !same(got, d) {
				t.Error("Fall:", why, got)
			}
		}
		for _, name := range []string{"a", "b", "c", "d", ""} {
			if b, ok := impl.Bytes(d, name); ok || len(b) != 0 {
				t.Error("Bytes:", why, b, ok)
			}
		}
		if l := impl.List(d); len(l) != 0 {
			t.Error("List:", why, l)
		}
	}
}

// What may be shared, odd or empty, and is right all the same.
func TestOddDisksThatAreRight(t *testing.T) {
	d := disk(inodes(inode(2, "two", 0), inode(4, "four", 4), inode(5, "", 0)), entries("a2 b4"), entries("a5 c4"), 6)
	for _, next := range []int{6, 7, lastNext} {
		d.Next = next
		if !impl.DiskOk(d) {
			t.Error(next)
		}
	}
	for _, d := range []impl.Disk{
		{Inodes: inodes(), Names: entries(""), Safe: entries(""), Next: 1},
		disk(inodes(inode(1, "", 0)), entries("a1"), nil, 2),
		disk(inodes(inode(1, "", 0)), nil, entries("a1"), 2),
		disk(inodes(inode(1, "x", 0)), entries("a1"), entries("b1"), 2),
		disk(inodes(inode(1, "x", 1)), entries("a1"), entries("a1"), 2),
		disk(inodes(inode(7, strings.Repeat("x", impl.MaxDisk), impl.MaxDisk)), entries("a7"), nil, 8),
	} {
		if !impl.DiskOk(d) {
			t.Error(d)
		}
	}
}

// The disk told the plain way: files by pointers, and a map for each list.
type plainFile struct {
	id   int
	data []byte
	sure int
}

type plainDisk struct {
	names map[string]*plainFile
	safe  map[string]*plainFile
	next  int
}

func (p *plainDisk) take(s step) int {
	f, there := p.names[s.name]
	switch {
	case s.call == "SyncDir":
		p.safe = maps.Clone(p.names)
	case slices.Contains(wrongNames, s.name) || s.call == "Rename" && slices.Contains(wrongNames, s.to):
		return impl.DiskForm
	case s.call == "Create" && there:
		return impl.DiskThere
	case s.call == "Create" && (len(p.names) == impl.MaxFiles || p.next == lastNext):
		return impl.DiskFull
	case s.call == "Create":
		p.names[s.name] = &plainFile{id: p.next}
		p.next++
	case !there:
		return impl.DiskNone
	case s.call == "Append" && p.size()+len(s.data) > impl.MaxDisk:
		return impl.DiskFull
	case s.call == "Append":
		f.data = append(f.data, s.data...)
	case s.call == "Sync":
		f.sure = len(f.data)
	case s.call == "Rename" && s.to != s.name:
		p.names[s.to] = f
		delete(p.names, s.name)
	case s.call == "Remove":
		delete(p.names, s.name)
	}
	return impl.DiskGood
}

func (p *plainDisk) files() map[int]*plainFile {
	out := map[int]*plainFile{}
	for _, m := range []map[string]*plainFile{p.names, p.safe} {
		for _, f := range m {
			out[f.id] = f
		}
	}
	return out
}

func (p *plainDisk) size() int {
	n := 0
	for _, f := range p.files() {
		n += len(f.data)
	}
	return n
}

func (p *plainDisk) disk() impl.Disk {
	out := impl.Disk{Next: p.next}
	files := p.files()
	for _, id := range slices.Sorted(maps.Keys(files)) {
		out.Inodes = append(out.Inodes, impl.Inode{Id: id, Data: bytes.Clone(files[id].data), Sure: files[id].sure})
	}
	for _, name := range slices.Sorted(maps.Keys(p.names)) {
		out.Names = append(out.Names, impl.Entry{Name: name, Id: p.names[name].id})
	}
	for _, name := range slices.Sorted(maps.Keys(p.safe)) {
		out.Safe = append(out.Safe, impl.Entry{Name: name, Id: p.safe[name].id})
	}
	return out
}

func (p *plainDisk) fall(keep int) {
	p.names = maps.Clone(p.safe)
	for _, f := range p.files() {
		f.data = f.data[:min(len(f.data), f.sure+keep)]
		f.sure = len(f.data)
	}
}

func someStep(r *rand.Rand, names []string) step {
	calls := []string{"Create", "Create", "Create", "Append", "Append", "Append", "Sync", "Sync", "SyncDir", "Rename", "Rename", "Remove"}
	s := step{call: calls[r.Intn(len(calls))], name: names[r.Intn(len(names))], to: names[r.Intn(len(names))]}
	s.data = make([]byte, r.Intn(9))
	if r.Intn(40) == 0 {
		s.data = make([]byte, r.Intn(impl.MaxDisk))
	}
	r.Read(s.data)
	return s
}

// Long walks of any steps, held step by step against the plain way, and of
// each disk on the way what a crash leaves.
func TestWalksOverTheDisk(t *testing.T) {
	few := []string{"a", "b", "c", "ab", "-", "", "A"}
	var many []string
	for i := range 45 {
		many = append(many, fmt.Sprintf("n%d", i))
	}
	for seed := range int64(40) {
		r := rand.New(rand.NewSource(seed))
		names := few
		if seed%4 == 3 {
			names = many
		}
		d := impl.DiskNew()
		p := &plainDisk{map[string]*plainFile{}, map[string]*plainFile{}, 1}
		for i := range 250 {
			s := someStep(r, names)
			next, code := take(d, s)
			if want := p.take(s); code != want || !same(next, p.disk()) || !impl.DiskOk(next) {
				t.Fatalf("seed %d, step %d, %v: %v %d, not %v %d", seed, i, s, next, code, p.disk(), want)
			}
			d = next
			checkPromiseOfFiles(t, d, r.Intn(5))
			if r.Intn(25) == 0 {
				keep := r.Intn(6)
				d = impl.Fall(d, keep)
				p.fall(keep)
				if !same(d, p.disk()) || !impl.DiskOk(d) {
					t.Fatalf("seed %d, fall %d: %v, not %v", seed, keep, d, p.disk())
				}
			}
		}
	}
}

// checkPromiseOfFiles: what was made sure, of a name that was, is there behind a crash.
func checkPromiseOfFiles(t *testing.T, d impl.Disk, keep int) {
	t.Helper()
	fallen := impl.Fall(d, keep)
	if !impl.DiskOk(fallen) || len(impl.List(fallen)) != len(d.Safe) {
		t.Fatal("fallen", fallen)
	}
	for _, e := range d.Safe {
		b, ok := impl.Bytes(fallen, e.Name)
		for _, n := range d.Inodes {
			if n.Id == e.Id && (!ok || len(b) < n.Sure || len(b) > n.Sure+keep || !bytes.HasPrefix(n.Data, b)) {
				t.Fatalf("%s was %v, and is %q behind a crash with %d", e.Name, n, b, keep)
			}
		}
	}
}

func TestMemoryOfTheDisk(t *testing.T) {
	shared := []byte("one list")
	twice := entries("a1 b2")
	disks := wrongDisks()
	disks["new"] = impl.DiskNew()
	disks["some"] = diskOf(t, "+a a=x !a a=yz +b b=other ! +c c=new b>d")
	disks["safe"] = diskOf(t, "+a a=xyz !a +b b=other !b !")
	disks["one list for both"] = disk(inodes(impl.Inode{Id: 1, Data: shared, Sure: 2}, impl.Inode{Id: 2, Data: shared}), twice, twice, 3)
	disks["full"] = fullDisk(t, impl.MaxFiles, 0)
	for why, d := range disks {
		for _, s := range parseSteps("+new +a a= a=more f00=x none=x !a !b ! a>new a>b a>a none>a -a -b -none") {
			checkMemory(t, why+" "+s.String(), []any{d, s.data}, func(args []any) []any {
				s.data = args[1].([]byte)
				next, _ := take(args[0].(impl.Disk), s)
				return []any{next}
			})
		}
		for _, keep := range []int{-1, 0, 1, 2, 100} {
			checkMemory(t, fmt.Sprint(why, " Fall ", keep), []any{d}, func(args []any) []any {
				return []any{impl.Fall(args[0].(impl.Disk), keep)}
			})
		}
		checkMemory(t, why+" Bytes and List", []any{d}, func(args []any) []any {
			b, _ := impl.Bytes(args[0].(impl.Disk), "a")
			return []any{b, impl.List(args[0].(impl.Disk)), impl.DiskOk(args[0].(impl.Disk))}
		})
	}
	d := disk(inodes(impl.Inode{Id: 1, Data: shared, Sure: 2}, impl.Inode{Id: 2, Data: shared}), twice, twice, 3)
	if next, code := impl.Append(d, "a", []byte("!")); code != impl.DiskGood || string(next.Inodes[1].Data) != "one list" {
		t.Error("a list that two files have", next, code)
	}
	if next, code := impl.Rename(d, "a", "z"); code != impl.DiskGood || !same(next.Safe, entries("a1 b2")) {
		t.Error("a list that is both Names and Safe", next, code)
	}
}

func TestLostBytesAreNotHandedOut(t *testing.T) {
	d := diskOf(t, "+a a=keep !a ! a=lost")
	for _, n := range impl.Fall(d, 0).Inodes {
		if bytes.Contains(n.Data[:cap(n.Data)], []byte("lost")) {
			t.Error("behind its bytes lie those that were lost")
		}
	}
}
