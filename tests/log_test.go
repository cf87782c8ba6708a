package tests

import (
	"bytes"
	"fmt"
	"math"
	"math/rand"
	"slices"
	"strings"
	"testing"

	"loop.example/g00184/impl"
)

var (
	_ func([]byte) ([][]byte, int)                       = impl.Records
	_ func(impl.Disk, string, []byte) (impl.Disk, int)   = impl.Log
	_ func(impl.Disk, string) (impl.Disk, [][]byte, int) = impl.Mend
)

var logs = [][]string{
	{}, {""}, {"one"}, {"\x00"}, {"", "", ""}, {"one", "two"}, {"", "a", "", "bc", ""}, {"a", "a", "a"},
	{"\x00\x00\x00\x00\x00", "\xff\xff\xff\xff\xff\xff"}, {strings.Repeat("x", 127), strings.Repeat("y", 128), "z"}, bodies,
}

// None of these is a frame, nor becomes one with what the tests lay behind it.
var noFrames = map[string]string{
	"one byte":                    "\x01",
	"three bytes":                 "\x01\x02\x03",
	"a sum alone":                 "\x00\x00\x00\x01",
	"a sum and a beginning":       "\x00\x00\x00\x00\x81",
	"a needless group":            "\x00\x00\x00\x00\x80\x00",
	"a needless group ahead":      "\xe3\x06\x92\x83\x80\x09123456789",
	"a count past the end":        "\xe3\x06\x92\x83\x0a123456789",
	"a count that is too small":   "\xe3\x06\x92\x83\x08123456789",
	"the count MaxNum":            "\x00\x00\x00\x00\x83\xdc\xeb\x94\x00",
	"a count above MaxNum":        "\x00\x00\x00\x00\x83\xdc\xeb\x94\x01",
	"a count that goes round":     "\x00\x00\x00\x00\x82\x80\x80\x80\x80\x80\x80\x80\x80\x80\x00",
	"another sum":                 "\xe3\x06\x92\x84\x09123456789",
	"a sum with the lowest first": "\x83\x92\x06\xe3\x09123456789",
	"the sum of nothing":          "\x00\x00\x00\x00\x03one",
	"a text without a sum":        "\x03one",
}

func framesOf(list []string) []byte {
	var out []byte
	for _, body := range list {
		out = append(out, slowFrame(body)...)
	}
	return out
}

func textsOf(list [][]byte) []string {
	var out []string
	for _, b := range list {
		out = append(out, string(b))
	}
	return out
}

// slowRecords reads a log the long way: what a frame holds is a body whose
// frame, made anew, is just what stands there.
func slowRecords(b []byte) ([]string, int) {
	var out []string
	at := 0
	for at+4 < len(b) {
		n, used, ok := slowNum(b[at+4:])
		from := at + 4 + used
		if !ok || n > len(b)-from || slowFrame(string(b[from:from+n])) != string(b[at:from+n]) {
			break
		}
		out = append(out, string(b[from:from+n]))
		at = from + n
	}
	return out, at
}

func mustRecord(t *testing.T, what string, b []byte, want []string, place int) {
	t.Helper()
	got, at := impl.Records(b)
	if !slices.Equal(textsOf(got), want) || at != place {
		t.Errorf("%s: Records: %q %d, not %q %d", what, got, at, want, place)
	}
}

func TestRecordsOfWholeLogs(t *testing.T) {
	mustRecord(t, "nil", nil, nil, 0)
	mustRecord(t, "empty", []byte{}, nil, 0)
	mustRecord(t, "the forms", []byte("\x00\x00\x00\x00\x00\xe3\x06\x92\x83\x09123456789"), []string{"", "123456789"}, 19)
	for i, list := range logs {
		b := framesOf(list)
		mustRecord(t, fmt.Sprint("log ", i), b, list, len(b))
	}
	many := slices.Repeat([]string{"", "some"}, 3000)
	mustRecord(t, "many", framesOf(many), many, len(framesOf(many)))
}

func TestRecordsEndAtTheFirstThatIsNone(t *testing.T) {
	for i, list := range logs {
		b := framesOf(list)
		for why, none := range noFrames {
			what := fmt.Sprintf("log %d, then %s", i, why)
			mustRecord(t, what, append(bytes.Clone(b), none...), list, len(b))
			mustRecord(t, what+", and more", append(append(bytes.Clone(b), none...), 0xff, 0xff), list, len(b))
		}
	}
}

func TestFramesBehindOneThatIsNoneAreNotRead(t *testing.T) {
	for why, none := range map[string]string{
		"another sum":               "\xe3\x06\x92\x84\x09123456789",
		"a count that is too small": "\xe3\x06\x92\x83\x08123456789",
		"a needless group":          "\xe3\x06\x92\x83\x80\x09123456789",
		"a count above MaxNum":      "\x00\x00\x00\x00\x83\xdc\xeb\x94\x01",
		"one byte":                  "\x01",
	} {
		for i, list := range logs {
			b := framesOf(list)
			more := append(append(bytes.Clone(b), none...), framesOf([]string{"two", "", "three"})...)
			mustRecord(t, fmt.Sprintf("log %d, %s, and frames", i, why), more, list, len(b))
		}
	}
}

func TestZerosAreEmptyRecords(t *testing.T) {
	for n := range 23 {
		mustRecord(t, fmt.Sprint(n, " zeros"), make([]byte, n), slices.Repeat([]string{""}, n/5), n/5*5)
	}
}

func TestRecordsOfALogTornAtEachByte(t *testing.T) {
	list := []string{"one", "", "two and more", strings.Repeat("x", 200), "\x00"}
	b := framesOf(list)
	for cut := range len(b) + 1 {
		whole, place := 0, 0
		for whole < len(list) && place+len(slowFrame(list[whole])) <= cut {
			place += len(slowFrame(list[whole]))
			whole++
		}
		mustRecord(t, fmt.Sprint("torn at ", cut), b[:cut], list[:whole], place) // the rest lies behind its length
		mustRecord(t, fmt.Sprint("cut at ", cut), bytes.Clone(b[:cut]), list[:whole], place)
	}
}

func TestRecordsWithABitTurned(t *testing.T) {
	list := []string{"one", "two and more", strings.Repeat("x", 200), "last"}
	for k := range list {
		b := framesOf(list)
		from := len(framesOf(list[:k]))
		for i := from; i < len(framesOf(list[:k+1])); i++ {
			for bit := range 8 {
				b[i] ^= 1 << bit
				mustRecord(t, fmt.Sprintf("bit %d of byte %d", bit, i), b, list[:k], from)
				b[i] ^= 1 << bit
			}
		}
		mustRecord(t, "all turned back", b, list, len(b))
	}
}

func TestRecordsOfAnyBytes(t *testing.T) {
	r := rand.New(rand.NewSource(3))
	for range 3000 {
		b := framesOf(logs[r.Intn(len(logs)-2)])
		for range r.Intn(3) {
			if len(b) > 0 {
				b[r.Intn(len(b))] ^= byte(r.Intn(256))
			}
		}
		b = append(b, make([]byte, r.Intn(8))...)
		want, place := slowRecords(b)
		mustRecord(t, fmt.Sprintf("%x", b), b, want, place)
	}
}

func logAll(t *testing.T, d impl.Disk, name string, list []string) impl.Disk {
	t.Helper()
	for _, body := range list {
		next, code := impl.Log(d, name, []byte(body))
		if code != impl.DiskGood || !impl.DiskOk(next) {
			t.Fatal("Log", len(body), code)
		}
		d = next
	}
	return d
}

func TestLogIsAppendOfAFrame(t *testing.T) {
	for i, list := range logs {
		d := diskOf(t, "+other other=x +log log= ! other=y")
		d = logAll(t, d, "log", list)
		want := disk(inodes(inode(1, "xy", 0), inode(2, string(framesOf(list)), 0)), entries("log2 other1"), entries("log2 other1"), 3)
		mustBeDisk(t, fmt.Sprint("log ", i), d, want)
		b, ok := impl.Bytes(d, "log")
		mustRecord(t, fmt.Sprint("log ", i, " ", ok), b, list, len(framesOf(list)))
	}
	d := diskOf(t, "+log log=abc !log ! log=d")
	d = logAll(t, d, "log", []string{"one"})
	mustBeDisk(t, "behind what is there", d, disk(inodes(inode(1, "abcd"+slowFrame("one"), 3)), entries("log1"), entries("log1"), 2))
	if next, code := impl.Log(d, "log", nil); code != impl.DiskGood || string(next.Inodes[0].Data) != "abcd"+slowFrame("one")+slowFrame("") {
		t.Error("nothing is a body, too", next, code)
	}
}

func mustNotLog(t *testing.T, d impl.Disk, name string, body []byte, code int) {
	t.Helper()
	before := wholeCopy(d)
	got, c := impl.Log(d, name, body)
	if c != code || !same(got, d) || !same(wholeCopy(d), before) {
		t.Errorf("Log of %d bytes to %q: %d, not %d and the disk as it was", len(body), name, c, code)
	}
}

func TestLogRefused(t *testing.T) {
	d := diskOf(t, "+a a=x +b ! -b")
	for _, name := range wrongNames {
		mustNotLog(t, d, name, []byte("x"), impl.DiskForm)
	}
	for _, bad := range wrongDisks() {
		for _, name := range []string{"a", "b", "none", ""} {
			mustNotLog(t, bad, name, []byte("x"), impl.DiskForm)
		}
	}
	for _, name := range []string{"b", "none", "mend"} {
		mustNotLog(t, d, name, []byte("x"), impl.DiskNone)
		mustNotLog(t, d, name, make([]byte, impl.MaxDisk), impl.DiskNone)
	}
	room := impl.MaxDisk - 1
	head := len(slowFrame(string(make([]byte, room-10)))) - (room - 10)
	mustNotLog(t, d, "a", make([]byte, room-head+1), impl.DiskFull)
	if next, code := impl.Log(d, "a", make([]byte, room-head)); code != impl.DiskGood || !impl.DiskOk(next) {
		t.Error("just as much as there is room for", code)
	}
	mustNotLog(t, fullDisk(t, 1, 4), "f00", nil, impl.DiskFull)
	if next, code := impl.Log(fullDisk(t, 1, 5), "f00", nil); code != impl.DiskGood || len(next.Inodes[0].Data) != impl.MaxDisk {
		t.Error("room for an empty one", code)
	}
}

func mustAppend(t *testing.T, d impl.Disk, name string, b []byte) impl.Disk {
	t.Helper()
	next, code := impl.Append(d, name, b)
	if code != impl.DiskGood {
		t.Fatal("Append", name, len(b), code)
	}
	return next
}

func mustMend(t *testing.T, what string, d impl.Disk, name string, want []string) impl.Disk {
	t.Helper()
	before := wholeCopy(d)
	mended, got, code := impl.Mend(d, name)
	if code != impl.DiskGood || !slices.Equal(textsOf(got), want) || !impl.DiskOk(mended) {
		t.Fatalf("%s: Mend: %q %d, not %q", what, got, code, want)
	}
	if b, ok := impl.Bytes(mended, name); !ok || !bytes.Equal(b, framesOf(want)) {
		t.Fatalf("%s: mended, the file is %x %v, not the frames of %q", what, b, ok, want)
	}
	if !same(wholeCopy(d), before) {
		t.Errorf("%s: wrote into the disk", what)
	}
	return mended
}

func mustNotMend(t *testing.T, what string, d impl.Disk, name string, code int) {
	t.Helper()
	before := wholeCopy(d)
	got, records, c := impl.Mend(d, name)
	if c != code || len(records) != 0 || !same(got, d) || !same(wholeCopy(d), before) {
		t.Errorf("%s: Mend of %q: %d records and %d, not %d and the disk as it was", what, name, len(records), c, code)
	}
}

func TestMendOfAWholeLogChangesNothing(t *testing.T) {
	for i, list := range logs {
		for _, script := range []string{"+log", "+log !", "+log ! +mend mend=old", "+log +mend mend=old ! -mend +z", "+mend mend=old !mend ! +log +z -mend"} {
			d := logAll(t, diskOf(t, script), "log", list)
			what := fmt.Sprint("log ", i, " ", script)
			mustBeDisk(t, what, mustMend(t, what, d, "log", list), d)
			d, _ = impl.Sync(d, "log")
			mustBeDisk(t, what+", sure", mustMend(t, what, d, "log", list), d)
		}
		d := logAll(t, diskOf(t, "+mend ! +z"), "mend", list)
		mustBeDisk(t, fmt.Sprint("mend itself ", i), mustMend(t, "mend itself", d, "mend", list), d)
	}
	full := fullDisk(t, impl.MaxFiles, impl.MaxDisk-10)
	full.Next = lastNext
	mustBeDisk(t, "a full disk", mustMend(t, "a full disk", full, "f00", []string{"", ""}), full)
}

func TestMendCutsOffWhatIsBehindTheRecords(t *testing.T) {
	kept := string(framesOf([]string{"one", "two"}))
	torn := kept + "\x01\x02\x03"
	cut := inode(0, kept, len(kept))
	made := func(id int) impl.Inode { cut.Id = id; return cut }
	for _, x := range []struct {
		script string
		name   string
		want   impl.Disk
	}{
		{"+log", "log", disk(inodes(made(2)), entries("log2"), entries("log2"), 3)},
		{"+log !", "log", disk(inodes(made(2)), entries("log2"), entries("log2"), 3)},
		{"+log +mend mend=old", "log", disk(inodes(made(3)), entries("log3"), entries("log3"), 4)},
		{"+log +mend mend=old !", "log", disk(inodes(made(3)), entries("log3"), entries("log3"), 4)},
		{"+log +mend mend=old !mend ! -mend", "log", disk(inodes(made(3)), entries("log3"), entries("log3"), 4)},
		{"+mend", "mend", disk(inodes(made(2)), entries("mend2"), entries("mend2"), 3)},
		{"+mend !", "mend", disk(inodes(made(2)), entries("mend2"), entries("mend2"), 3)},
		{"+mend mend=old ! -mend +mend", "mend", disk(inodes(made(3)), entries("mend3"), entries("mend3"), 4)},
		{"+a a=ab !a a=c +gone ! -gone +log +z z=x", "log",
			disk(inodes(inode(1, "abc", 2), inode(4, "x", 0), made(5)), entries("a1 log5 z4"), entries("a1 log5 z4"), 6)},
		{"+a a=ab ! a>b +log", "log", disk(inodes(inode(1, "ab", 0), made(3)), entries("b1 log3"), entries("b1 log3"), 4)},
	} {
		d := mustAppend(t, diskOf(t, x.script), x.name, []byte(torn))
		mustBeDisk(t, x.script, mustMend(t, x.script, d, x.name, []string{"one", "two"}), x.want)
		d, _ = impl.Sync(d, x.name)
		mustBeDisk(t, x.script+", sure", mustMend(t, x.script, d, x.name, []string{"one", "two"}), x.want)
	}
	d := mustMend(t, "no record", diskOf(t, "+log log=x"), "log", nil)
	mustBeDisk(t, "no record", d, disk(inodes(inode(2, "", 0)), entries("log2"), entries("log2"), 3))
}

func TestMendOfWhatIsNoFrame(t *testing.T) {
	for i, list := range logs {
		for why, none := range noFrames {
			what := fmt.Sprintf("log %d, then %s", i, why)
			for _, behind := range []string{"", string(framesOf([]string{"", "back again"}))} {
				d := logAll(t, diskOf(t, "+log !"), "log", list)
				d = mustAppend(t, d, "log", []byte(none+behind))
				b, _ := impl.Bytes(d, "log")
				want, _ := slowRecords(b)
				if !slices.Equal(want, list) {
					t.Fatalf("%s: some of it is a record: %q", what, want)
				}
				mended := mustMend(t, what, d, "log", list)
				mustBeDisk(t, what, mended, disk(inodes(inode(2, string(framesOf(list)), len(framesOf(list)))), entries("log2"), entries("log2"), 3))
				mustBeDisk(t, what+", mended twice", mustMend(t, what, mended, "log", list), mended)
			}
		}
	}
}

// A mended log outlives any crash just as it is, and can be gone on with.
func TestMendOfALogTornAtEachByte(t *testing.T) {
	list := []string{"one", "", "two and more", strings.Repeat("x", 130)}
	b := framesOf(list)
	for cut := range len(b) + 1 {
		what := fmt.Sprint("torn at ", cut)
		want, place := slowRecords(b[:cut])
		d := mustMend(t, what, mustAppend(t, diskOf(t, "+log !"), "log", b[:cut]), "log", want)
		if place < cut {
			for _, keep := range []int{0, 1, 1000, math.MaxInt} {
				mustBeDisk(t, what+", fallen", impl.Fall(d, keep), d)
			}
		}
		d = logAll(t, d, "log", []string{"new"})
		mustMend(t, what+", gone on with", d, "log", append(slices.Clone(want), "new"))
	}
}

func TestMendOfALogWithABitTurned(t *testing.T) {
	list := []string{"one", "two and more", "last"}
	b := framesOf(list)
	from, to := len(framesOf(list[:1])), len(framesOf(list[:2]))
	for i := from; i < to; i++ {
		for bit := range 8 {
			b[i] ^= 1 << bit
			d := mustAppend(t, diskOf(t, "+log !"), "log", b)
			mustMend(t, fmt.Sprintf("bit %d of byte %d", bit, i), d, "log", list[:1])
			b[i] ^= 1 << bit
		}
	}
}

// Of each number of sure records, crashes that keep each number of bytes.
func TestMendBehindCrashes(t *testing.T) {
	list := []string{"one", "", "two and more", "x"}
	for sure := range len(list) + 1 {
		d := logAll(t, diskOf(t, "+log !"), "log", list[:sure])
		d, _ = impl.Sync(d, "log")
		d = logAll(t, d, "log", list[sure:])
		least := len(framesOf(list[:sure]))
		for keep := range len(framesOf(list)) - least + 3 {
			what := fmt.Sprintf("%d sure, %d bytes kept", sure, keep)
			fallen := impl.Fall(d, keep)
			want, _ := slowRecords(framesOf(list)[:min(least+keep, len(framesOf(list)))])
			if len(want) < sure {
				t.Fatal(what, want)
			}
			mended := mustMend(t, what, fallen, "log", want)
			for _, again := range []int{0, 1, 7, math.MaxInt} {
				mustMend(t, what+", fallen again", impl.Fall(mended, again), "log", want)
				mustBeDisk(t, what+", fallen again", impl.Fall(mended, again), mended)
			}
		}
	}
}

// A log that was whole, and not sure, is not made sure: a crash may tear it yet.
func TestMendOfAWholeLogMakesNothingSure(t *testing.T) {
	d := logAll(t, diskOf(t, "+log !"), "log", []string{"one", "two"})
	d = mustMend(t, "whole", d, "log", []string{"one", "two"})
	mustMend(t, "fallen", impl.Fall(d, 15), "log", []string{"one"})
	mustMend(t, "all lost", impl.Fall(d, 0), "log", nil)
	e := logAll(t, diskOf(t, "+log"), "log", []string{"one"})
	e = mustMend(t, "a name that is not sure", e, "log", []string{"one"})
	mustNotMend(t, "its name was lost", impl.Fall(e, 100), "log", impl.DiskNone)
}

// Long walks: bodies logged, made sure, torn by crashes, mended, gone on with.
func TestWalksOverALog(t *testing.T) {
	for seed := range int64(60) {
		r := rand.New(rand.NewSource(seed))
		name := []string{"log", "mend", "log-1"}[seed%3]
		d := diskOf(t, "+"+name+" !")
		var said []string
		sure := 0
		for i := range 120 {
			what := fmt.Sprintf("seed %d, step %d", seed, i)
			switch r.Intn(8) {
			case 0:
				d, _ = impl.Sync(d, name)
				sure = len(said)
			case 1:
				d, _ = impl.Create(d, []string{"mend", "z"}[r.Intn(2)])
			case 2:
				d, said = crashAndMend(t, what, r, d, name, said, sure)
				sure = len(said)
			default:
				body := make([]byte, r.Intn(20))
				r.Read(body)
				said = append(said, string(body))
				d = logAll(t, d, name, said[len(said)-1:])
			}
		}
	}
}

func crashAndMend(t *testing.T, what string, r *rand.Rand, d impl.Disk, name string, said []string, sure int) (impl.Disk, []string) {
	t.Helper()
	if r.Intn(2) == 0 {
		d = mustAppend(t, d, name, []byte("no frame"))
	}
	d = impl.Fall(d, r.Intn(40))
	b, _ := impl.Bytes(d, name)
	want, _ := slowRecords(b)
	if len(want) < sure || !slices.Equal(want, said[:len(want)]) {
		t.Fatalf("%s: %q is left of %q, of which %d were sure", what, want, said, sure)
	}
	d = mustMend(t, what, d, name, want)
	mustBeDisk(t, what, impl.Fall(d, r.Intn(40)), d)
	return d, want
}

func TestMendRefused(t *testing.T) {
	d := diskOf(t, "+a a=x +b b=x ! -b +c")
	for _, name := range wrongNames {
		mustNotMend(t, "a wrong name", d, name, impl.DiskForm)
	}
	for why, bad := range wrongDisks() {
		for _, name := range []string{"a", "b", "c", "mend", "none", "", "A"} {
			mustNotMend(t, why, bad, name, impl.DiskForm)
		}
	}
	for _, name := range []string{"b", "d", "aa", "mend"} { // b is of Safe alone
		mustNotMend(t, "not there", d, name, impl.DiskNone)
		mustNotMend(t, "nothing there", impl.DiskNew(), name, impl.DiskNone)
	}
}

// tornDisk has a log of two records and something behind them, and room for left bytes more.
func tornDisk(t *testing.T, name string, left int) impl.Disk {
	t.Helper()
	d := diskOf(t, "+fill +"+name)
	d = mustAppend(t, d, name, append(framesOf([]string{"one", "two"}), 1, 2, 3))
	return mustAppend(t, d, "fill", make([]byte, impl.MaxDisk-19-left))
}

func TestMendWithoutRoomForBytes(t *testing.T) {
	for _, name := range []string{"log", "a", "zz"} {
		for _, left := range []int{0, 1, 15} {
			mustNotMend(t, fmt.Sprint("room for ", left), tornDisk(t, name, left), name, impl.DiskFull)
		}
		for _, left := range []int{16, 17} {
			mustMend(t, fmt.Sprint("room for ", left), tornDisk(t, name, left), name, []string{"one", "two"})
		}
	}
	// What is Removed makes room, but for what a crash would bring back.
	mustMend(t, "mend itself", tornDisk(t, "mend", 0), "mend", []string{"one", "two"})
	safe, _ := impl.SyncDir(tornDisk(t, "mend", 15))
	mustNotMend(t, "mend itself, made sure", safe, "mend", impl.DiskFull)
	safe, _ = impl.SyncDir(tornDisk(t, "mend", 16))
	mustMend(t, "mend itself, made sure", safe, "mend", []string{"one", "two"})
	other, _ := impl.Create(tornDisk(t, "log", 16), "mend")
	other = mustAppend(t, other, "mend", make([]byte, 16))
	mustMend(t, "an old mend", other, "log", []string{"one", "two"})
	other, _ = impl.SyncDir(other)
	mustNotMend(t, "an old mend, made sure", other, "log", impl.DiskFull)
	none := fullDisk(t, 2, 1)
	none = mustAppend(t, none, "f01", []byte{1})
	mended := mustMend(t, "no record needs no room", none, "f01", nil)
	if b, ok := impl.Bytes(mended, "f00"); !ok || len(b) != impl.MaxDisk-1 {
		t.Error("another file", len(b), ok)
	}
}

func TestMendWithoutRoomForAFile(t *testing.T) {
	full := mustAppend(t, fullDisk(t, impl.MaxFiles, 100), "f07", append(framesOf([]string{"one"}), 9))
	mustNotMend(t, "as many files as there may be", full, "f07", impl.DiskFull)
	less := mustAppend(t, fullDisk(t, impl.MaxFiles-1, 100), "f07", append(framesOf([]string{"one"}), 9))
	mended := mustMend(t, "one file less", less, "f07", []string{"one"})
	if len(impl.List(mended)) != impl.MaxFiles-1 {
		t.Error(impl.List(mended))
	}
	withMend, _ := impl.Rename(full, "f03", "mend")
	mended = mustMend(t, "mend is one of them", withMend, "f07", []string{"one"})
	if len(impl.List(mended)) != impl.MaxFiles-1 || slices.Contains(impl.List(mended), "mend") {
		t.Error(impl.List(mended))
	}
	itself, _ := impl.Rename(full, "f07", "mend")
	mended = mustMend(t, "mend itself is one of them", itself, "mend", []string{"one"})
	if len(impl.List(mended)) != impl.MaxFiles {
		t.Error(impl.List(mended))
	}
}

func TestMendAtTheLastNext(t *testing.T) {
	for next, code := range map[int]int{lastNext - 2: impl.DiskGood, lastNext - 1: impl.DiskGood, lastNext: impl.DiskFull, lastNext + 1: impl.DiskForm} {
		for _, script := range []string{"+log log=x", "+mend mend=x", "+log log=x +mend ! "} {
			d := diskOf(t, script)
			d.Next = next
			name := d.Names[0].Name
			if code != impl.DiskGood {
				mustNotMend(t, fmt.Sprint("Next ", next), d, name, code)
			} else if mended := mustMend(t, fmt.Sprint("Next ", next), d, name, nil); mended.Next != next+1 {
				t.Error(next, mended.Next)
			}
		}
	}
}

func TestMemoryOfRecords(t *testing.T) {
	for i, list := range logs {
		for _, behind := range []string{"", "\x01", "\x00\x00\x00\x00\x03one"} {
			checkMemory(t, fmt.Sprint("Records of log ", i), []any{append(framesOf(list), behind...)}, func(args []any) []any {
				records, _ := impl.Records(args[0].([]byte))
				return []any{records}
			})
		}
	}
	b := framesOf([]string{"one", "two"})
	first, _ := impl.Records(b)
	clear(b)
	if string(first[0]) != "one" || string(first[1]) != "two" {
		t.Errorf("%q changed with the log", first)
	}
	_ = append(first[0], "xxxxxxxxxxxxxxxx"...)
	if string(first[1]) != "two" {
		t.Errorf("%q: one runs into the next", first)
	}
}

func disksToMend(t *testing.T) map[string]impl.Disk {
	out := wrongDisks()
	out["new"] = impl.DiskNew()
	torn := append(framesOf([]string{"one", "", "two"}), 1)
	for _, script := range []string{"+a", "+a ! +z z=x", "+a +mend mend=old !mend !", "+a +mend ! -mend +b b=x", "+mend +a !"} {
		out[script+", torn"] = mustAppend(t, diskOf(t, script), "a", torn)
		out[script+", whole"] = mustAppend(t, diskOf(t, script), "a", torn[:len(torn)-1])
		out[script+", empty"] = diskOf(t, script)
	}
	out["mend, torn"] = mustAppend(t, diskOf(t, "+mend +a !"), "mend", torn)
	out["no room"] = tornDisk(t, "a", 3)
	shared := []byte("one list")
	twice := entries("a1 b2")
	out["one list for both"] = disk(inodes(impl.Inode{Id: 1, Data: shared, Sure: 2}, impl.Inode{Id: 2, Data: shared}), twice, twice, 3)
	return out
}

func TestMemoryOfLogAndMend(t *testing.T) {
	for why, d := range disksToMend(t) {
		for _, name := range []string{"a", "mend", "none", ""} {
			checkMemory(t, fmt.Sprintf("%s: Mend of %q", why, name), []any{d}, func(args []any) []any {
				mended, records, _ := impl.Mend(args[0].(impl.Disk), name)
				return []any{mended, records}
			})
			checkMemory(t, fmt.Sprintf("%s: Log to %q", why, name), []any{d, []byte("body")}, func(args []any) []any {
				next, _ := impl.Log(args[0].(impl.Disk), name, args[1].([]byte))
				return []any{next}
			})
		}
	}
}

func TestWhatWasCutOffIsNotHandedOut(t *testing.T) {
	d := mustAppend(t, diskOf(t, "+log"), "log", append(framesOf([]string{"one"}), "lost bytes"...))
	mended, records, _ := impl.Mend(d, "log")
	for _, b := range append(records, mended.Inodes[0].Data) {
		if bytes.Contains(whole(b), []byte("lost")) {
			t.Errorf("behind it lies what was cut off: %q", whole(b))
		}
	}
}

func FuzzLog(f *testing.F) {
	f.Add([]byte{}, []byte("x"))
	f.Add(framesOf([]string{"one", "", "two"}), []byte{1, 2, 3})
	f.Fuzz(func(t *testing.T, b []byte, body []byte) {
		want, place := slowRecords(b)
		mustRecord(t, "any bytes", b, want, place)
		if len(b)+len(body) > impl.MaxDisk/3 {
			return
		}
		d := mustMend(t, "any bytes", mustAppend(t, diskOf(t, "+log !"), "log", b), "log", want)
		d = logAll(t, d, "log", []string{string(body)})
		mustMend(t, "gone on with", d, "log", append(want, string(body)))
	})
}
