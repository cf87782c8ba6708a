package tests

import (
	"bytes"
	"fmt"
	"math"
	"math/rand"
	"regexp"
	"slices"
	"strconv"
	"strings"
	"testing"

	"loop.example/g00184/impl"
)

var (
	_ func(impl.Manifest) bool                        = impl.ManOk
	_ func(impl.Manifest) string                      = impl.ManText
	_ func(string) (impl.Manifest, bool)              = impl.ParseMan
	_ func(impl.Disk, impl.Manifest) (impl.Disk, int) = impl.Install
	_ func(impl.Disk) (impl.Manifest, bool)           = impl.Current
	_ func(impl.Manifest, int, string, string) []int  = impl.Overlap
	_                                                 = impl.Manifest{Next: 1, Log: 0, Tables: []impl.Meta{{No: 1, Level: 0, Lo: "", Hi: ""}}}
	_ [impl.MaxTables]struct{}                        = [20]struct{}{}
	_ [impl.MaxLevel]struct{}                         = [3]struct{}{}
)

const lastNumber = 100000

// man reads "9/8 2:1:a:b": Next and Log, and a table a word: No, Level, Lo and Hi.
func man(text string) impl.Manifest {
	words := strings.Fields(text)
	next, log, _ := strings.Cut(words[0], "/")
	m := impl.Manifest{Next: numberOf(next), Log: numberOf(log)}
	for _, w := range words[1:] {
		f := strings.Split(w, ":")
		m.Tables = append(m.Tables, impl.Meta{No: numberOf(f[0]), Level: numberOf(f[1]), Lo: f[2], Hi: f[3]})
	}
	return m
}

func numberOf(s string) int {
	n, err := strconv.Atoi(s)
	if err != nil {
		panic(err)
	}
	return n
}

// manyTables are n that lie apart, at the level that is told of each.
func manyTables(n int, level func(i int) int) impl.Manifest {
	m := impl.Manifest{Next: n + 1}
	for i := range n {
		m.Tables = append(m.Tables, impl.Meta{No: i + 1, Level: level(i), Lo: fmt.Sprintf("k%03da", i), Hi: fmt.Sprintf("k%03dz", i)})
	}
	return m
}

// slowCommon: of two ranges of texts, neither of them empty, one begins within
// the other, or they have nothing in common.
func slowCommon(lo string, hi string, from string, to string) bool {
	within := func(place string, lo string, hi string) bool { return !slowLess(place, lo) && !slowLess(hi, place) }
	if slowLess(hi, lo) || slowLess(to, from) {
		return false
	}
	return within(lo, from, to) || within(from, lo, hi)
}

func slowManOk(m impl.Manifest) bool {
	right := m.Next >= 1 && m.Next <= lastNumber && m.Log >= 0 && m.Log < m.Next && len(m.Tables) <= 20
	for i, a := range m.Tables {
		right = right && a.No >= 1 && a.No < m.Next && a.Level >= 0 && a.Level <= 3 && !slowLess(a.Hi, a.Lo)
		right = right && impl.PairOk(impl.Pair{Key: a.Lo}) && impl.PairOk(impl.Pair{Key: a.Hi})
		for j, b := range m.Tables {
			right = right && (i >= j || a.No < b.No)
			right = right && (i == j || a.Level != b.Level || a.Level == 0 || !slowCommon(a.Lo, a.Hi, b.Lo, b.Hi))
		}
	}
	return right
}

// slowManText is the text of any manifest, right or not.
func slowManText(m impl.Manifest) string {
	out := fmt.Sprintf("next %d log %d\n", m.Next, m.Log)
	for _, t := range m.Tables {
		out += fmt.Sprintf("tab %d %d %x %x\n", t.No, t.Level, t.Lo, t.Hi)
	}
	return out + "end\n"
}

var (
	manForm   = regexp.MustCompile(`\Anext (0|[1-9][0-9]{0,8}) log (0|[1-9][0-9]{0,8})\n((?:tab [^\n]*\n)*)end\n\z`)
	tableForm = regexp.MustCompile(`(?:\A|\n)tab (0|[1-9][0-9]{0,8}) ([0-9]) ((?:[0-9a-f]{2})+) ((?:[0-9a-f]{2})+)\z`)
)

// slowParse reads by the form of a whole line, and asks whether all of it is right.
func slowParse(s string) (impl.Manifest, bool) {
	f := manForm.FindStringSubmatch(s)
	if f == nil {
		return impl.Manifest{}, false
	}
	m := impl.Manifest{Next: numberOf(f[1]), Log: numberOf(f[2])}
	for _, line := range strings.SplitAfter(f[3], "\n") {
		if line == "" {
			continue
		}
		g := tableForm.FindStringSubmatch(strings.TrimSuffix(line, "\n"))
		if g == nil {
			return impl.Manifest{}, false
		}
		t := impl.Meta{No: numberOf(g[1]), Level: numberOf(g[2])}
		fmt.Sscanf(g[3]+" "+g[4], "%x %x", &t.Lo, &t.Hi)
		m.Tables = append(m.Tables, t)
	}
	if !slowManOk(m) {
		return impl.Manifest{}, false
	}
	return m, true
}

func mustBeRight(t *testing.T, what string, m impl.Manifest) {
	t.Helper()
	if !impl.ManOk(m) || !slowManOk(m) {
		t.Errorf("%s: not right: %q", what, slowManText(m))
	}
	s := impl.ManText(m)
	if s != slowManText(m) {
		t.Errorf("%s: %q, not %q", what, s, slowManText(m))
	}
	if back, ok := impl.ParseMan(s); !ok || !same(back, m) {
		t.Errorf("%s: back of %q: %v %v", what, s, back, ok)
	}
}

// mustBeWrong asks of a manifest that is not right all that can be asked of it.
func mustBeWrong(t *testing.T, what string, m impl.Manifest) {
	t.Helper()
	if impl.ManOk(m) || slowManOk(m) {
		t.Errorf("%s: right: %q", what, slowManText(m))
	}
	if s := impl.ManText(m); s != "" {
		t.Errorf("%s: has a text: %q", what, s)
	}
	mustNotParse(t, what, slowManText(m))
	mustNotInstall(t, what, diskOf(t, "+cur cur=old +new !"), m, impl.DiskForm)
}

func mustNotParse(t *testing.T, what string, s string) {
	t.Helper()
	if m, ok := impl.ParseMan(s); ok || !same(m, impl.Manifest{}) {
		t.Errorf("%s: ParseMan of %q: %v %v", what, s, m, ok)
	}
}

func mustParseAsTold(t *testing.T, what string, s string) {
	t.Helper()
	want, right := slowParse(s)
	if m, ok := impl.ParseMan(s); ok != right || !same(m, want) {
		t.Errorf("%s: ParseMan of %q: %v %v, not %v %v", what, s, m, ok, want, right)
	}
}

// rightManifests are right, each in another way.
func rightManifests() map[string]impl.Manifest {
	out := map[string]impl.Manifest{
		"many at level 0":      manyTables(impl.MaxTables, func(int) int { return 0 }),
		"many at level 3":      manyTables(impl.MaxTables, func(int) int { return impl.MaxLevel }),
		"many at all levels":   manyTables(impl.MaxTables, func(i int) int { return i % 4 }),
		"one less than many":   manyTables(impl.MaxTables-1, func(i int) int { return i / 5 }),
		"an empty list":        {Next: 3, Log: 2, Tables: []impl.Meta{}},
		"long keys":            {Next: 9, Log: 1, Tables: []impl.Meta{{No: 1, Level: 1, Lo: long, Hi: long}, {No: 2, Level: 1, Lo: long[1:], Hi: long[1:]}}},
		"all bytes":            {Next: 9, Log: 1, Tables: []impl.Meta{{No: 8, Level: 2, Lo: "\x00", Hi: "\xff\xff"}}},
		"blanks and lines":     {Next: 9, Log: 1, Tables: []impl.Meta{{No: 8, Lo: "\n", Hi: " \n\x00"}}},
		"runes and none":       {Next: 9, Log: 1, Tables: []impl.Meta{{No: 3, Level: 1, Lo: "\xc3", Hi: "\xc3\x28"}, {No: 8, Level: 1, Lo: "\xc3\xa9", Hi: "\xef\xbf\xbd"}}},
		"the words as keys":    {Next: 9, Log: 1, Tables: []impl.Meta{{No: 8, Lo: "end", Hi: "tab 1 2"}}},
		"one begins the other": {Next: 9, Log: 1, Tables: []impl.Meta{{No: 4, Level: 1, Lo: "a", Hi: "a"}, {No: 5, Level: 1, Lo: "a\x00", Hi: "a\x00"}}},
	}
	for _, text := range []string{
		"1/0", "2/1", "2/0", "9/8", "9/0", "100000/99999", "100000/0", "99999/99998", "9/8 1:0:a:a", "9/8 8:3:a:a", "2/1 1:0:a:b", "2/1 1:3:a:b",
		"9/2 2:2:a:b", // a table may have the log's number: the chapter does not part them
		"100000/3 99999:1:a:b", "9/8 2:1:a:b 5:0:a:z~ 7:1:c:c", "9/8 1:0:a:z 2:0:a:z 3:0:b:c", "9/8 1:0:a:b 2:1:a:b 3:2:a:b 4:3:a:b",
		"9/8 1:1:c:d 2:1:a:b", "9/8 1:1:e:f 2:1:a:b 3:1:c:d", "9/8 1:1:a:b 2:2:b:c 3:1:c:d 4:2:d:e", "9/8 1:1:a:b 2:0:a:z 3:1:ba:bz",
	} {
		out[text] = man(text)
	}
	return out
}

func TestRightManifests(t *testing.T) {
	for why, m := range rightManifests() {
		mustBeRight(t, why, m)
	}
	m := man("12/10 2:1:a:b 5:0:a:z~ 11:3:c:c")
	m.Tables[1].Lo = "\x00\x0f\xf0\xff"
	const want = "next 12 log 10\ntab 2 1 61 62\ntab 5 0 000ff0ff 7a7e\ntab 11 3 63 63\nend\n"
	if s := impl.ManText(m); s != want {
		t.Errorf("%q, not %q", s, want)
	}
	if s := impl.ManText(man("1/0")); s != "next 1 log 0\nend\n" {
		t.Errorf("%q", s)
	}
	for c := range 256 {
		key := string([]byte{byte(c)})
		mustBeRight(t, fmt.Sprint("byte ", c), impl.Manifest{Next: 3, Tables: []impl.Meta{{No: 1, Level: 1, Lo: key, Hi: key + key}}})
	}
	for next := 1; next <= lastNumber; next += 997 {
		for _, log := range []int{0, next / 2, next - 1} {
			mustBeRight(t, "numbers", impl.Manifest{Next: next, Log: log})
		}
	}
	for no := 1; no < lastNumber; no += 991 {
		mustBeRight(t, "numbers", impl.Manifest{Next: no + 1, Log: no, Tables: []impl.Meta{{No: no, Lo: "a", Hi: "b"}}})
	}
}

// wrongManifests are not as told, each for one reason.
func wrongManifests() map[string]impl.Manifest {
	out := map[string]impl.Manifest{
		"too many at level 0":    manyTables(impl.MaxTables+1, func(int) int { return 0 }),
		"too many at each level": manyTables(impl.MaxTables+1, func(i int) int { return i % 4 }),
		"far too many":           manyTables(3000, func(int) int { return 0 }),
		"all zero":               {},
		"Next far below 0":       {Next: math.MinInt, Log: math.MinInt},
		"Next far too great":     {Next: math.MaxInt},
		"Log far below 0":        {Next: 9, Log: math.MinInt},
		"Log far too great":      {Next: 9, Log: math.MaxInt},
	}
	for _, text := range []string{
		"0/0", "0/-1", "-1/-2", "100001/1", "100001/100000", "1/1", "2/2", "9/9", "9/10", "100000/100000", "9/-1", "1/-1",
		"9/8 0:0:a:b", "9/8 -1:0:a:b", "9/8 9:0:a:b", "9/8 10:0:a:b", "1/0 1:0:a:b", "1/0 0:0:a:b", "9/8 100000:0:a:b",
		"9/8 2:0:a:b 2:0:a:b", "9/8 2:0:a:b 2:1:c:d", "9/8 3:0:a:b 2:0:a:b", "9/8 3:1:c:d 2:1:a:b", "9/8 1:0:a:b 3:0:a:b 2:0:a:b", "9/8 1:0:a:b 2:0:a:b 1:0:a:b",
		"9/8 1:-1:a:b", "9/8 1:4:a:b", "9/8 1:-9223372036854775808:a:b", "9/8 1:9223372036854775807:a:b", "9/8 1:0:a:b 2:4:a:b", "9/8 1:-1:a:b 2:3:a:b",
		"9/8 1:0::b", "9/8 1:0:a:", "9/8 1:0::", "9/8 1:1::b", "9/8 1:0:b:a", "9/8 1:1:b:a", "9/8 1:3:ab:a", "9/8 1:0:a:z 2:2:c:b",
		"9/8 1:1:a:b 2:1:b:c", "9/8 1:1:b:c 2:1:a:b", "9/8 1:2:a:z 2:2:c:d", "9/8 1:3:c:d 2:3:a:z", "9/8 1:1:a:b 2:1:a:b", "9/8 1:1:a:a 2:1:a:a",
		"9/8 1:1:a:c 2:1:e:f 3:1:c:d", "9/8 1:1:a:c 2:2:e:f 3:0:a:z 4:2:f:f", "9/8 1:1:a:c 2:0:a:z 3:0:a:z 4:1:b:b",
	} {
		out[text] = man(text)
	}
	for _, key := range []string{long + "x", strings.Repeat("y", 1000)} {
		out["a long Lo of "+key] = impl.Manifest{Next: 9, Tables: []impl.Meta{{No: 1, Lo: key, Hi: "z"}}}
		out["a long Hi of "+key] = impl.Manifest{Next: 9, Tables: []impl.Meta{{No: 1, Lo: "a", Hi: key}}}
		out["both long of "+key] = impl.Manifest{Next: 9, Tables: []impl.Meta{{No: 1, Lo: key, Hi: key}}}
	}
	return out
}

func TestWrongManifests(t *testing.T) {
	for why, m := range wrongManifests() {
		mustBeWrong(t, why, m)
	}
}

// Of each two ranges, at each two levels, and with a third one between them.
func TestRangesAtOneLevel(t *testing.T) {
	keys := []string{"a", "a\x00", "ab", "b", "\xff"}
	var ranges []impl.Meta
	for _, lo := range keys {
		for _, hi := range keys {
			ranges = append(ranges, impl.Meta{Lo: lo, Hi: hi})
		}
	}
	for _, a := range ranges {
		for _, b := range ranges {
			for level := range 16 {
				a.No, a.Level, b.No, b.Level = 1, level%4, 3, level/4
				between := impl.Meta{No: 2, Level: (level + 1) % 4, Lo: "x", Hi: "y"}
				for _, m := range []impl.Manifest{{Next: 4, Tables: []impl.Meta{a, b}}, {Next: 4, Tables: []impl.Meta{a, between, b}}} {
					if right := slowManOk(m); impl.ManOk(m) != right {
						t.Errorf("%q: %v", slowManText(m), !right)
					}
					mustParseAsTold(t, "two ranges", slowManText(m))
				}
			}
		}
	}
	for _, lo := range oddKeys {
		for _, hi := range oddKeys {
			m := impl.Manifest{Next: 4, Tables: []impl.Meta{{No: 1, Level: 1, Lo: lo, Hi: lo}, {No: 2, Level: 1, Lo: hi, Hi: hi}, {No: 3, Lo: lo, Hi: hi}}}
			if right := slowManOk(m); impl.ManOk(m) != right {
				t.Errorf("%q: %v", slowManText(m), !right)
			}
		}
	}
}

func TestTextsThatAreNoManifest(t *testing.T) {
	for _, s := range []string{
		"", "\n", " ", "end\n", "end", "next", "next 9 log 8", "next 9 log 8\n", "next 9 log 8\nend", "next 9 log 8\n\nend\n", "\nnext 9 log 8\nend\n", "next 9 log 8\nend\n\n",
		"next 9 log 8\nend\nend\n", "next 9 log 8\nend\n ", "next 9 log 8\nend\ntab 2 1 61 62\n", "next 9 log 8\nend\nnext 9 log 8\nend\n", "next 9 log 8\nend\nx", "next 9 log 8\nend\n\x00",
		"end\nnext 9 log 8\n", "tab 2 1 61 62\nnext 9 log 8\nend\n", "tab 2 1 61 62\nend\n", "next 9 log 8\nnext 9 log 8\nend\n", "next 9 log 8\ntab 2 1 61 62\n",
		"log 8 next 9\nend\n", "next 9 8\nend\n", "next 9\nlog 8\nend\n", "9 log 8\nend\n", "next log 8\nend\n", "next 9 log\nend\n", "next 9 log 8 end\n", "next 9 log 8 7\nend\n",
		"next 9 log 8\r\nend\r\n", "next 9 log 8\n end\n", "next 9 log 8\nend \n", "next 9 log 8 \nend\n", " next 9 log 8\nend\n", "next  9 log 8\nend\n", "next 9  log 8\nend\n", "next 9 log  8\nend\n",
		"next\t9 log 8\nend\n", "next\v9\flog 8\nend\n", "next\u00a09 log 8\nend\n", "next9 log8\nend\n", "next 9log 8\nend\n", "Next 9 log 8\nend\n", "NEXT 9 LOG 8\nEND\n", "next 9 log 8\nEnd\n",
		"next 9 log 8\ntab\nend\n", "next 9 log 8\ntab 2\nend\n", "next 9 log 8\ntab 2 1\nend\n", "next 9 log 8\ntab 2 1 61\nend\n", "next 9 log 8\ntab 2 1 61 62 63\nend\n", "next 9 log 8\ntab 2 1 61 62",
		"next 9 log 8\ntab 2 1  62\nend\n", "next 9 log 8\ntab 2 1 61 \nend\n", "next 9 log 8\ntab 2 1 6 62\nend\n", "next 9 log 8\ntab 2 1 61 626\nend\n", "next 9 log 8\ntab 2 1 0x61 62\nend\n",
		"next 9 log 8\ntab 2 1 6A 6B\nend\n", "next 9 log 8\ntab 2 1 6a 6B\nend\n", "next 9 log 8\ntab 2 1 4A 6b\nend\n", "next 9 log 8\ntab 2 1 6g 6h\nend\n", "next 9 log 8\ntab 2 1 a b\nend\n",
		"next 9 log 8\ntab 2 1 +6 62\nend\n", "next 9 log 8\ntab 2 1 61 -6\nend\n", "next 9 log 8\ntab 2 1 61/62\nend\n", "next 9 log 8\ntab 2 1 61:62\nend\n",
		"next 9 log 8\ntab 2 1 61 62\ntab 2 1 61 62\nend\n", "next 9 log 8\ntab 5 1 63 64\ntab 2 1 61 62\nend\n", "next 9 log 8\ntab 2 1 61 62 tab 5 1 63 64\nend\n", "next 9 log 8\ntab 2 1 61 62\n\ntab 5 1 63 64\nend\n",
		"next 9 log 8\ntab tab 1 61 62\nend\n", "next 9 log 8\ntab 2 end 61 62\nend\n", "next 9 log 8\nTab 2 1 61 62\nend\n", "next 9 log 8\nxtab 2 1 61 62\nend\n", "next 9 log 8\n2 2 1 61 62\nend\n",
		"next f log 8\nend\n", "next 9 log a\nend\n", "next 1f log 8\nend\n", "next 9 log 8\ntab b 1 61 62\nend\n", "next 9 log 8\ntab 2 a 61 62\nend\n",
		strings.Repeat("end\n", 2000), strings.Repeat("tab ", 5000), "next 9 log 8\n" + strings.Repeat("tab 1 0 61 61\n", 4000) + "end\n", strings.Repeat("9", 10000), strings.Repeat("\n", 10000),
	} {
		mustNotParse(t, "no manifest", s)
		mustParseAsTold(t, "no manifest", s)
		d := mustAppend(t, diskOf(t, "+cur !"), "cur", []byte(s))
		if m, ok := impl.Current(d); ok || !same(m, impl.Manifest{}) {
			t.Errorf("Current of %q: %v %v", s, m, ok)
		}
	}
}

// Each number of a text, in each form that is not its own.
func TestFormsOfNumbers(t *testing.T) {
	forms := func(n int) []string {
		d := strconv.Itoa(n)
		return []string{
			"0" + d, "00" + d, "+" + d, "-" + d, "--" + d, d + ".", d + ".0", d + "e0", "0x" + d, "0o" + d, d + "_0", "0" + d + "0", d + "-", d + " ", " " + d, d + "\x00", "\x00" + d,
			strconv.FormatUint(uint64(n)+1<<63, 10), "1844674407370955161" + strconv.Itoa(n+6), "-9223372036854775808", "9223372036854775807", "9223372036854775808", "18446744073709551616", "18446744073709551617",
			"4294967296", "4294967297", strings.Repeat("9", 40), strings.Repeat("0", 40) + d, "", "x", "\uff11", "\u0661", "-0", "+0", "00", "1_0", "'1'", "1,0", "Inf", "nan",
		}
	}
	text := func(next string, log string, no string, level string) string {
		return "next " + next + " log " + log + "\ntab " + no + " " + level + " 61 62\nend\n"
	}
	if m, ok := impl.ParseMan(text("3", "2", "1", "1")); !ok || !same(m, man("3/2 1:1:a:b")) {
		t.Fatal("the plain form", m, ok)
	}
	for _, f := range forms(3) {
		mustNotParse(t, "Next", text(f, "2", "1", "1"))
	}
	for _, f := range forms(2) {
		mustNotParse(t, "Log", text("3", f, "1", "1"))
	}
	for _, f := range forms(1) {
		mustNotParse(t, "No", text("3", "2", f, "1"))
		mustNotParse(t, "Level", text("3", "2", "1", f))
	}
	for _, f := range forms(0) {
		mustNotParse(t, "Log 0", text("3", f, "1", "1"))
		mustNotParse(t, "Level 0", text("3", "2", "1", f))
	}
}

func TestLinesLackingDoubledAndMoved(t *testing.T) {
	for why, m := range rightManifests() {
		lines := strings.SplitAfter(strings.TrimSuffix(impl.ManText(m), "\n"), "\n")
		lines[len(lines)-1] += "\n"
		for i := range lines {
			less := strings.Join(slices.Delete(slices.Clone(lines), i, i+1), "")
			mustParseAsTold(t, why+", a line lacks", less)
			mustNotParse(t, why+", a line doubled", strings.Join(slices.Insert(slices.Clone(lines), i, lines[i]), ""))
			for j := range i {
				moved := slices.Clone(lines)
				moved[i], moved[j] = moved[j], moved[i]
				mustNotParse(t, why+", two lines changed", strings.Join(moved, ""))
			}
			for _, other := range []string{"\n", " \n", "x\n", "end\n", "tab\n", "next 9 log 8\n", "tab 1 0 61 61\n"} {
				mustParseAsTold(t, why+", a line more", strings.Join(slices.Insert(slices.Clone(lines), i, other), ""))
			}
		}
		for _, i := range []int{0, len(lines) - 1} {
			mustNotParse(t, why+", the first or the last lacks", strings.Join(slices.Delete(slices.Clone(lines), i, i+1), ""))
		}
	}
}

// Each byte of a text lacking, doubled and changed to each other one, and the text cut there.
func TestBytesOfATextChanged(t *testing.T) {
	for _, m := range []impl.Manifest{man("1/0"), man("12/10 2:1:a:b 5:0:a:z~ 11:3:c:c"), man("100000/99999 99999:3:a:aa")} {
		s := impl.ManText(m)
		for i := range len(s) {
			mustNotParse(t, "cut", s[:i])
			mustParseAsTold(t, "a byte lacks", s[:i]+s[i+1:])
			mustParseAsTold(t, "a byte doubled", s[:i]+s[i:i+1]+s[i:])
			for c := range 256 {
				b := []byte(s)
				b[i] = byte(c)
				mustParseAsTold(t, "a byte changed", string(b))
				if strings.ContainsRune(" \n\t\r0+-9af", rune(c)) {
					mustParseAsTold(t, "a byte more", s[:i]+string([]byte{byte(c)})+s[i:])
				}
			}
		}
	}
}

func mustInstall(t *testing.T, what string, d impl.Disk, m impl.Manifest) impl.Disk {
	t.Helper()
	before := wholeCopy(d)
	next, code := impl.Install(d, m)
	if code != impl.DiskGood || !impl.DiskOk(next) {
		t.Fatalf("%s: Install: %d", what, code)
	}
	if !same(wholeCopy(d), before) {
		t.Errorf("%s: wrote into the disk", what)
	}
	if b, ok := impl.Bytes(next, "cur"); !ok || string(b) != slowManText(m) {
		t.Errorf("%s: cur is %q %v", what, b, ok)
	}
	if slices.Contains(impl.List(next), "new") {
		t.Errorf("%s: new is still there", what)
	}
	for _, keep := range []int{-1, 0, 1, 1000, math.MaxInt} {
		mustCount(t, fmt.Sprint(what, ", fall ", keep), impl.Fall(next, keep), m)
	}
	return next
}

func mustCount(t *testing.T, what string, d impl.Disk, m impl.Manifest) {
	t.Helper()
	if got, ok := impl.Current(d); !ok || !same(got, m) {
		t.Errorf("%s: %v %v counts, not %v", what, got, ok, m)
	}
}

func mustNotInstall(t *testing.T, what string, d impl.Disk, m impl.Manifest, code int) {
	t.Helper()
	before := wholeCopy(d)
	got, c := impl.Install(d, m)
	if c != code || !same(got, d) || !same(wholeCopy(d), before) {
		t.Errorf("%s: Install: %d, not %d and the disk as it was", what, c, code)
	}
}

func TestInstallStepByStep(t *testing.T) {
	m := man("9/8 2:1:a:b")
	s := slowManText(m)
	made := func(id int) impl.Inode { return inode(id, s, len(s)) }
	for _, x := range []struct {
		script string
		want   impl.Disk
	}{
		{"", disk(inodes(made(1)), entries("cur1"), entries("cur1"), 2)},
		{"+cur cur=old", disk(inodes(made(2)), entries("cur2"), entries("cur2"), 3)},
		{"+cur cur=old !cur !", disk(inodes(made(2)), entries("cur2"), entries("cur2"), 3)},
		{"+cur cur=old ! -cur", disk(inodes(made(2)), entries("cur2"), entries("cur2"), 3)},
		{"+new new=old", disk(inodes(made(2)), entries("cur2"), entries("cur2"), 3)},
		{"+new new=old !new !", disk(inodes(made(2)), entries("cur2"), entries("cur2"), 3)},
		{"+new new=old ! -new", disk(inodes(made(2)), entries("cur2"), entries("cur2"), 3)},
		{"+new +cur new=old ! cur=old", disk(inodes(made(3)), entries("cur3"), entries("cur3"), 4)},
		{"+new ! new>cur +new", disk(inodes(made(3)), entries("cur3"), entries("cur3"), 4)},
		{"+a a=ab !a a=c +gone ! -gone +z z=x", disk(inodes(inode(1, "abc", 2), inode(3, "x", 0), made(4)), entries("a1 cur4 z3"), entries("a1 cur4 z3"), 5)},
		{"+a a=ab ! a>b +mend", disk(inodes(inode(1, "ab", 0), inode(2, "", 0), made(3)), entries("b1 cur3 mend2"), entries("b1 cur3 mend2"), 4)},
	} {
		mustBeDisk(t, x.script, mustInstall(t, x.script, diskOf(t, x.script), m), x.want)
	}
}

func TestInstallOfRightManifests(t *testing.T) {
	d := diskOf(t, "+log-1 log-1=x")
	for why, m := range rightManifests() {
		mustInstall(t, why+", the first one", impl.DiskNew(), m)
		d = mustInstall(t, why, d, m)
		again := mustInstall(t, why+", again", d, m)
		if !same(impl.List(again), []string{"cur", "log-1"}) || again.Next != d.Next+1 {
			t.Error(why, impl.List(again), again.Next, d.Next)
		}
	}
}

func TestInstallRefusedForItsForm(t *testing.T) {
	for why, d := range wrongDisks() {
		mustNotInstall(t, why, d, man("9/8"), impl.DiskForm)
		mustNotInstall(t, why, d, man("9/9"), impl.DiskForm)
	}
	full := fullDisk(t, impl.MaxFiles, 0)
	for why, m := range wrongManifests() {
		mustNotInstall(t, why, full, m, impl.DiskForm)
		mustNotInstall(t, why, impl.DiskNew(), m, impl.DiskForm)
	}
}

func TestInstallWithoutRoomForAFile(t *testing.T) {
	m := man("9/8 2:1:a:b")
	full := fullDisk(t, impl.MaxFiles, 1000)
	mustNotInstall(t, "as many files as there may be", full, m, impl.DiskFull)
	if next := mustInstall(t, "one file less", fullDisk(t, impl.MaxFiles-1, 1000), m); len(impl.List(next)) != impl.MaxFiles {
		t.Error(impl.List(next))
	}
	withCur, _ := impl.Rename(full, "f03", "cur")
	mustNotInstall(t, "cur is one of them", withCur, m, impl.DiskFull)
	withNew, _ := impl.Rename(full, "f03", "new")
	if next := mustInstall(t, "new is one of them", withNew, m); len(impl.List(next)) != impl.MaxFiles {
		t.Error(impl.List(next))
	}
	both, _ := impl.Rename(withNew, "f04", "cur")
	if next := mustInstall(t, "new and cur are", both, m); len(impl.List(next)) != impl.MaxFiles-1 {
		t.Error(impl.List(next))
	}
	safe, _ := impl.SyncDir(both)
	mustInstall(t, "new and cur are, made sure", safe, m)
}

func TestInstallWithoutRoomForBytes(t *testing.T) {
	for _, m := range []impl.Manifest{man("1/0"), man("9/8 2:1:a:b")} {
		size := len(slowManText(m))
		for _, left := range []int{0, 1, size - 1} {
			mustNotInstall(t, fmt.Sprint("room for ", left), fullDisk(t, 1, left), m, impl.DiskFull)
		}
		for _, left := range []int{size, size + 1} {
			mustInstall(t, fmt.Sprint("room for ", left), fullDisk(t, 1, left), m)
		}
		// The old one is there until the new one counts.
		withCur, _ := impl.Create(fullDisk(t, 1, 2*size-1), "cur")
		withCur = mustAppend(t, withCur, "cur", make([]byte, size))
		mustNotInstall(t, "cur takes room", withCur, m, impl.DiskFull)
		// What is Removed makes room, but for what a crash would bring back.
		withNew, _ := impl.Create(fullDisk(t, 1, size), "new")
		withNew = mustAppend(t, withNew, "new", make([]byte, size))
		mustInstall(t, "an old new", withNew, m)
		safe, _ := impl.SyncDir(withNew)
		mustNotInstall(t, "an old new, made sure", safe, m, impl.DiskFull)
	}
}

func TestInstallAtTheLastNext(t *testing.T) {
	for next, code := range map[int]int{lastNext - 2: impl.DiskGood, lastNext - 1: impl.DiskGood, lastNext: impl.DiskFull, lastNext + 1: impl.DiskForm} {
		for _, script := range []string{"", "+cur", "+new !", "+new ! -new"} {
			d := diskOf(t, script)
			d.Next = next
			if code != impl.DiskGood {
				mustNotInstall(t, fmt.Sprint("Next ", next), d, man("9/8"), code)
			} else if made := mustInstall(t, fmt.Sprint("Next ", next), d, man("9/8")); made.Next != next+1 {
				t.Error(next, made.Next)
			}
		}
	}
}

// A manifest that is not installed whole leaves the one ahead of it counting:
// what Install does, done in part by hand, and then a crash.
func TestCrashesWithinAnInstall(t *testing.T) {
	before, after := man("9/8 2:1:a:b"), man("11/10 9:0:a:z")
	text := slowManText(after)
	steps := []step{{call: "Create", name: "new"}, {call: "Append", name: "new", data: []byte(text)}, {call: "Sync", name: "new"}, {call: "Rename", name: "new", to: "cur"}, {call: "SyncDir"}}
	d := mustInstall(t, "before", diskOf(t, "+a a=x"), before)
	for i, s := range steps {
		for keep := range len(text) + 2 {
			mustCount(t, fmt.Sprint("ahead of step ", i), impl.Fall(d, keep), before)
		}
		mustInstall(t, fmt.Sprint("gone on with, ahead of step ", i), d, after)
		d, _ = take(d, s)
	}
	mustCount(t, "behind all", impl.Fall(d, 0), after)
	mustBeDisk(t, "as Install does it", d, mustInstall(t, "after", mustInstall(t, "before", diskOf(t, "+a a=x"), before), after))
}

func TestCurrentOfWhatHasNone(t *testing.T) {
	disks := wrongDisks()
	right := mustInstall(t, "right", impl.DiskNew(), man("9/8"))
	for _, script := range []string{"", "+a", "+new", "+cur", "+cur cur=x !cur !", "+current", "+cur.", "+mend"} {
		disks[script] = diskOf(t, script)
	}
	for name, from := range map[string]string{"renamed": "cur", "new alone": "cur"} {
		disks[name], _ = impl.Rename(right, from, strings.Fields(name)[0])
	}
	disks["removed, but safe"], _ = impl.Remove(right, "cur")
	disks["more behind it"] = mustAppend(t, right, "cur", []byte("\n"))
	disks["one behind the other"] = mustAppend(t, right, "cur", []byte(slowManText(man("9/8"))))
	disks["not right by its Next"] = impl.Disk{Inodes: right.Inodes, Names: right.Names, Safe: right.Safe, Next: 1}
	disks["not right by its Safe"] = impl.Disk{Inodes: right.Inodes, Names: right.Names, Safe: entries("a2"), Next: 2}
	for why, d := range disks {
		if m, ok := impl.Current(d); ok || !same(m, impl.Manifest{}) {
			t.Errorf("%s: %v %v", why, m, ok)
		}
	}
	mustCount(t, "removed, and fallen", impl.Fall(disks["removed, but safe"], 0), man("9/8"))
	for why, m := range rightManifests() {
		d := mustAppend(t, diskOf(t, "+cur"), "cur", []byte(slowManText(m)))
		mustCount(t, why+", written by hand", d, m)
	}
}

func slowOverlap(m impl.Manifest, level int, lo string, hi string) []int {
	var out []int
	for _, t := range m.Tables {
		if t.Level == level && slowCommon(t.Lo, t.Hi, lo, hi) && !slices.Contains(out, t.No) {
			out = append(out, t.No)
		}
	}
	slices.Sort(out)
	return out
}

func mustOverlap(t *testing.T, m impl.Manifest, level int, lo string, hi string, want ...int) {
	t.Helper()
	if got := impl.Overlap(m, level, lo, hi); !slices.Equal(got, want) {
		t.Errorf("%q at %d from %q to %q: %v, not %v", slowManText(m), level, lo, hi, got, want)
	}
}

func TestOverlap(t *testing.T) {
	m := man("20/1 2:1:a:b 5:0:a:z 7:1:c:c 8:0:d:f 9:2:a:z 11:1:f:h 12:0:g:g 13:3:m:p")
	for _, x := range []struct {
		level int
		lo    string
		hi    string
		want  []int
	}{
		{0, "a", "z", []int{5, 8, 12}}, {0, "d", "d", []int{5, 8}}, {0, "f", "g", []int{5, 8, 12}}, {0, "fa", "fz", []int{5}}, {0, "za", "zz", nil}, {0, "z", "zz", []int{5}}, {0, "A", "a", []int{5}},
		{1, "b", "c", []int{2, 7}}, {1, "a", "z", []int{2, 7, 11}}, {1, "ba", "bz", nil}, {1, "c", "c", []int{7}}, {1, "c\x00", "e\xff", nil}, {1, "h", "z", []int{11}}, {1, "h\x00", "z", nil}, {1, "d", "e", nil}, {1, "g", "g", []int{11}},
		{2, "k", "k", []int{9}}, {2, "", "a", []int{9}}, {2, "", "", nil}, {2, "", "\x00", nil}, {2, "z\x00", "\xff", nil}, {2, "", "\xff", []int{9}},
		{3, "a", "l", nil}, {3, "a", "m", []int{13}}, {3, "p", "q", []int{13}}, {3, "p\x00", "q", nil}, {3, "a", "z", []int{13}}, {3, "n", "o", []int{13}},
		{2, "c", "b", nil}, {2, "z", "a", nil}, {1, "c", "b", nil}, {1, "b", "a", nil}, {0, "zz", "", nil}, {2, "k\x00", "k", nil},
		{-1, "a", "z", nil}, {4, "a", "z", nil}, {math.MinInt, "a", "z", nil}, {math.MaxInt, "", "\xff", nil},
		{2, long + long, long + long, []int{9}}, {1, strings.Repeat("a", 1000), "aaaab", []int{2}},
	} {
		mustOverlap(t, m, x.level, x.lo, x.hi, x.want...)
	}
	mustOverlap(t, man("1/0"), 0, "a", "z")
	mustOverlap(t, impl.Manifest{}, 0, "", "\xff")
	var all []int
	for i := range impl.MaxTables {
		all = append(all, i+1)
	}
	mustOverlap(t, manyTables(impl.MaxTables, func(int) int { return 0 }), 0, "a", "z", all...)
}

func TestOverlapOfAnyTwoRanges(t *testing.T) {
	keys := append([]string{"", "aaaaaaaaaaaaaaaaaaaaaaaaaa"}, oddKeys...)
	r := rand.New(rand.NewSource(6))
	for range 3000 {
		m := someManifest(r, keys)
		level, lo, hi := r.Intn(6)-1, keys[r.Intn(len(keys))], keys[r.Intn(len(keys))]
		mustOverlap(t, m, level, lo, hi, slowOverlap(m, level, lo, hi)...)
	}
	// In no order, and one No twice: asked of a manifest that is not right.
	m := man("9/8 7:1:a:c 3:1:b:d 5:1:x:z 3:1:a:a 7:2:a:z")
	mustOverlap(t, m, 1, "a", "z", 3, 5, 7)
	mustOverlap(t, m, 1, "a", "b", 3, 7)
	mustOverlap(t, man("9/8 1:9:a:b"), 9, "a", "b", 1)
	mustOverlap(t, man("9/8 1:1:z:a"), 1, "b", "c")
}

// someManifest is now and then right, and often nearly so.
func someManifest(r *rand.Rand, keys []string) impl.Manifest {
	m := impl.Manifest{Next: 1 + r.Intn(30)}
	m.Log = r.Intn(m.Next+1) - r.Intn(2)
	for no := range m.Next + 1 {
		if r.Intn(6) == 0 {
			lo, hi := keys[r.Intn(len(keys))], keys[r.Intn(len(keys))]
			if r.Intn(8) > 0 {
				lo, hi = min(lo, hi), max(lo, hi)
			}
			m.Tables = append(m.Tables, impl.Meta{No: no, Level: r.Intn(4), Lo: lo, Hi: hi})
		}
	}
	return m
}

func TestSomeManifests(t *testing.T) {
	r := rand.New(rand.NewSource(66))
	right := 0
	for range 6000 {
		m := someManifest(r, oddKeys)
		if slowManOk(m) {
			right++
			mustBeRight(t, "some", m)
		} else {
			mustBeWrong(t, "some", m)
		}
	}
	if right < 500 || right > 5500 {
		t.Error("right ones:", right)
	}
}

// Long walks: manifests installed, files made and lost beside them, crashes;
// what was installed last counts.
func TestWalksOverManifests(t *testing.T) {
	for seed := range int64(40) {
		r := rand.New(rand.NewSource(seed))
		d := impl.DiskNew()
		want, there := impl.Manifest{}, false
		for i := range 60 {
			what := fmt.Sprintf("seed %d, step %d", seed, i)
			switch m := someManifest(r, oddKeys); r.Intn(5) {
			case 0:
				d = impl.Fall(d, r.Intn(90))
			case 1, 2:
				d, _ = take(d, someStep(r, []string{"new", "a", "b", "mend"}))
			default:
				next, code := impl.Install(d, m)
				if code == impl.DiskGood {
					want, there = m, true
				}
				if !slowManOk(m) && code != impl.DiskForm || code != impl.DiskGood && !same(next, d) {
					t.Fatal(what, code)
				}
				d = next
			}
			if got, ok := impl.Current(d); ok != there || !same(got, want) {
				t.Fatalf("%s: %v %v, not %v %v", what, got, ok, want, there)
			}
		}
		if !there {
			t.Error(seed, "nothing was installed")
		}
	}
}

func TestMemoryOfManifests(t *testing.T) {
	all := rightManifests()
	for why, m := range wrongManifests() {
		if len(m.Tables) < 100 {
			all[why] = m
		}
	}
	for why, m := range all {
		checkMemory(t, why, []any{m}, func(args []any) []any {
			m := args[0].(impl.Manifest)
			back, _ := impl.ParseMan(impl.ManText(m))
			return []any{impl.ManOk(m), back, impl.Overlap(m, 0, "", "\xff"), impl.Overlap(m, 1, "b", "c"), impl.Overlap(m, 9, "", "")}
		})
	}
	disks := disksToMend(t)
	disks["installed"] = mustInstall(t, "installed", diskOf(t, "+a a=x"), man("9/8 2:1:a:b"))
	disks["installed twice"] = mustInstall(t, "twice", disks["installed"], man("9/7 2:1:a:b 3:0:a:b"))
	disks["new is there"] = diskOf(t, "+new new=x !new ! +cur")
	disks["full"] = fullDisk(t, impl.MaxFiles, 0)
	disks["no bytes left"] = fullDisk(t, 1, 3)
	for why, d := range disks {
		for _, text := range []string{"9/8 2:1:a:b 5:0:a:z", "1/0", "9/9"} {
			checkMemory(t, why+" Install "+text, []any{d, man(text)}, func(args []any) []any {
				next, _ := impl.Install(args[0].(impl.Disk), args[1].(impl.Manifest))
				return []any{next}
			})
		}
		checkMemory(t, why+" Current", []any{d}, func(args []any) []any {
			m, _ := impl.Current(args[0].(impl.Disk))
			return []any{m}
		})
	}
	d := disks["installed twice"]
	m, _ := impl.Current(d)
	for _, n := range d.Inodes {
		clear(n.Data)
	}
	if !same(m, man("9/7 2:1:a:b 3:0:a:b")) {
		t.Error("changed with the disk:", m)
	}
}

// What lies behind a list of tables is no table.
func TestTablesBehindTheLength(t *testing.T) {
	m := man("9/8 2:1:a:b 5:0:a:z")
	m.Tables = m.Tables[:1]
	mustBeRight(t, "one", m)
	mustOverlap(t, m, 0, "a", "z")
	if got := impl.ManText(m); bytes.Contains([]byte(got), []byte("tab 5")) {
		t.Error(got)
	}
}

func FuzzManifest(f *testing.F) {
	f.Add("")
	f.Add("next 9 log 8\ntab 2 1 61 62\ntab 5 0 61 7a7e\nend\n")
	for _, m := range rightManifests() {
		f.Add(impl.ManText(m))
	}
	f.Fuzz(func(t *testing.T, s string) {
		mustParseAsTold(t, "any text", s)
		if m, ok := impl.ParseMan(s); ok {
			if impl.ManText(m) != s {
				t.Errorf("%q back as %q", s, impl.ManText(m))
			}
			mustInstall(t, "any", impl.DiskNew(), m)
		}
	})
}
