package tests

import (
	"fmt"
	"math/rand"
	"reflect"
	"regexp"
	"slices"
	"strings"
	"testing"

	"loop.example/g00184/impl"
)

const (
	mostBench = 6000
	mostLines = 80
)

// A plainBench does what a line says by the calls of the chapters before.
type plainBench struct {
	s impl.Store
	w impl.Cluster
}

// A plainForm is a line as a pattern, and what is done with what it catches.
type plainForm struct {
	pattern *regexp.Regexp
	do      func(b *plainBench, caught []string) string
}

// plainPattern reads a form in which K, V, N and R stand for words of their
// kinds; V alone may be an empty one.
func plainPattern(form string) *regexp.Regexp {
	kinds := strings.NewReplacer("K", "([^ ]+)", "V", "([^ ]*)", "N", "(0|[1-9][0-9]{0,3})", "R", "([1-3])")
	return regexp.MustCompile(`\A(?s:` + kinds.Replace(form) + `)\z`)
}

var plainForms = []plainForm{
	{plainPattern("put K V"), func(b *plainBench, c []string) string {
		return b.stored(impl.Write(b.s, impl.Pair{Key: c[0], Val: c[1]}, plainTower(c[0])))
	}},
	{plainPattern("del K"), func(b *plainBench, c []string) string {
		return b.stored(impl.Write(b.s, impl.Pair{Key: c[0], Gone: true}, plainTower(c[0])))
	}},
	{plainPattern("get K"), plainGet},
	{plainPattern("scan"), func(b *plainBench, c []string) string {
		text := ""
		for _, p := range impl.Scan(b.s) {
			text += " " + p.Key + "=" + p.Val
		}
		return orEmpty(text)
	}},
	{plainPattern("make"), func(b *plainBench, c []string) string { return b.stored(impl.Make(b.s)) }},
	{plainPattern("flush"), func(b *plainBench, c []string) string { return b.stored(impl.Flush(b.s)) }},
	{plainPattern("settle"), func(b *plainBench, c []string) string { return b.stored(impl.Settle(b.s)) }},
	{plainPattern("press N"), func(b *plainBench, c []string) string { return b.stored(impl.Press(b.s, numberOf(c[0]))) }},
	{plainPattern("fall N"), func(b *plainBench, c []string) string {
		return b.stored(impl.Open(impl.Fall(b.s.D, numberOf(c[0]))))
	}},
	{plainPattern("files"), func(b *plainBench, c []string) string { return strings.Join(impl.List(b.s.D), " ") }},
	{plainPattern("at R (put) K V"), plainAsk},
	{plainPattern("at R (del) K"), plainAsk},
	{plainPattern("at R (get) K"), plainAsk},
	{plainPattern("(deliver|drop|double) N"), func(b *plainBench, c []string) string {
		return b.moved(impl.Event{Kind: eventKinds[c[0]], At: numberOf(c[1])})
	}},
	{plainPattern("(again|reboot) R"), func(b *plainBench, c []string) string {
		return b.moved(impl.Event{Kind: eventKinds[c[0]], Rep: numberOf(c[1]) - 1})
	}},
	{plainPattern("round"), func(b *plainBench, c []string) string {
		b.w = impl.Round(b.w)
		return map[bool]string{true: "level 1", false: "level 0"}[impl.Level(b.w)]
	}},
	{plainPattern("said R"), plainSaid},
	{plainPattern("safe"), func(b *plainBench, c []string) string { return fmt.Sprint("safe ", impl.Safe(b.w)) }},
}

func plainTower(key string) int { return []int{1, 2, 3, 4}[len(key)%4] }

func orEmpty(text string) string {
	if text == "" {
		return "empty"
	}
	return text[1:]
}

func (b *plainBench) stored(s impl.Store, code int) string {
	if code != impl.StoreGood {
		return "no"
	}
	b.s = s
	return "ok"
}

func (b *plainBench) moved(e impl.Event) string {
	w, ok := impl.Do(b.w, e)
	if !ok {
		return "no"
	}
	b.w = w
	return fmt.Sprint("net ", len(w.Net))
}

func plainGet(b *plainBench, c []string) string {
	val, code := impl.Read(b.s, c[0])
	if code == impl.StoreNone {
		return "none"
	}
	return "is " + val
}

// plainAsk tells the Dot by what the replica that was asked would have taken next.
func plainAsk(b *plainBench, c []string) string {
	rep := numberOf(c[0]) - 1
	command := impl.Cmd{Kind: cmdKinds[c[1]], Key: c[2]}
	if len(c) > 3 {
		command.Val = c[3]
	}
	next := b.w.Reps[rep].Next
	if b.moved(impl.Event{Kind: impl.EvSubmit, Rep: rep, C: command}) == "no" {
		return "no"
	}
	return fmt.Sprintf("dot %d.%d", rep+1, next)
}

func plainSaid(b *plainBench, c []string) string {
	text := ""
	for _, a := range b.w.Reps[numberOf(c[0])-1].Said {
		val := a.Val
		if !a.Has {
			val = "-"
		}
		text += fmt.Sprintf(" %d.%d=%s", a.D.R, a.D.N, val)
	}
	return orEmpty(text)
}

// answer leaves what is too long for a key or a value to no form: no other word may be as long.
func (b *plainBench) answer(line string) string {
	for _, f := range plainForms {
		caught := f.pattern.FindStringSubmatch(line)
		if caught != nil && !slices.ContainsFunc(caught[1:], func(word string) bool { return len(word) > 20 }) {
			return f.do(b, caught[1:])
		}
	}
	return "no"
}

// plainLines cuts a text byte by byte.
func plainLines(text string) []string {
	var out []string
	line := ""
	for i := range len(text) {
		if text[i] == 10 {
			out, line = append(out, line), ""
		} else {
			line += text[i : i+1]
		}
	}
	if line != "" {
		out = append(out, line)
	}
	return out
}

// plainlyBenched answers a text by the calls of the chapters before.
func plainlyBenched(text string) (*plainBench, string) {
	b := &plainBench{s: impl.StoreNew(), w: impl.ClusterNew(3)}
	answers := ""
	for _, line := range plainLines(text) {
		if line != "" {
			answers += b.answer(line) + "\n"
		}
	}
	return b, answers
}

// mustBuild tells what the lines built: a right store and a right cluster.
func mustBuild(t testing.TB, text string) (impl.Store, impl.Cluster) {
	t.Helper()
	s, w, ok := impl.Built(text)
	if !ok || !impl.StoreOk(s) || !impl.ClusterOk(w) || impl.Safe(w) != 0 {
		t.Fatalf("%q: built %v, store %v, cluster %v, safe %d", text, ok, impl.StoreOk(s), impl.ClusterOk(w), impl.Safe(w))
	}
	return s, w
}

// mustBench holds all that a text says and builds against the calls that its lines name.
func mustBench(t testing.TB, text string) string {
	t.Helper()
	want, answers := plainlyBenched(text)
	got := impl.Bench(text)
	if got != answers {
		t.Fatalf("%q: says %q, not %q", text, got, answers)
	}
	s, w := mustBuild(t, text)
	if !same(s, want.s) {
		t.Fatalf("%q: builds the store %v, not %v", text, s, want.s)
	}
	if !same(w, want.w) {
		t.Fatalf("%q: builds the cluster %s, not %s", text, showCluster(w), showCluster(want.w))
	}
	return got
}

// mustSay has lines with their answers behind " | ", one after the other, and
// answers the lines as a text.
func mustSay(t *testing.T, rows ...string) string {
	t.Helper()
	text, want := "", ""
	for _, row := range rows {
		line, answer, _ := strings.Cut(row, " | ")
		text += line + "\n"
		want += answer + "\n"
		if got := mustBench(t, text); got != want {
			t.Fatalf("%q: says %q, not %q", text, got, want)
		}
	}
	return text
}

// mustRefuseLine has a line behind others say no, and change nothing.
func mustRefuseLine(t *testing.T, ahead string, line string) {
	t.Helper()
	said := impl.Bench(ahead)
	s, w := mustBuild(t, ahead)
	for _, text := range []string{ahead + line, ahead + line + "\n"} {
		if got := impl.Bench(text); got != said+"no\n" {
			t.Errorf("%q behind %q says %q", line, ahead, got[min(len(said), len(got)):])
		}
		if s2, w2 := mustBuild(t, text); !same(s2, s) || !same(w2, w) {
			t.Errorf("%q behind %q says no, and changes something", line, ahead)
		}
	}
	// What comes behind it is as if it had not been.
	after := "put k 1\nscan\nfiles\nat 2 put k 1\nround\nsaid 2\n"
	rest := strings.TrimPrefix(impl.Bench(ahead+after), said)
	if got := impl.Bench(ahead + line + "\n" + after); got != said+"no\n"+rest {
		t.Errorf("%q behind %q: then %q", line, ahead, got)
	}
}

// mustBeTooLong has a text say nothing else, and build nothing.
func mustBeTooLong(t *testing.T, text string) {
	t.Helper()
	if got := impl.Bench(text); got != "too long\n" {
		t.Errorf("%d bytes: %q", len(text), got)
	}
	s, w, ok := impl.Built(text)
	if ok || !same(s, impl.Store{}) || !same(w, impl.Cluster{}) {
		t.Errorf("%d bytes: %v, %v, %v", len(text), s, w, ok)
	}
}

// numberedLines are lines of one form, with a number from 1 on in the place of #.
func numberedLines(form string, count int) string {
	text := ""
	for i := range count {
		text += strings.ReplaceAll(form, "#", fmt.Sprint(i+1)) + "\n"
	}
	return text
}

// benchStates are lines behind which stores and clusters of many kinds stand.
func benchStates() map[string]string {
	return map[string]string{
		"new":             "",
		"written":         "put a 1\nput b 2\ndel c\n",
		"made":            "put a 1\nmake\nput b 2\n",
		"flushed":         "put a 1\nput b 2\nflush\n",
		"pressed":         "put a 1\nflush\nput b 2\nflush\npress 0\nput a 3\n",
		"deep":            "put a 1\nflush\npress 0\npress 1\npress 2\ndel a\nflush\nput b 2\n",
		"all gone":        "put a 1\ndel a\nflush\npress 0\n",
		"fallen":          "put a 1\nmake\nput b 2\nfall 3\n",
		"full in memory":  numberedLines("put k# v", 60),
		"most tables":     numberedLines("put k# v\nflush", 20),
		"asked":           "at 1 put x 7\nat 2 get x\nat 3 del x\n",
		"half heard":      "at 1 put x 7\nat 2 get x\ndeliver 0\ndeliver 3\ndouble 1\ndrop 0\nreboot 2\n",
		"settled":         "at 1 put x 7\nat 2 get x\nround\nat 3 get x\nround\n",
		"most of one":     numberedLines("at 2 put x #", 12),
		"a full net":      fullNet(),
		"both":            "put a 1\nat 1 put a 2\nflush\ndeliver 0\nfall 9\ndeliver 1\nround\n",
		"much of no's":    "put a\nfly\nat 4 get x\npress 3\ndeliver 0\nflush\n",
		"rewritten often": numberedLines("put a #\nput b #\ndel a", 15),
		"empty values":    "put a \nflush\nput b 1\nput b \nat 1 put x \nat 2 get x\ndeliver 0\n",
	}
}

// fullNet has all room taken by words of the third, and the first's own lost.
func fullNet() string {
	return "at 1 put x 7\ndrop 0\ndrop 0\n" + numberedLines("at 3 put y #", 12) + numberedLines("again 3", 20)
}

// spansOfBuilt are the lists of a store and a cluster.
func spansOfBuilt(text string, name string) []span {
	s, w, _ := impl.Built(text)
	return slices.Concat(spansOf(reflect.ValueOf(s), name+" store"), spansOf(reflect.ValueOf(w), name+" cluster"))
}

// someLine is most often one that is done.
func someLine(r *rand.Rand, w impl.Cluster) string {
	pick := func(list ...string) string { return list[r.Intn(len(list))] }
	key, val := pick("a", "b", "c", "dd", "eee", "ffff", "k", "k"), pick("", fmt.Sprint(r.Intn(100)), fmt.Sprint(r.Intn(100)), fmt.Sprint(r.Intn(100)))
	rep, place := 1+r.Intn(3), r.Intn(len(w.Net)+1)
	switch k := r.Intn(100); {
	case k < 24:
		return "put " + key + " " + val
	case k < 32:
		return pick("del ", "get ") + key
	case k < 48:
		return pick("scan", "make", "flush", "settle", "files", "round", "safe", "press 0", "press 0", "press 1", "press 2")
	case k < 52:
		return fmt.Sprint("fall ", []int{0, 1, 7, 11, 20, 9999}[r.Intn(6)])
	case k < 70:
		return fmt.Sprint("at ", rep, " ", pick("put "+key+" "+val, "put k "+val, "del k", "get k", "get "+key))
	case k < 86:
		return fmt.Sprint("deliver ", place)
	case k < 92:
		return fmt.Sprint(pick("drop ", "double "), place)
	case k < 98:
		return fmt.Sprint(pick("again ", "reboot ", "said "), rep)
	}
	return pick("", "fly", "put a", "put  1", "put a  ", "scan ", " scan", "again 4", "press 3", "deliver 01", "get aaaaaaaaaaaaaaaaaaaaa", "at 1 fly k")
}

// bentLine is one with a sign taken out, put in, changed or written twice.
func bentLine(r *rand.Rand, line string) string {
	signs := []string{" ", "0", "1", "9", "-", "+", "\n", "\t", "\r", "\x00", "\xff", "ä", "K", "V", "N", "R", "a"}
	at := r.Intn(len(line) + 1)
	sign := signs[r.Intn(len(signs))]
	switch k := r.Intn(4); {
	case k == 0 || at == len(line):
		return line[:at] + sign + line[at:]
	case k == 1:
		return line[:at] + line[at+1:]
	case k == 2:
		return line[:at] + sign + line[at+1:]
	}
	return line[:at] + line[at:at+1] + line[at:]
}
