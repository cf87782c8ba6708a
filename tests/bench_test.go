package tests

import (
	"fmt"
	"math/rand"
	"slices"
	"strings"
	"testing"

	"loop.example/g00184/impl"
)

func TestBenchConstants(t *testing.T) {
	if impl.MaxBench != mostBench || impl.MaxLines != mostLines {
		t.Error(impl.MaxBench, impl.MaxLines)
	}
}

// With nothing said, the bench has a new store and a new cluster of three.
func TestBenchBegins(t *testing.T) {
	for _, text := range []string{"", "\n", "\n\n\n", "fly", "scan\nfiles\nsafe\nsaid 1\nget a\n"} {
		s, w, ok := impl.Built(text)
		if !ok || !same(s, impl.StoreNew()) || !same(w, impl.ClusterNew(3)) {
			t.Errorf("%q: %v, %v, %v", text, s, w, ok)
		}
	}
	mustSay(t, "scan | empty", "files | cur log-1", "get a | none", "said 1 | empty", "said 2 | empty", "said 3 | empty", "safe | safe 0", "round | level 1")
}

func TestBenchOfPairs(t *testing.T) {
	mustSay(t,
		"put a 1 | ok", "put b 2 | ok", "get a | is 1", "get b | is 2", "get c | none", "get A | none",
		"put a 3 | ok", "get a | is 3", "scan | a=3 b=2",
		"del a | ok", "get a | none", "scan | b=2",
		"del z | ok", "get z | none", "del b | ok", "scan | empty",
		"put aa 5 | ok", "put a 4 | ok", "scan | a=4 aa=5",
		"put x= = | ok", "scan | a=4 aa=5 x===", "get x= | is =",
		"put put del | ok", "get put | is del", "put K V | ok", "get K | is V", "put N R | ok", "scan | K=V N=R a=4 aa=5 put=del x===",
		"put none none | ok", "get none | is none", "put empty - | ok", "get empty | is -")
}

// Behind the last blank stands an empty word, which V may be: it is there, and
// neither Gone nor a word that is lacking.
func TestBenchOfEmptyValues(t *testing.T) {
	mustSay(t,
		"put a  | ok", "get a | is ", "scan | a=", "put a 1 | ok", "get a | is 1", "put a  | ok", "get a | is ", "put b 2 | ok", "put c  | ok", "scan | a= b=2 c=",
		"make | ok", "fall 0 | ok", "scan | a= b=2 c=", "flush | ok", "get a | is ", "scan | a= b=2 c=",
		"put b  | ok", "flush | ok", "press 0 | ok", "get b | is ", "scan | a= b= c=", "settle | ok", "fall 9999 | ok", "scan | a= b= c=",
		"del a | ok", "get a | none", "scan | b= c=", "put a  | ok", "get a | is ", "scan | a= b= c=")
	mustSay(t,
		"at 1 put a  | dot 1.1", "round | level 1", "said 1 | 1.1=-", "at 1 get a | dot 1.2", "round | level 1", "said 1 | 1.1=- 1.2=",
		"at 2 put a 1 | dot 2.1", "round | level 1", "at 2 put a  | dot 2.2", "round | level 1", "said 2 | 2.1= 2.2=1",
		"at 3 del a | dot 3.1", "round | level 1", "at 3 get a | dot 3.2", "round | level 1", "said 3 | 3.1= 3.2=-", "safe | safe 0")
	s, w := mustBuild(t, "put a \nat 3 put a ")
	if got := s.M.Nodes; len(got) != 1 || got[0] != (impl.Node{P: impl.Pair{Key: "a"}, Tower: 2}) {
		t.Error(got)
	}
	if got := w.Asked; len(got) != 1 || got[0].C != (impl.Cmd{Kind: impl.CmdPut, Key: "a"}) {
		t.Error(got)
	}
}

// The tower is 1 more than what is left of the key's length by MaxTower.
func TestTowersOfTheBench(t *testing.T) {
	want := []int{2, 3, 4, 1, 2, 3, 4, 1, 2, 3, 4, 1, 2, 3, 4, 1, 2, 3, 4, 1}
	for i, tower := range want {
		key := strings.Repeat("k", i+1)
		for _, line := range []string{"put " + key + " 1", "del " + key} {
			s, _ := mustBuild(t, line)
			if len(s.M.Nodes) != 1 || s.M.Nodes[0].Tower != tower || s.M.Nodes[0].P.Key != key {
				t.Errorf("%q: %v", line, s.M)
			}
		}
	}
	// Of a key in the place of its own the tower stays, which is the same; bytes are counted, not signs.
	if s, _ := mustBuild(t, "put ää 1\nput ää 2\ndel ää"); s.M.Nodes[0].Tower != 1 {
		t.Error(s.M)
	}
}

func TestBenchOfFiles(t *testing.T) {
	mustSay(t,
		"files | cur log-1", "flush | no", "put a 1 | ok", "files | cur log-1", "flush | ok", "files | cur log-3 tab-2",
		"get a | is 1", "flush | no", "press 1 | no", "press 0 | ok", "files | cur log-3 tab-4", "press 0 | no", "scan | a=1",
		"press 1 | ok", "files | cur log-3 tab-5", "press 2 | ok", "files | cur log-3 tab-6", "press 2 | no", "press 3 | no", "get a | is 1",
		"del a | ok", "get a | none", "flush | ok", "files | cur log-8 tab-6 tab-7", "scan | empty",
		"press 0 | ok", "press 1 | ok", "files | cur log-8 tab-10 tab-6", "press 2 | ok", "files | cur log-8", "scan | empty", "press 2 | no")
}

func TestBenchSettles(t *testing.T) {
	ahead := []string{"settle | ok", "files | cur log-1"}
	for i := range 7 {
		ahead = append(ahead, fmt.Sprintf("put k%d %d | ok", i, i))
	}
	mustSay(t, append(ahead,
		"settle | ok", "files | cur log-1", "put k7 7 | ok", "files | cur log-1", "settle | ok", "files | cur log-3 tab-2",
		"put a 1 | ok", "flush | ok", "settle | ok", "files | cur log-5 tab-2 tab-4",
		"put b 1 | ok", "flush | ok", "files | cur log-7 tab-2 tab-4 tab-6", "settle | ok", "files | cur log-7 tab-8 tab-9",
		"scan | a=1 b=1 k0=0 k1=1 k2=2 k3=3 k4=4 k5=5 k6=6 k7=7")...)
}

// The record of a pair with one byte each is 11 bytes of log.
func TestBenchFalls(t *testing.T) {
	mustSay(t,
		"fall 0 | ok", "put a 1 | ok", "fall 0 | ok", "scan | empty", "files | cur log-1",
		"put a 1 | ok", "make | ok", "put b 2 | ok", "fall 0 | ok", "scan | a=1",
		"put b 2 | ok", "fall 10 | ok", "scan | a=1",
		"put b 2 | ok", "fall 11 | ok", "scan | a=1 b=2",
		"put c 3 | ok", "put d 4 | ok", "fall 21 | ok", "scan | a=1 b=2 c=3", "fall 0 | ok", "scan | a=1 b=2 c=3",
		"del a | ok", "fall 9999 | ok", "scan | b=2 c=3",
		"put e 5 | ok", "flush | ok", "fall 0 | ok", "scan | b=2 c=3 e=5", "files | cur log-3 tab-2")
	// A crash forgets that the old log was removed; Open clears it away.
	text := mustSay(t, "put a 1 | ok", "flush | ok", "files | cur log-3 tab-2")
	s, _ := mustBuild(t, text)
	if list := impl.List(impl.Fall(s.D, 0)); !slices.Contains(list, "log-1") {
		t.Error(list)
	}
	mustSay(t, "put a 1 | ok", "flush | ok", "fall 0 | ok", "files | cur log-3 tab-2", "get a | is 1")
}

func TestBenchMakes(t *testing.T) {
	s, _ := mustBuild(t, "put a 1\nput b 2\nmake")
	up, code := impl.Open(impl.Fall(s.D, 0))
	if code != impl.StoreGood || !same(impl.Scan(up), pairs("a=1 b=2")) {
		t.Error(impl.Scan(up), code)
	}
	mustSay(t, "make | ok", "make | ok", "put a 1 | ok", "make | ok", "fall 0 | ok", "scan | a=1")
}

func TestBenchOfCommands(t *testing.T) {
	text := mustSay(t,
		"at 1 put x 7 | dot 1.1", "at 2 get x | dot 2.1", "at 1 del y | dot 1.2", "at 3 get x | dot 3.1",
		"deliver 8 | no", "deliver 0 | net 8", "safe | safe 0", "said 1 | empty")
	_, w := mustBuild(t, text)
	want := []string{"ask 1>3 1.1 put x=7", "ask 2>1 2.1 get x", "ask 2>3 2.1 get x", "ask 1>2 1.2 del y", "ask 1>3 1.2 del y", "ask 3>1 3.1 get x", "ask 3>2 3.1 get x", "ack 2>1 1.1 :2.1"}
	if got := showMsgs(w.Net); !slices.Equal(got, want) {
		t.Errorf("%q", got)
	}
	if got, want := showAsked(w.Asked), []string{"1.1 put x=7", "2.1 get x", "1.2 del y", "3.1 get x"}; !slices.Equal(got, want) {
		t.Errorf("%q", got)
	}
	mustSay(t,
		"at 1 put x 7 | dot 1.1", "deliver 0 | net 2", "deliver 1 | net 3", "said 1 | 1.1=-",
		"at 1 get x | dot 1.2", "at 3 put x 8 | dot 3.1", "round | level 1",
		"said 1 | 1.1=- 1.2=7", "said 2 | empty", "said 3 | 3.1=7",
		"at 2 del x | dot 2.1", "at 2 get x | dot 2.2", "round | level 1", "said 2 | 2.1=8 2.2=-", "safe | safe 0")
}

func TestBenchOfWords(t *testing.T) {
	mustSay(t,
		"drop 0 | no", "double 0 | no", "again 1 | net 0", "reboot 1 | net 0",
		"at 2 put k v | dot 2.1", "drop 2 | no", "drop 1 | net 1", "double 0 | net 2", "double 2 | no", "drop 0 | net 1", "drop 0 | net 0",
		"again 1 | net 0", "again 2 | net 2", "again 2 | net 4", "again 3 | net 4", "deliver 0 | net 4", "deliver 3 | net 5",
		"said 2 | 2.1=-", "again 2 | net 7", "round | level 1", "again 2 | net 2", "deliver 1 | net 1", "deliver 0 | net 0")
	// Of three one ack is enough, so that a reboot has nobody else to forget.
	mustSay(t,
		"at 1 put k v | dot 1.1", "reboot 1 | net 2", "reboot 2 | net 2", "reboot 3 | net 2", "deliver 0 | net 2", "drop 1 | net 1", "reboot 1 | net 1",
		"deliver 0 | net 1", "deliver 0 | net 2", "said 1 | 1.1=-", "reboot 1 | net 2", "said 1 | 1.1=-")
	_, w := mustBuild(t, "at 2 put k v\nat 2 put l w\nat 3 put k u\ndeliver 0\ndouble 1\ndrop 0\nreboot 2")
	byEvents := impl.Play(impl.ClusterNew(3), events("submit 1 put k=v; submit 1 put l=w; submit 2 put k=u; deliver 0; double 1; drop 0; reboot 1"))
	if !same(w, byEvents) {
		t.Error(showCluster(w))
	}
}

// Where the room of the net is taken, one round may be too few.
func TestBenchOfAFullNet(t *testing.T) {
	text := fullNet()
	if got := mustBench(t, text); !strings.HasSuffix(got, "net 480\nnet 500\n") {
		t.Error(got)
	}
	got := strings.TrimPrefix(mustBench(t, text+"double 0\nagain 3\ndouble 500\nat 2 get x\nsaid 1\nround\nsaid 1\nround\nsaid 1\nsaid 2\nsafe\n"), impl.Bench(text))
	if want := "net 500\nnet 500\nno\ndot 2.1\nempty\nlevel 0\nempty\nlevel 1\n1.1=-\n2.1=7\nsafe 0\n"; got != want {
		t.Errorf("%q", got)
	}
}

// The store and the cluster of one bench have nothing of each other.
func TestBenchOfBoth(t *testing.T) {
	mustSay(t,
		"put k 1 | ok", "at 1 get k | dot 1.1", "round | level 1", "said 1 | 1.1=-", "get k | is 1",
		"at 1 put k 2 | dot 1.2", "round | level 1", "get k | is 1", "fall 0 | ok", "get k | none", "at 2 get k | dot 2.1", "round | level 1", "said 2 | 2.1=2",
		"reboot 1 | net 0", "files | cur log-1", "scan | empty")
	s, w := mustBuild(t, "put a 1\nflush\nput b 2\nat 1 put a 1\nat 2 get b\ndeliver 0\n")
	onlyS, _ := mustBuild(t, "put a 1\nflush\nput b 2\n")
	_, onlyW := mustBuild(t, "at 1 put a 1\nat 2 get b\ndeliver 0\n")
	if !same(s, onlyS) || !same(w, onlyW) {
		t.Error(s, showCluster(w))
	}
}

// Each line against the call that it names, at stores and clusters of many kinds.
func TestLinesAndTheirCalls(t *testing.T) {
	t.Parallel()
	lines := strings.Split("put a 9,put a ,put zz 1,del a,del zz,get a,get b,get k1,get zz,scan,make,flush,settle,press 0,press 1,press 2,fall 0,fall 5,fall 11,fall 9999,files,"+
		"at 1 put x 1,at 2 put x ,at 2 del x,at 3 get x,at 1 get y,deliver 0,deliver 1,deliver 499,drop 0,drop 2,double 0,double 1,again 1,again 2,again 3,reboot 1,reboot 2,reboot 3,round,said 1,said 2,said 3,safe", ",")
	said := map[string]map[string]bool{}
	for why, ahead := range benchStates() {
		before := mustBench(t, ahead)
		for _, line := range lines {
			got := strings.TrimPrefix(mustBench(t, ahead+line), before)
			if strings.Count(got, "\n") != 1 || got == "\n" {
				t.Errorf("%s: %q says %q", why, line, got)
			}
			if said[line] == nil {
				said[line] = map[string]bool{}
			}
			said[line][got] = true
		}
	}
	for _, line := range []string{"put a 9", "put a ", "get a", "scan", "flush", "press 0", "press 1", "files", "at 2 put x ", "at 2 del x", "deliver 0", "drop 0", "double 1", "again 3", "round", "said 1"} {
		if len(said[line]) < 2 {
			t.Errorf("%q says only %v", line, said[line])
		}
	}
}

// What only tells changes nothing.
func TestLinesThatOnlyTell(t *testing.T) {
	for why, ahead := range benchStates() {
		s, w := mustBuild(t, ahead)
		for _, line := range []string{"get a", "get zz", "scan", "files", "said 1", "said 2", "said 3", "safe", ""} {
			if s2, w2 := mustBuild(t, ahead+line+"\n"); !same(s2, s) || !same(w2, w) {
				t.Errorf("%s: %q changes something", why, line)
			}
		}
	}
}

// mustBeginAlike has the answers to the first lines begin the answers to more of them.
func mustBeginAlike(t testing.TB, lines []string) {
	t.Helper()
	all := mustBench(t, strings.Join(lines, "\n"))
	for i := range len(lines) + 1 {
		first := mustBench(t, strings.Join(lines[:i], "\n"))
		if !strings.HasPrefix(all, first) {
			t.Fatalf("%q: %q does not begin %q", lines[:i], first, all)
		}
		if answers := strings.Count(first, "\n"); answers != withText(lines[:i]) {
			t.Fatalf("%q: %d answers", lines[:i], answers)
		}
	}
}

func withText(lines []string) int {
	count := 0
	for _, line := range lines {
		if line != "" {
			count++
		}
	}
	return count
}

// Walks of lines in which all kinds are done, and some refused.
func TestWalksAtTheBench(t *testing.T) {
	t.Parallel()
	r := rand.New(rand.NewSource(131))
	done, refused := map[string]int{}, 0
	for range 60 {
		b := &plainBench{s: impl.StoreNew(), w: impl.ClusterNew(3)}
		var lines []string
		for range 30 + r.Intn(51) {
			line := someLine(r, b.w)
			lines = append(lines, line)
			if line == "" {
				continue
			}
			if b.answer(line) == "no" {
				refused++
			} else {
				done[kindOf(line)]++
			}
		}
		mustBench(t, strings.Join(lines, "\n"))
		mustBeginAlike(t, lines[:20])
	}
	for _, kind := range strings.Fields("put del get scan make flush settle press fall files atput atdel atget deliver drop double again reboot round said safe") {
		if done[kind] < 8 {
			t.Error("only", done[kind], "of", kind)
		}
	}
	if refused < 100 {
		t.Error("only", refused, "refused")
	}
}

func kindOf(line string) string {
	words := strings.Fields(line)
	if words[0] == "at" {
		return "at" + words[2]
	}
	return words[0]
}

func TestAnswersOfFirstLines(t *testing.T) {
	for _, text := range benchStates() {
		lines := strings.Split(strings.TrimSuffix(text, "\n"), "\n")
		mustBeginAlike(t, lines[:min(len(lines), 25)])
	}
}

// Nothing is kept from one call to another.
func TestBenchesOneBehindTheOther(t *testing.T) {
	texts := benchStates()
	first := map[string]string{}
	for why, text := range texts {
		first[why] = impl.Bench(text + "scan\nfiles\nsaid 1\nround\n")
	}
	for range 2 {
		for why, text := range texts {
			impl.Built(text)
			if got := impl.Bench(text + "scan\nfiles\nsaid 1\nround\n"); got != first[why] {
				t.Errorf("%s: %q, then %q", why, first[why], got)
			}
		}
	}
}
