package tests

import (
	"fmt"
	"math/rand"
	"slices"
	"strings"
	"testing"

	"loop.example/g00184/impl"
)

func TestLinesOfAText(t *testing.T) {
	for text, want := range map[string]string{
		"":                           "",
		"\n":                         "",
		"\n\n":                       "",
		"put a 1":                    "ok\n",
		"put a 1\n":                  "ok\n",
		"put a 1\n\n":                "ok\n",
		"\nput a 1":                  "ok\n",
		"\n\nput a 1\n\n\nget a\n\n": "ok\nis 1\n",
		"put a 1\nget a":             "ok\nis 1\n",
		"put a 1\nget a\n":           "ok\nis 1\n",
		" ":                          "no\n",
		" \n":                        "no\n",
		" \n ":                       "no\nno\n",
		"  ":                         "no\n",
		"\n \n\n":                    "no\n",
		"put\na\n1":                  "no\nno\nno\n",
		"put a\n1":                   "no\nno\n",
		"put a \n1":                  "ok\nno\n",
		"put a ":                     "ok\n",
		"put a \nget a\nscan":        "ok\nis \na=\n",
		"put a \r\nget a":            "ok\nis \r\n",
		"put a 1\nget a\nscan":       "ok\nis 1\na=1\n",
		"put a 1\rget a":             "no\n",
		"put a 1\rget":               "ok\n",
		"put a 1\r\nget a":           "ok\nis 1\r\n",
		"scan\r":                     "no\n",
		"scan\r\n":                   "no\n",
		"\r":                         "no\n",
		"\r\n\r\n":                   "no\nno\n",
		"scan\x00":                   "no\n",
		"\x00":                       "no\n",
		"\x00\n":                     "no\n",
		"scan\vfiles":                "no\n",
		"scan\u2028files":            "no\n",
		"scan\u0085files":            "no\n",
	} {
		if got := mustBench(t, text); got != want {
			t.Errorf("%q says %q, not %q", text, got, want)
		}
	}
}

// rightLines are one of each kind, all of them done behind rightAhead.
func rightLines() []string {
	return strings.Split("put k 1,del k,get k,scan,make,flush,settle,press 0,fall 0,files,at 1 put k 1,at 2 del k,at 3 get k,deliver 0,drop 1,double 2,again 1,reboot 2,round,said 3,safe", ",")
}

func rightAhead() string { return "put a 1\nflush\nput b 2\nat 1 put x 1\nat 2 put x 2\n" }

func TestBlanksOfALine(t *testing.T) {
	ahead := rightAhead()
	for _, line := range rightLines() {
		if got := mustBench(t, ahead+line); strings.HasSuffix(got, "no\n") {
			t.Errorf("%q says %q", line, got)
		}
		wrong := []string{" " + line, line + " ", "  " + line, line + "  ", " " + line + " "}
		for i := range len(line) {
			if line[i] == ' ' {
				for _, gap := range []string{"  ", "   ", "\t", "\u00a0", "", "_", "\x00", "\r", ","} {
					wrong = append(wrong, line[:i]+gap+line[i+1:])
				}
			}
		}
		for _, text := range wrong {
			mustRefuseLine(t, ahead, text)
		}
	}
}

func TestWordsTooFewOrTooMany(t *testing.T) {
	ahead := rightAhead()
	for _, line := range rightLines() {
		words := strings.Split(line, " ")
		for i := range words {
			if fewer := slices.Delete(slices.Clone(words), i, i+1); len(fewer) > 0 {
				mustRefuseLine(t, ahead, strings.Join(fewer, " "))
			}
			for _, more := range []string{"k", "0", "1", words[i]} {
				mustRefuseLine(t, ahead, strings.Join(slices.Insert(slices.Clone(words), i+1, more), " "))
			}
		}
	}
	mustRefuseEmptyWords(t, ahead)
	for _, line := range strings.Split("put,put k,put k v w,del,del k v,get,get k v,scan 1,scan scan,make 0,flush 0,settle 1,press,press 0 0,fall,fall 0 0,files 1,"+
		"at,at 1,at 1 put,at 1 put k,at 1 put k v w,at 1 del,at 1 del k v,at 1 get,at 1 get k v,at 1 1 get k,at get k,at put k v,"+
		"deliver,deliver 0 0,drop,drop 0 0,double,double 0 0,again,again 1 1,reboot,reboot 1 1,round 1,said,said 1 1,safe 0", ",") {
		mustRefuseLine(t, ahead, line)
	}
}

// mustRefuseEmptyWords has an empty word refused, in the place of another one
// and as one too many; where V stands it is one as any other.
func mustRefuseEmptyWords(t *testing.T, ahead string) {
	t.Helper()
	for _, line := range rightLines() {
		words := strings.Split(line, " ")
		for i := range words {
			emptied := slices.Clone(words)
			emptied[i] = ""
			// A line of one word alone is an empty line then.
			if isVal := strings.Contains(line, "put") && i == len(words)-1; !isVal && len(words) > 1 {
				mustRefuseLine(t, ahead, strings.Join(emptied, " "))
			}
		}
		for i := range len(words) + 1 {
			mustRefuseLine(t, ahead, strings.Join(slices.Insert(slices.Clone(words), i, ""), " "))
		}
	}
	for _, line := range []string{"put ", "put  ", "put   ", "put  1", "put  1 ", "put a  ", "put a  1", "put a 1 ", " put a ", "del ", "del  ", "del a ", "get ", "get  ", "get a ", "scan ", "make ", "press ", "fall ", "said ", "deliver ", " safe", "safe ",
		"at ", "at 1 ", "at 1 put ", "at 1 put  ", "at 1 put  1", "at 1 put a  ", "at 1 del ", "at 1 del a ", "at 1 get ", "at 1 get  ", "at  put a ", "at 4 put a ", "at 1  a "} {
		mustRefuseLine(t, ahead, line)
		mustRefuseLine(t, "", line)
	}
}

func TestCommandsThatAreNone(t *testing.T) {
	ahead := rightAhead()
	for _, line := range strings.Split("fly,fly k,fly k v,no,ok,empty,K,V,N,R,K V,PUT k v,Put k v,putk v,pu k v,puts k v,Get k,got k,delete k,set k v,scans,Scan,SCAN,mak,flushh,Settle,"+
		"press N,fall N,deliver N,again R,said R,at R get k,at R put K V,open,read k,write k v,list,level,net,dot 1.1,is 1,"+
		"at 1 fly k,at 1 fly k v,at 1 scan,at 1 put k=v,at 1 Put k v,at 1 deliver 0,at 1 again 1,At 1 get k,on 1 get k,submit 1 put k v,at 1 at 1 get k,"+
		"Deliver 0,dropp 0,doubled 0,again1,Reboot 1,rounds,Said 1,saidd 1,Safe,safe?,\"scan\",scan;,scan#,#,//,'put' k v,sc\x00an,scän,\xff,\xff\xfe \x80,\U0001F600", ",") {
		mustRefuseLine(t, ahead, line)
	}
}

func wrongNumbers() []string {
	return []string{"00", "01", "000", "0000", "0001", "00001", "010", "+0", "-0", "+1", "-1", "--1", "10000", "10001", "99999", "00000", "1.0", "1e0", "1e3", "0x0", "0x1", "0b1", "0o1", "1_0", "_1", "1,", ".", "-", "+", "a", "O", "one",
		"1a", "a1", "0\x00", "\x000", "1\r", "\t1", "1\t", "٠", "１", "1\xff", "2147483648", "4294967296", "9223372036854775807", "9223372036854775808", "18446744073709551616", "18446744073709551617", "340282366920938463463374607431768211456", strings.Repeat("9", 300), strings.Repeat("0", 300) + "1"}
}

func TestNumbersOfALine(t *testing.T) {
	ahead := rightAhead()
	for _, number := range wrongNumbers() {
		for _, form := range []string{"press #", "fall #", "deliver #", "drop #", "double #", "again #", "reboot #", "said #", "at # put k 1", "at # del k", "at # get k"} {
			mustRefuseLine(t, ahead, strings.ReplaceAll(form, "#", number))
		}
	}
	for _, number := range []string{"0", "1", "9", "10", "99", "100", "999", "1000", "1001", "9998", "9999"} {
		if got := mustBench(t, "fall "+number); got != "ok\n" {
			t.Errorf("fall %s: %q", number, got)
		}
		mustBench(t, ahead+"fall "+number)
	}
}

// A fall keeps so many bytes as the number says, of one digit or of four.
func TestFallsOfManyBytes(t *testing.T) {
	ahead := numberedLines("put "+strings.Repeat("k", 18)+"# "+strings.Repeat("v", 20), 24)
	s, _ := mustBuild(t, ahead)
	b, _ := impl.Bytes(s.D, "log-1")
	if len(b) < 1100 {
		t.Fatal(len(b))
	}
	for _, keep := range []int{0, 9, 47, 48, 49, 50, 99, 100, 101, 999, 1000, 1001, len(b) - 1, len(b), len(b) + 1, 9999} {
		bodies, _ := impl.Records(b[:min(keep, len(b))])
		fallen, _ := mustBuild(t, fmt.Sprint(ahead, "fall ", keep))
		mustBench(t, fmt.Sprint(ahead, "fall ", keep, "\nscan\nfiles\n"))
		if len(fallen.M.Nodes) != len(bodies) {
			t.Error(keep, len(fallen.M.Nodes), len(bodies))
		}
	}
}

func TestReplicasOfALine(t *testing.T) {
	for _, ahead := range []string{"", "at 1 put x 7\nat 2 get x\ndeliver 0\n", benchStates()["settled"]} {
		for _, form := range []string{"again #", "reboot #", "said #", "at # put k 1", "at # del k", "at # get k"} {
			for _, rep := range []string{"0", "4", "5", "7", "9", "10", "11", "12", "31", "9999"} {
				mustRefuseLine(t, ahead, strings.ReplaceAll(form, "#", rep))
			}
			for _, rep := range []string{"1", "2", "3"} {
				if got := mustBench(t, ahead+strings.ReplaceAll(form, "#", rep)); strings.HasSuffix(got, "\nno\n") || got == "no\n" {
					t.Errorf("%s: %q says %q", form, rep, got)
				}
			}
		}
	}
	// Each of the three is the one that is asked.
	_, w := mustBuild(t, "at 1 put a 1\nat 2 put b 1\nat 2 put c 1\nat 3 put d 1\nat 3 put e 1\nat 3 put f 1\n")
	for i, r := range w.Reps {
		if r.Next != i+2 || len(r.Recs) != i+1 {
			t.Error(i, showReplica(r))
		}
	}
}

func TestLevelsOfALine(t *testing.T) {
	full := "put a 1\nflush\npress 0\npress 1\npress 2\nput b 1\nflush\npress 0\npress 1\nput c 1\nflush\npress 0\nput d 1\nflush\n"
	s, _ := mustBuild(t, full)
	mustHaveTables(t, "a table at each level", s, "6:3:a-a 10:2:b-b 13:1:c-c 14:0:d-d")
	for _, level := range []string{"3", "4", "5", "10", "100", "1000", "9999"} {
		mustRefuseLine(t, full, "press "+level)
		mustRefuseLine(t, "", "press "+level)
	}
	for level := range 3 {
		line := fmt.Sprint("press ", level)
		if got := mustBench(t, full+line); !strings.HasSuffix(got, "ok\nok\n") {
			t.Errorf("%s: %q", line, got)
		}
		mustRefuseLine(t, "", line)
		mustRefuseLine(t, "put a 1\n", line)
	}
	mustRefuseLine(t, "put a 1\nflush\n", "press 1")
	mustRefuseLine(t, "put a 1\nflush\n", "press 2")
	mustRefuseLine(t, "put a 1\nflush\npress 0\n", "press 0")
}

func TestPlacesInTheNet(t *testing.T) {
	for words := range 9 {
		ahead := ""
		if words > 0 {
			ahead = "at 1 put k 1\ndrop 0\n" + strings.Repeat("double 0\n", words-1)
		}
		if _, w := mustBuild(t, ahead); len(w.Net) != words {
			t.Fatal(words, showCluster(w))
		}
		for _, form := range []string{"deliver ", "drop ", "double "} {
			for at := range words {
				if got := mustBench(t, fmt.Sprint(ahead, form, at)); strings.HasSuffix(got, "no\n") {
					t.Errorf("%s%d of %d: %q", form, at, words, got)
				}
			}
			for _, at := range []int{words, words + 1, words + 10, 499, 500, 501, 9999} {
				mustRefuseLine(t, ahead, fmt.Sprint(form, at))
			}
		}
	}
	ahead := fullNet()
	for _, form := range []string{"deliver ", "drop ", "double "} {
		mustRefuseLine(t, ahead, form+"500")
		if got := mustBench(t, ahead+form+"499"); strings.HasSuffix(got, "no\n") {
			t.Errorf("%q", got)
		}
	}
}

func TestKeysAndValuesOfALine(t *testing.T) {
	mustTakeValues(t, []string{"", "-", "=", strings.Repeat("x", 20), strings.Repeat("\xff", 20)})
	right := []string{"k", "=", "-", "0", "00", "-1", "put", "K", "V", "a=b", "\x00", "\xff", "\xff\xfe\x80", "\t", "\r", "\v", "ä", "\u00a0", "\u2028", "\U0001F600", "\"", "\\n", strings.Repeat("x", 20), strings.Repeat("\xff", 20), strings.Repeat("ä", 10), strings.Repeat("x", 19)}
	for _, word := range right {
		text := fmt.Sprintf("put %[1]s %[1]s\nget %[1]s\nscan\nat 1 put %[1]s %[1]s\nat 1 get %[1]s\nround\nsaid 1\nflush\nget %[1]s\nfall 0\nget %[1]s\ndel %[1]s\nget %[1]s\nscan\nat 1 del %[1]s\nround\nsaid 1\nat 2 get %[1]s\nround\nsaid 2\n", word)
		want := fmt.Sprintf("ok\nis %[1]s\n%[1]s=%[1]s\ndot 1.1\ndot 1.2\nlevel 1\n1.1=- 1.2=%[1]s\nok\nis %[1]s\nok\nis %[1]s\nok\nnone\nempty\ndot 1.3\nlevel 1\n1.1=- 1.2=%[1]s 1.3=%[1]s\ndot 2.1\nlevel 1\n2.1=-\n", word)
		if got := mustBench(t, text); got != want {
			t.Errorf("%q: %q", word, got)
		}
		s, w := mustBuild(t, fmt.Sprintf("put %[1]s %[1]s\nat 3 put %[1]s %[1]s", word))
		if s.M.Nodes[0].P != (impl.Pair{Key: word, Val: word}) || w.Asked[0].C != (impl.Cmd{Kind: impl.CmdPut, Key: word, Val: word}) {
			t.Errorf("%q: %v, %v", word, s.M, w.Asked)
		}
	}
	for _, form := range []string{"put # 1", "put # #", "del #", "get #", "at 1 put # 1", "at 2 put # #", "at 3 del #", "at 1 get #"} {
		mustRefuseLine(t, "put k 1\nat 1 put k 1\n", strings.ReplaceAll(form, "#", ""))
	}
	for _, word := range []string{strings.Repeat("x", 21), strings.Repeat("\xff", 21), strings.Repeat("ä", 11), strings.Repeat("ä", 10) + "x", strings.Repeat("x", 100), strings.Repeat("x", 2500), "thiskeyiswaytoolongforit"} {
		for _, form := range []string{"put # 1", "put k #", "put # #", "del #", "get #", "at 1 put # 1", "at 1 put k #", "at 2 put # #", "at 3 del #", "at 1 get #"} {
			line := strings.ReplaceAll(form, "#", word)
			mustRefuseLine(t, "", line)
			mustRefuseLine(t, "put k 1\nat 1 put k 1\n", line)
		}
	}
}

// mustTakeValues has a key take each value, in the store and in the cluster,
// and tell it again.
func mustTakeValues(t *testing.T, values []string) {
	t.Helper()
	for _, val := range values {
		text := fmt.Sprintf("put k %[1]s\nget k\nscan\nflush\nget k\nfall 0\nget k\nat 1 put k %[1]s\nat 1 get k\nround\nsaid 1\nat 2 put k 1\nround\nsaid 2\n", val)
		want := fmt.Sprintf("ok\nis %[1]s\nk=%[1]s\nok\nis %[1]s\nok\nis %[1]s\ndot 1.1\ndot 1.2\nlevel 1\n1.1=- 1.2=%[1]s\ndot 2.1\nlevel 1\n2.1=%[1]s\n", val)
		if got := mustBench(t, text); got != want {
			t.Errorf("%q: %q", val, got)
		}
	}
}

func TestKeysThatAreNotThere(t *testing.T) {
	for why, ahead := range benchStates() {
		before := mustBench(t, ahead)
		for _, line := range []string{"get nokey", "get " + strings.Repeat("z", 20), "get \xff", "get -"} {
			if got := mustBench(t, ahead+line); got != before+"none\n" {
				t.Errorf("%s: %q: %q", why, line, got)
			}
		}
	}
	// Deleted in memory, in a table above, in a table below.
	mustSay(t,
		"put a 1 | ok", "del a | ok", "get a | none", "put a 2 | ok", "flush | ok", "del a | ok", "get a | none", "flush | ok", "get a | none", "scan | empty",
		"press 0 | ok", "get a | none", "put a 3 | ok", "get a | is 3")
}

// All that the layers below refuse is refused here, and nothing has changed.
func TestRefusedLines(t *testing.T) {
	flushed := numberedLines("put k# v\nflush", 20)
	wide := numberedLines("put k# v\nflush", 19) + numberedLines("put l# v", 24) + "flush\n"
	for _, x := range []struct{ ahead, line string }{
		{"", "flush"},
		{"put a 1\nflush\n", "flush"},
		{"put a 1\nmake\nput b 2\nflush\nfall 0\n", "flush"},
		{"", "press 0"},
		{numberedLines("put k# v", 60), "put k61 v"},
		{numberedLines("put k# v", 60), "put k1 v"},
		{numberedLines("put k# v", 60), "del k1"},
		{numberedLines("put k# v", 59) + "del k60\n", "del k60"},
		{flushed + "put a 1\n", "flush"},
		{flushed + numberedLines("put m# v", 8), "settle"},
		{wide, "press 0"},
		{wide, "settle"},
		{numberedLines("at 1 put k #", 12), "at 1 put k 13"},
		{numberedLines("at 1 put k #", 12), "at 1 get z"},
		{numberedLines("at 3 get k", 12) + "round\n", "at 3 del k"},
		{"", "deliver 0"}, {"", "drop 0"}, {"", "double 0"},
		{"at 1 put k 1\nround\n", "deliver 0"},
	} {
		mustRefuseLine(t, x.ahead, x.line)
	}
	// One less is done.
	mustBench(t, numberedLines("put k# v", 59)+"put k1 w\nput k60 v\nput k60 w\n")
	for text, last := range map[string]string{
		numberedLines("put k# v", 59) + "put k60 v":                  "ok",
		numberedLines("put k# v", 59) + "put k1 w\nput k1 u\nget k1": "is u",
		numberedLines("put k# v\nflush", 19) + "put a 1\nflush":      "ok",
		numberedLines("at 1 put k #", 11) + "at 1 get k":             "dot 1.12",
		numberedLines("at 1 put k #", 12) + "at 2 get k":             "dot 2.1",
		flushed + "press 0\nput a 1\nflush":                          "ok",
		flushed + "settle\nscan\nput a 1\nflush":                     "ok",
	} {
		if got := mustBench(t, text); !strings.HasSuffix(got, "\n"+last+"\n") {
			t.Errorf("%q says %q", text, got)
		}
	}
}

// At stores and clusters of many kinds, what no chapter would do is refused.
func TestRefusedLinesEverywhere(t *testing.T) {
	t.Parallel()
	for _, ahead := range benchStates() {
		for _, line := range []string{"put a", "put a 1 ", "put  1", "put a  ", "put ", "at 1 put  ", "at 1 put a  ", "scan ", " safe", " get a", "del", "get", "scan 1", "press 3", "press", "press 00", "fall -1", "fall 10000", "fall x", "at 0 put k 1", "at 4 put k 1", "at 1 fly k",
			"at 1 put k", "at 1 put k " + strings.Repeat("v", 21), "deliver 500", "deliver 01", "drop 9999", "double -1", "again 0", "again 4", "reboot 0", "reboot 4", "said 0", "said 4", "round 1", "safe 0", "fly", " "} {
			mustRefuseLine(t, ahead, line)
		}
	}
}

func TestLimitsOfTheBench(t *testing.T) {
	word := strings.Repeat("x", mostBench)
	for _, text := range []string{word, word[:mostBench-1] + "\n", "\n" + word[:mostBench-1], word[:mostBench-1]} {
		if got := mustBench(t, text); got != "no\n" {
			t.Errorf("%d bytes: %q", len(text), got)
		}
	}
	// Bytes are counted, not signs.
	mustBench(t, strings.Repeat("ä", mostBench/2))
	for _, text := range []string{word + "x", word + "\n", "\n" + word, word + word, strings.Repeat("ä", mostBench/2) + "x", "put a 1\n" + word, strings.Repeat("\n", mostBench+1), strings.Repeat(" ", mostBench+1), strings.Repeat("\x00", mostBench+1), strings.Repeat(word, 100)} {
		mustBeTooLong(t, text)
	}
	empty := strings.Repeat("\n", mostLines)
	for _, x := range []struct {
		text string
		want string
	}{
		{empty, ""},
		{empty[1:] + "files", "cur log-1\n"},
		{empty[1:] + "files\n", "cur log-1\n"},
		{"put a 1" + empty, "ok\n"},
		{"put a 1" + empty[1:] + "get a", "ok\nis 1\n"},
		{"put a 1" + empty[1:] + "get a\n", "ok\nis 1\n"},
		{strings.Repeat("fly\n", mostLines), strings.Repeat("no\n", mostLines)},
		{strings.Repeat("fly\n", mostLines-1) + "fly", strings.Repeat("no\n", mostLines)},
		{strings.Repeat("get a\n\n", mostLines/2), strings.Repeat("none\n", mostLines/2)},
	} {
		if got := mustBench(t, x.text); got != x.want {
			t.Errorf("%q says %q", x.text, got)
		}
	}
	for _, text := range []string{empty + "\n", empty + "x", empty + "files\n", empty + " ", "put a 1" + empty + "get a", "put a 1\n" + empty, strings.Repeat("fly\n", mostLines+1), strings.Repeat("fly\n", mostLines) + "fly", strings.Repeat("fly\n", mostLines) + "\n",
		strings.Repeat("get a\n\n", mostLines/2) + "\n", strings.Repeat("\n", 500), strings.Repeat("\n", mostBench), strings.Repeat("scan\n", 200)} {
		mustBeTooLong(t, text)
	}
	// Both at once, met and passed.
	line := strings.Repeat("x", mostBench/mostLines-1) + "\n"
	if got := mustBench(t, strings.Repeat(line, mostLines)); got != strings.Repeat("no\n", mostLines) {
		t.Errorf("%q", got)
	}
	mustBeTooLong(t, strings.Repeat(line, mostLines)+"\n")
	mustBeTooLong(t, "x"+strings.Repeat(line, mostLines))
}

// A bench that is full of commands to its last line.
func TestMostLines(t *testing.T) {
	texts := map[string]string{
		"puts":      numberedLines("put k# v", mostLines),
		"long puts": numberedLines("put "+strings.Repeat("k", 18)+"# "+strings.Repeat("v", 20), mostLines),
		"flushes":   numberedLines("put k# v\nflush", mostLines/2),
		"settles":   numberedLines("put k# v\nflush\nsettle", 26),
		"falls":     numberedLines("put k# v\nfall #", mostLines/2),
		"deep":      numberedLines("put k# v\nflush\npress 0\npress 1\npress 2", 16),
		"asks":      numberedLines("at 1 put k #", mostLines),
		"of three":  numberedLines("at 1 put k #\nat 2 put k #\nat 3 get k\nround", 20),
		"agains":    numberedLines("at 1 put k #\nagain 1\ndouble 0", 26),
		"delivered": numberedLines("at 1 put k #\nat 3 del k\ndeliver 0\ndeliver 1", 20),
		"rounds":    fullNet() + numberedLines("round", 40),
	}
	for why, text := range texts {
		if got := mustBench(t, text); strings.Count(got, "\n") != strings.Count(text, "\n") {
			t.Errorf("%s: %q", why, got)
		}
	}
}

func TestMemoryOfTheBench(t *testing.T) {
	texts := benchStates()
	texts["empty"] = "\n"
	texts["too long"] = strings.Repeat("x", mostBench+1)
	for why, text := range texts {
		for _, last := range []string{"", "round", "fall 9", "double 0\ndouble 0\ndouble 0", "again 1\nagain 1\nagain 3", "settle", "at 2 put x 1\ndouble 0\ndeliver 0", "fly", "press 3", "flush", "press 0"} {
			spans := slices.Concat(spansOfBuilt(text+last, "one"), spansOfBuilt(text+last, "another"))
			mustNotShare(t, why+" "+last, spans)
		}
	}
	// What is written into one answer is not seen in the next.
	text := "put a 1\nflush\nput b 2\nat 1 put k 1\nat 1 put k 2\nround\n"
	s, w := mustBuild(t, text)
	before, beforeW := wholeCopy(s), wholeCopy(w)
	s.M.Nodes[0].P.Key, s.Man.Tables[0].Lo, s.D.Names[0].Name, s.D.Inodes[0].Data[0] = "x", "x", "x", 'x'
	w.Reps[0].Recs[1].Deps[0], w.Asked[0].C.Key, w.Reps[1].Map[0].Key = dot("7.7"), "x", "x"
	if s2, w2 := mustBuild(t, text); !same(wholeCopy(s2), before) || !same(wholeCopy(w2), beforeW) {
		t.Error("what was written into an answer is seen")
	}
	mustBench(t, text)
}

// Lines with a sign that is bent, and texts of any bytes: told as the chapter has it, and no panic.
func TestBentLines(t *testing.T) {
	t.Parallel()
	r := rand.New(rand.NewSource(132))
	for range 250 {
		b := &plainBench{s: impl.StoreNew(), w: impl.ClusterNew(3)}
		var lines []string
		for range 1 + r.Intn(40) {
			line := someLine(r, b.w)
			if r.Intn(3) == 0 {
				line = bentLine(r, line)
			}
			lines = append(lines, line)
			for _, one := range plainLines(line) {
				if one != "" {
					b.answer(one)
				}
			}
		}
		mustBench(t, strings.Join(lines[:min(len(lines), 40)], "\n"))
	}
	signs := []byte("putdelgscanmkflshiwor 0123\n\n  \x00\xff")
	for range 2000 {
		text := make([]byte, r.Intn(60))
		for i := range text {
			text[i] = signs[r.Intn(len(signs))]
			if r.Intn(20) == 0 {
				text[i] = byte(r.Intn(256))
			}
		}
		mustBench(t, string(text))
	}
}

func FuzzBench(f *testing.F) {
	for _, text := range benchStates() {
		f.Add(text)
	}
	f.Add(rightAhead() + strings.Join(rightLines(), "\n"))
	f.Add("put a \nput  a\n at 1 get k\ndeliver 01\n\xff\x00\n")
	f.Fuzz(func(t *testing.T, text string) {
		lines := plainLines(text)
		if len(text) > mostBench || len(lines) > mostLines {
			if got := impl.Bench(text); got != "too long\n" {
				t.Errorf("%q", got)
			}
			if s, w, ok := impl.Built(text); ok || !same(s, impl.Store{}) || !same(w, impl.Cluster{}) {
				t.Error("built", ok)
			}
			return
		}
		all := mustBench(t, text)
		if half := strings.Join(lines[:len(lines)/2], "\n"); !strings.HasPrefix(all, impl.Bench(half)) {
			t.Errorf("%q does not begin %q", impl.Bench(half), all)
		}
	})
}
