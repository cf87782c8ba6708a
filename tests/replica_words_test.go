package tests

import (
	"fmt"
	"math/rand"
	"slices"
	"strings"
	"testing"

	"loop.example/g00184/impl"
)

// Each kind of word a second time: at once, behind what it caused, behind Sure, behind Done, behind a Reboot.
func TestWordsHeardTwice(t *testing.T) {
	w := newTalk(t, 5)
	w.submit(1, "put k=1", "ask 1>2 1.1 put k=1", "ask 1>3 1.1 put k=1", "ask 1>4 1.1 put k=1", "ask 1>5 1.1 put k=1")
	w.submit(2, "put k=2", "ask 2>1 2.1 put k=2", "ask 2>3 2.1 put k=2", "ask 2>4 2.1 put k=2", "ask 2>5 2.1 put k=2")
	ask, ack := "ask 1>2 1.1 put k=1", "ack 2>1 1.1 :2.1"
	w.hear(ask, ack)
	w.hearAgain(ask, ack)
	w.hear(ack)
	w.is(1, "next 2; 1.1 put k=1 :2.1; acks 1.1<1 1.1<2")
	w.hearAgain(ack)
	w.reboot(1)
	w.is(1, "next 2; 1.1 put k=1 :2.1; acks 1.1<1")
	w.hear(ack)
	w.is(1, "next 2; 1.1 put k=1 :2.1; acks 1.1<1 1.1<2")
	w.hearAgain(ask, ack)
	w.hear("ask 1>3 1.1 put k=1", "ack 3>1 1.1")
	tells := []string{"tell 1>2 1.1 put k=1 :2.1", "tell 1>3 1.1 put k=1 :2.1", "tell 1>4 1.1 put k=1 :2.1", "tell 1>5 1.1 put k=1 :2.1"}
	w.hear("ack 3>1 1.1", tells...)
	// Sure, and told: no ack is counted any more, no second tell is said.
	w.hearAgain("ack 3>1 1.1")
	w.hearAgain(ack)
	w.hearAgain("ack 4>1 1.1 :2.1,2.9")
	w.hear(tells[0])
	w.is(2, "next 2; 1.1 put k=1 :2.1 sure, 2.1 put k=2; acks 2.1<2")
	w.hearAgain(tells[0])
	w.hearAgain(ask, "ack 2>1 1.1 :2.1")
	w.reboot(2)
	w.hearAgain(tells[0])
	w.hear("ask 2>3 2.1 put k=2", "ack 3>2 2.1 :1.1")
	w.hear("ack 3>2 2.1 :1.1")
	w.hear("ask 2>5 2.1 put k=2", "ack 5>2 2.1")
	w.hear("ack 5>2 2.1", "tell 2>1 2.1 put k=2 :1.1", "tell 2>3 2.1 put k=2 :1.1", "tell 2>4 2.1 put k=2 :1.1", "tell 2>5 2.1 put k=2 :1.1")
	done := "next 2; 1.1 put k=1 :2.1 sure, 2.1 put k=2 :1.1 sure; done 1.1 2.1; map k=2; said 2.1=1"
	w.is(2, done)
	for range 2 {
		w.hearAgain(tells[0])
		w.hearAgain(ask, ack)
		w.hearAgain("ack 5>2 2.1")
		w.hearAgain("ack 3>2 2.1 :1.1")
		w.hearAgain("ack 4>2 2.1 :1.7,5.5")
		w.reboot(2)
		w.is(2, done)
	}
	w.hear("tell 2>1 2.1 put k=2 :1.1")
	done = "next 2; 1.1 put k=1 :2.1 sure, 2.1 put k=2 :1.1 sure; done 1.1 2.1; map k=2; said 1.1-"
	w.is(1, done)
	for range 2 {
		w.hearAgain("tell 2>1 2.1 put k=2 :1.1")
		w.hearAgain("ask 2>1 2.1 put k=2", "ack 1>2 2.1 :1.1")
		w.hearAgain(ack)
		w.reboot(1)
		w.is(1, done)
	}
}

// What is Sure stays as it was told first, whatever is said of it later.
func TestWhatIsSureStaysAsItWasTold(t *testing.T) {
	w := newTalk(t, 3)
	w.hear("tell 2>1 2.1 put k=1")
	w.hearAgain("tell 2>1 2.1 put k=1 :3.1")
	w.hearAgain("tell 2>1 2.1 put k=9")
	w.hearAgain("tell 2>1 2.1 del x :1.1,3.3")
	w.hearAgain("ask 2>1 2.1 put k=1 :3.1", "ack 1>2 2.1")
	w.hearAgain("ask 2>1 2.1 get z :1.1,3.1", "ack 1>2 2.1")
	w.is(1, "next 1; 2.1 put k=1 sure; done 2.1; map k=1")
	// One that waits stays, too.
	w.hear("tell 3>1 3.1 put l=1 :3.2")
	w.hearAgain("tell 3>1 3.1 put l=1")
	w.hearAgain("tell 3>1 3.1 put l=1 :2.1,3.2")
	w.is(1, "next 1; 2.1 put k=1 sure, 3.1 put l=1 :3.2 sure; done 2.1; map k=1")
	// What is known, and not Sure, is acked as it is known, until it is told.
	w.hear("ask 3>1 3.3 get l :2.2", "ack 1>3 3.3 :2.2,3.1")
	w.hearAgain("ask 3>1 3.3 get l", "ack 1>3 3.3 :2.2,3.1")
	w.hearAgain("ask 3>1 3.3 get l :2.2,2.3,3.9", "ack 1>3 3.3 :2.2,3.1")
	w.hear("tell 3>1 3.4 put l=4 :3.1,3.2,3.3")
	w.hearAgain("ask 3>1 3.3 get l", "ack 1>3 3.3 :2.2,3.1")
	// The Deps told take the place of those known, and are not added to them.
	w.hear("tell 3>1 3.3 get l :2.7")
	w.is(1, "next 1; 2.1 put k=1 sure, 3.1 put l=1 :3.2 sure, 3.3 get l :2.7 sure, 3.4 put l=4 :3.1,3.2,3.3 sure; done 2.1; map k=1")
	w.hearAgain("ask 3>1 3.3 get l :2.2", "ack 1>3 3.3 :2.7")
}

// A tell of a known command with another Cmd tells its Deps for good; the command is the one that is known.
func TestATellOfAnotherCmd(t *testing.T) {
	w := newTalk(t, 3)
	w.hear("ask 2>1 2.1 put k=1 :3.1", "ack 1>2 2.1 :3.1")
	w.hear("tell 2>1 2.1 put k=2")
	w.is(1, "next 1; 2.1 put k=1 sure; done 2.1; map k=1")
}

func TestTellsOutOfOrder(t *testing.T) {
	w := newTalk(t, 3)
	// Of a command that is not known yet, of one whose Deps are not known yet.
	w.hear("tell 2>3 2.2 get k :1.1,2.1")
	w.is(3, "next 1; 2.2 get k :1.1,2.1 sure")
	w.hear("tell 1>3 1.1 put k=1 :2.1")
	w.is(3, "next 1; 1.1 put k=1 :2.1 sure, 2.2 get k :1.1,2.1 sure")
	// An ask of what is behind it: it is known from then on, not Sure.
	w.hear("ask 2>3 2.1 put k=2", "ack 3>2 2.1 :1.1,2.2")
	w.is(3, "next 1; 1.1 put k=1 :2.1 sure, 2.1 put k=2 :1.1,2.2, 2.2 get k :1.1,2.1 sure")
	w.hear("tell 2>3 2.1 put k=2 :1.1")
	w.is(3, "next 1; 1.1 put k=1 :2.1 sure, 2.1 put k=2 :1.1 sure, 2.2 get k :1.1,2.1 sure; done 1.1 2.1 2.2; map k=2")
	w.hearAgain("ask 2>3 2.2 get k :2.1", "ack 3>2 2.2 :1.1,2.1")
	w.hearAgain("ask 1>3 1.1 put k=1", "ack 3>1 1.1 :2.1")
	// Of its own Dot that was never asked for, others may tell that they wait for it.
	w.hear("tell 1>3 1.2 get k :3.5")
	w.is(3, "next 1; 1.1 put k=1 :2.1 sure, 1.2 get k :3.5 sure, 2.1 put k=2 :1.1 sure, 2.2 get k :1.1,2.1 sure; done 1.1 2.1 2.2; map k=2")
}

func TestAcksOutOfOrder(t *testing.T) {
	w := newTalk(t, 5)
	// Not its own, not known, its own to another one: nothing.
	w.hear("ask 2>1 2.1 put k=1", "ack 1>2 2.1")
	w.hearAgain("ack 3>1 2.1")
	w.hearAgain("ack 2>1 2.1")
	w.hearAgain("ack 2>1 1.1")
	w.submit(1, "put l=1", "ask 1>2 1.1 put l=1", "ask 1>3 1.1 put l=1", "ask 1>4 1.1 put l=1", "ask 1>5 1.1 put l=1")
	w.hearAgain("ack 2>1 1.2")
	// An ack of one who was told nothing counts, with whatever Deps it has.
	w.hear("ack 2>1 1.1 :1.7,2.1,5.9")
	w.is(1, "next 2; 1.1 put l=1 :1.7,2.1,5.9, 2.1 put k=1; acks 1.1<1 1.1<2")
	// The same one again, with others: its Deps are added, it is counted once.
	w.hear("ack 2>1 1.1 :1.7,2.2,5.8")
	w.is(1, "next 2; 1.1 put l=1 :1.7,2.1,2.2,5.8,5.9, 2.1 put k=1; acks 1.1<1 1.1<2")
	w.hear("ack 4>1 1.1 :1.3", "tell 1>2 1.1 put l=1 :1.3,1.7,2.1,2.2,5.8,5.9", "tell 1>3 1.1 put l=1 :1.3,1.7,2.1,2.2,5.8,5.9",
		"tell 1>4 1.1 put l=1 :1.3,1.7,2.1,2.2,5.8,5.9", "tell 1>5 1.1 put l=1 :1.3,1.7,2.1,2.2,5.8,5.9")
	w.hearAgain("ack 5>1 1.1 :3.3")
	w.is(1, "next 2; 1.1 put l=1 :1.3,1.7,2.1,2.2,5.8,5.9 sure, 2.1 put k=1")
}

// A net is what is on its way, and how often each word may still come.
type net struct {
	reps []impl.Replica
	left map[string]int
}

func (n net) String() string {
	var out []string
	for _, r := range n.reps {
		out = append(out, showReplica(r))
	}
	var words []string
	for text, count := range n.left {
		words = append(words, fmt.Sprint(text, " ", count))
	}
	slices.Sort(words)
	return strings.Join(append(out, words...), "\n")
}

// with are the words that are said, each to come so many times.
func (n net) with(said []impl.Msg, times int) net {
	left := map[string]int{}
	for text, count := range n.left {
		left[text] = count
	}
	for _, text := range showMsgs(said) {
		left[text] = max(left[text], times)
	}
	return net{reps: slices.Clone(n.reps), left: left}
}

// mustTalk has commands asked for at replicas, and all their words heard, each
// so many times, in each order that there is; it answers how many ends there are.
func mustTalk(t *testing.T, n int, times int, asked map[int][]string, end func(reps []impl.Replica)) int {
	t.Helper()
	now := net{reps: newTalk(t, n).reps}
	for id := 1; id <= n; id++ {
		for _, text := range asked[id] {
			r, said, _ := mustSubmit(t, text, now.reps[id-1], cmd(text))
			now = now.with(said, times)
			now.reps[id-1] = r
		}
	}
	met := map[string]bool{now.String(): true}
	work := []net{now}
	ends := 0
	for len(work) > 0 && !t.Failed() {
		now = work[len(work)-1]
		work = work[:len(work)-1]
		going := false
		for text, count := range now.left {
			if count == 0 {
				continue
			}
			going = true
			m := msg(text)
			r, said := mustHear(t, text, now.reps[m.To-1], m)
			next := now.with(said, 0)
			for _, s := range showMsgs(said) {
				if _, there := now.left[s]; !there {
					next.left[s] = times
				}
			}
			next.reps[m.To-1] = r
			next.left[text]--
			if key := next.String(); !met[key] {
				met[key] = true
				work = append(work, next)
				mustStand(t, text, r)
			}
		}
		if !going {
			ends++
			end(now.reps)
		}
	}
	return ends
}

// mustHaveDoneAll asks that each replica did all, commands of one key in one order, and said what it was asked for.
func mustHaveDoneAll(t *testing.T, asked map[int][]string, reps []impl.Replica) {
	t.Helper()
	all := 0
	for _, list := range asked {
		all += len(list)
	}
	for _, r := range reps {
		if len(r.Done) != all || len(r.Recs) != all || len(r.Said) != len(asked[r.Id]) || !same(r.Map, reps[0].Map) {
			t.Errorf("%d/%d: %s", r.Id, r.N, showReplica(r))
		}
		for i, a := range r.Recs {
			for _, b := range r.Recs[:i] {
				here, there := slices.Index(r.Done, a.D) < slices.Index(r.Done, b.D), slices.Index(reps[0].Done, a.D) < slices.Index(reps[0].Done, b.D)
				if slowMeet(a.C, b.C) && here != there {
					t.Errorf("%v and %v: %v, %v", a.D, b.D, r.Done, reps[0].Done)
				}
			}
		}
	}
}

func TestExchangesInAllOrders(t *testing.T) {
	for _, x := range []struct {
		n, times int
		asked    map[int][]string
	}{
		{1, 1, map[int][]string{1: {"put k=1", "get k", "del k"}}},
		{2, 1, map[int][]string{1: {"put k=1"}}},
		{2, 2, map[int][]string{1: {"put k=1"}, 2: {"put k=2"}}},
		{2, 2, map[int][]string{1: {"put k=1"}, 2: {"put l=2"}}},
		{2, 1, map[int][]string{1: {"put k=1", "get k"}, 2: {"del k", "get k"}}},
		{3, 3, map[int][]string{2: {"put k=1"}}},
		{3, 1, map[int][]string{1: {"put k=1"}, 3: {"get k"}}},
		{3, 1, map[int][]string{1: {"get k"}, 2: {"get k"}}},
		{3, 1, map[int][]string{2: {"put k=1", "del k"}}},
		{5, 1, map[int][]string{4: {"put k=1"}}},
	} {
		ends := mustTalk(t, x.n, x.times, x.asked, func(reps []impl.Replica) { mustHaveDoneAll(t, x.asked, reps) })
		if ends == 0 {
			t.Error("no end of", x.asked)
		}
	}
}

// All words heard, the oldest first or the newest first, of commands that are asked for at one replica or at all.
func TestExchangesOfEachSize(t *testing.T) {
	for n := 1; n <= 7; n++ {
		for id := 0; id <= n; id++ {
			for _, oldest := range []bool{true, false} {
				asked := map[int][]string{id: {"put k=1", "get k", "put l=2", "del k"}}
				if id == 0 {
					asked = map[int][]string{}
					for each := 1; each <= n; each++ {
						asked[each] = []string{fmt.Sprint("put k=", each), "get k"}
					}
				}
				w := newWalk(t, nil, n)
				for each := 1; each <= n; each++ {
					for _, text := range asked[each] {
						next, said, _ := mustSubmit(t, text, w.at(each), cmd(text))
						w.reps[each-1], w.net = next, append(w.net, said...)
					}
				}
				w.hearAll(oldest)
				mustHaveDoneAll(t, asked, w.reps)
			}
		}
	}
}

func (w *walk) hearAll(oldest bool) {
	for len(w.net) > 0 {
		at := 0
		if !oldest {
			at = len(w.net) - 1
		}
		m := w.net[at]
		w.net = slices.Delete(w.net, at, at+1)
		w.take(m)
	}
}

func TestNextTwelveAndThirteen(t *testing.T) {
	for _, n := range []int{1, 2, 3, 7} {
		r := impl.ReplicaNew(n, n)
		for i := range mostSubmit {
			next, said, d := mustSubmit(t, "of twelve", r, cmd(fmt.Sprint("put k", i%3, "=", i)))
			if d != (impl.Dot{R: n, N: i + 1}) || len(said) != n-1 || next.Next != i+2 {
				t.Error(n, i, d, said)
			}
			r = next
		}
		mustStand(t, "twelve", r)
		for range 2 {
			for _, text := range []string{"put k0=1", "get zz", "del k1"} {
				if next, said, d := mustSubmit(t, "the thirteenth", r, cmd(text)); !same(next, r) || len(said) != 0 || d != (impl.Dot{}) {
					t.Error(n, text, d, said)
				}
			}
			r = impl.Reboot(r)
		}
		// What others ask for is still heard of.
		if n > 1 {
			m := msg(fmt.Sprint("ask 1>", n, " 1.13 put k0=x"))
			if next, said := mustHear(t, "the thirteenth of another one", r, m); len(next.Recs) != 13 || len(said) != 1 || len(said[0].Deps) != 4 {
				t.Error(n, said)
			}
		}
	}
}

// knowing is the first of 7, and knows n commands of others, of which these texts tell in turn.
func knowing(n int, texts ...string) impl.Replica {
	r := impl.ReplicaNew(1, 7)
	for i := range n {
		r.Recs = append(r.Recs, impl.Rec{D: otherDot(i), C: cmd(texts[i%len(texts)])})
	}
	return r
}

// otherDot is the i-th of more Dots than a replica knows, ascending, none of the first replica.
func otherDot(i int) impl.Dot { return impl.Dot{R: 2 + i/18, N: 1 + i%18} }

func otherDots(from int, to int) []impl.Dot {
	var out []impl.Dot
	for _, i := range numbersFrom(from, to) {
		out = append(out, otherDot(i))
	}
	return out
}

func TestMostRecs(t *testing.T) {
	texts := []string{"get a", "get b", "get c"}
	less, full := knowing(mostRecs-1, texts...), knowing(mostRecs, texts...)
	mustStand(t, "one less", less)
	mustStand(t, "as many as there may be", full)
	mustBeNoReplica(t, "one too many", knowing(mostRecs+1, texts...))
	mustBeNoReplica(t, "far too many", knowing(mostRecs+15, texts...))

	own, said, d := mustSubmit(t, "the last one", less, cmd("put x=1"))
	if len(own.Recs) != mostRecs || len(said) != 6 || d != (impl.Dot{R: 1, N: 1}) {
		t.Error(d, said)
	}
	mustStand(t, "the last one", own)
	if _, said, d := mustSubmit(t, "one too many", full, cmd("put x=1")); len(said) != 0 || d != (impl.Dot{}) {
		t.Error(d, said)
	}
	fresh := otherDot(mostRecs)
	for _, kind := range []int{impl.MsgAsk, impl.MsgTell} {
		m := impl.Msg{Kind: kind, From: fresh.R, To: 1, D: fresh, C: cmd("put x=1"), Deps: dots("1.1 2.2")}
		next, _ := mustHear(t, "the last one", less, m)
		if len(next.Recs) != mostRecs {
			t.Error(kind, len(next.Recs))
		}
		mustStand(t, "the last one", next)
		if next, said := mustHear(t, "one too many", full, m); !same(next, full) || len(said) != 0 || !impl.MsgOk(full, m) {
			t.Error(kind, said)
		}
	}
	// What is known is acked and told still.
	x := full.Recs[44]
	if _, said := mustHear(t, "known", full, impl.Msg{Kind: impl.MsgAsk, From: x.D.R, To: 1, D: x.D, C: x.C}); len(said) != 1 {
		t.Error(said)
	}
	told, _ := mustHear(t, "known", full, impl.Msg{Kind: impl.MsgTell, From: x.D.R, To: 1, D: x.D, C: x.C})
	if !slices.Equal(told.Done, []impl.Dot{x.D}) || len(told.Recs) != mostRecs {
		t.Error(told.Done)
	}
	acked := own
	for _, from := range []int{2, 3, 4} {
		acked, said = mustHear(t, "own", acked, impl.Msg{Kind: impl.MsgAck, From: from, To: 1, D: d})
	}
	if !slices.Equal(acked.Done, []impl.Dot{d}) || len(said) != 6 {
		t.Error(acked.Done, said)
	}
}

// A replica that knows as much as it may, all told: the last word has all done.
func TestMostRecsDone(t *testing.T) {
	r := impl.ReplicaNew(1, 7)
	for i := mostRecs - 1; i >= 0; i-- {
		var deps []impl.Dot
		if i > 0 {
			deps = otherDots(max(0, i-60), i)
		}
		m := impl.Msg{Kind: impl.MsgTell, From: otherDot(i).R, To: 1, D: otherDot(i), C: cmd(fmt.Sprint("put k=", i)), Deps: deps}
		if len(r.Done) != 0 {
			t.Fatal(i, r.Done)
		}
		r, _ = impl.Hear(r, m)
	}
	mustStand(t, "all told", r)
	if !slices.Equal(r.Done, otherDots(0, mostRecs)) || !same(r.Map, pairs("k=89")) {
		t.Error(r.Done, r.Map)
	}
}

func TestMostDepsOfSubmit(t *testing.T) {
	for _, x := range []struct {
		n    int
		c    string
		deps int
	}{
		{59, "put k=1", 59}, {60, "put k=1", 60}, {60, "get k", 60}, {60, "del k", 60}, {61, "put k=1", -1}, {61, "get k", -1}, {61, "del k", -1}, {90, "put k=1", -1}, {89, "put x=1", 0},
	} {
		r := knowing(x.n, "put k=1", "del k")
		next, said, d := mustSubmit(t, x.c, r, cmd(x.c))
		if x.deps < 0 {
			if !same(next, r) || len(said) != 0 || d != (impl.Dot{}) {
				t.Error(x, d)
			}
			continue
		}
		if len(next.Recs) != x.n+1 || len(next.Recs[0].Deps) != x.deps || len(said) != 6 || len(said[5].Deps) != x.deps {
			t.Error(x, d)
		}
		mustStand(t, x.c, next)
	}
	// Those that do not meet it do not count.
	mixed := knowing(89, "put k=1", "get l", "get k")
	if next, _, _ := mustSubmit(t, "mixed", mixed, cmd("get k")); len(next.Recs) != 90 || len(next.Recs[0].Deps) != 30 {
		t.Error(len(next.Recs))
	}
	if next, _, _ := mustSubmit(t, "mixed", mixed, cmd("del k")); len(next.Recs) != 90 || len(next.Recs[0].Deps) != 59 {
		t.Error(len(next.Recs))
	}
	if next, _, _ := mustSubmit(t, "61 of the key, of which one is a get", withOneGet(knowing(61, "put k=1")), cmd("get k")); len(next.Recs) != 62 {
		t.Error(len(next.Recs))
	}
}

func withOneGet(r impl.Replica) impl.Replica {
	r.Recs[30].C = cmd("get k")
	return r
}

func TestMostDepsOfAnAsk(t *testing.T) {
	fresh := impl.Dot{R: 7, N: 500}
	for _, x := range []struct{ known, from, to, deps int }{
		{0, 0, 60, 60}, {60, 0, 0, 60}, {60, 0, 60, 60}, {30, 30, 60, 60}, {30, 0, 60, 60}, {59, 58, 60, 60}, {1, 1, 60, 60},
		{61, 0, 0, -1}, {60, 60, 61, -1}, {1, 1, 61, -1}, {30, 30, 61, -1}, {60, 0, 61, -1}, {61, 0, 60, -1}, {31, 40, 70, -1},
	} {
		r := knowing(x.known, "put k=1")
		m := impl.Msg{Kind: impl.MsgAsk, From: 7, To: 1, D: fresh, C: cmd("get k"), Deps: otherDots(x.from, x.to)}
		next, said := mustHear(t, "ask", r, m)
		if x.deps < 0 {
			if !same(next, r) || len(said) != 0 {
				t.Error(x, said)
			}
			continue
		}
		if len(next.Recs) != x.known+1 || len(said) != 1 || len(said[0].Deps) != x.deps || said[0].D != fresh || said[0].To != 7 {
			t.Error(x, said)
		}
		mustStand(t, "ask", next)
	}
}

func TestMostDepsOfAnAck(t *testing.T) {
	for _, x := range []struct{ known, from, to, deps int }{
		{0, 0, 60, 60}, {60, 0, 0, 60}, {60, 0, 60, 60}, {60, 10, 20, 60}, {30, 30, 60, 60}, {30, 0, 60, 60}, {59, 59, 60, 60}, {0, 0, 0, 0},
		{60, 60, 61, -1}, {30, 30, 61, -1}, {1, 1, 61, -1}, {60, 5, 61, -1}, {0, 0, 61, -1}, {60, 61, 90, -1}, {40, 50, 71, -1},
	} {
		r, _, d := mustSubmit(t, "ack", knowing(x.known, "put k=1"), cmd("get k"))
		for i, from := range []int{2, 3, 4} {
			m := impl.Msg{Kind: impl.MsgAck, From: from, To: 1, D: d, Deps: otherDots(x.from, x.to)}
			next, said := mustHear(t, "ack", r, m)
			mustStand(t, "ack", next)
			if x.deps < 0 {
				if !same(next, r) || len(said) != 0 || len(next.Acks) != 1 {
					t.Error(x, said)
				}
				continue
			}
			if len(next.Recs[0].Deps) != x.deps || next.Recs[0].Sure != (i == 2) || len(said) != 6*(i/2) {
				t.Error(x, i, said)
			}
			r = next
		}
	}
	// The last ack that is needed brings too much: nothing at all, until another one comes.
	r, _, d := mustSubmit(t, "ack", knowing(50, "put k=1"), cmd("get k"))
	for _, from := range []int{2, 3} {
		r, _ = mustHear(t, "ack", r, impl.Msg{Kind: impl.MsgAck, From: from, To: 1, D: d})
	}
	much := impl.Msg{Kind: impl.MsgAck, From: 5, To: 1, D: d, Deps: otherDots(50, 61)}
	if next, said := mustHear(t, "too much", r, much); !same(next, r) || len(said) != 0 {
		t.Error(said)
	}
	much.Deps = much.Deps[1:]
	next, said := mustHear(t, "just enough", r, much)
	if !next.Recs[0].Sure || len(said) != 6 || len(said[0].Deps) != 60 || len(next.Acks) != 0 {
		t.Error(said)
	}
	// Of what is Sure nothing counts any more.
	if last, said := mustHear(t, "Sure", next, impl.Msg{Kind: impl.MsgAck, From: 6, To: 1, D: d, Deps: otherDots(61, 70)}); !same(last, next) || len(said) != 0 {
		t.Error(said)
	}
}

func TestMostDepsOfATell(t *testing.T) {
	r := knowing(3, "put k=1")
	for _, d := range []impl.Dot{{R: 7, N: 500}, otherDot(1)} {
		m := impl.Msg{Kind: impl.MsgTell, From: d.R, To: 1, D: d, C: cmd("put k=1"), Deps: otherDots(3, 63)}
		next, said := mustHear(t, "most", r, m)
		at := slices.IndexFunc(next.Recs, func(x impl.Rec) bool { return x.D == d })
		if at < 0 || !next.Recs[at].Sure || len(next.Recs[at].Deps) != 60 || len(said) != 0 || len(next.Done) != 0 {
			t.Error(d, showReplica(next))
		}
		mustStand(t, "most", next)
		m.Deps = otherDots(3, 64)
		if next, said := mustHear(t, "one too many", r, m); !same(next, r) || len(said) != 0 || impl.MsgOk(r, m) {
			t.Error(d, said)
		}
	}
}

func someCmd(r *rand.Rand) impl.Cmd {
	c := impl.Cmd{Kind: 1 + r.Intn(3), Key: []string{"k", "l", "kk"}[r.Intn(3)]}
	if c.Kind == impl.CmdPut {
		c.Val = fmt.Sprint(r.Intn(5))
	}
	return c
}

// someDots are some of a few, ascending.
func someDots(r *rand.Rand, n int, most int) []impl.Dot {
	var out []impl.Dot
	for range r.Intn(most + 1) {
		out = append(out, impl.Dot{R: 1 + r.Intn(n), N: 1 + r.Intn(4)})
	}
	return slices.Compact(sortDots(out))
}

// A walk is a talk with words on their way, moved by chance.
type walk struct {
	*talk
	r   *rand.Rand
	net []impl.Msg
}

func newWalk(t *testing.T, r *rand.Rand, n int) *walk {
	return &walk{talk: newTalk(t, n), r: r}
}

// say is a step of one replica: a command, its words again, or a Reboot.
func (w *walk) say() {
	id := 1 + w.r.Intn(len(w.reps))
	switch w.r.Intn(6) {
	case 0:
		w.net = append(w.net, impl.Again(w.at(id))...)
	case 1:
		w.reboot(id)
	default:
		next, said, _ := mustSubmit(w.t, "walk", w.at(id), someCmd(w.r))
		w.reps[id-1], w.net = next, append(w.net, said...)
	}
}

// move has some word heard, lost, or heard and kept to be heard again.
func (w *walk) move() {
	at := w.r.Intn(len(w.net))
	m, fate := w.net[at], w.r.Intn(10)
	if fate != 9 {
		w.net = slices.Delete(w.net, at, at+1)
	}
	if fate > 0 {
		w.take(m)
	}
}

func (w *walk) take(m impl.Msg) {
	next, said := mustHear(w.t, "walk", w.at(m.To), m)
	w.reps[m.To-1], w.net = next, append(w.net, said...)
}

// odd is a word that nobody said, right by its form more often than not.
func (w *walk) odd() {
	n := len(w.reps)
	d := impl.Dot{R: 1 + w.r.Intn(n), N: 1 + w.r.Intn(4)}
	m := impl.Msg{Kind: 1 + w.r.Intn(3), From: d.R, To: 1 + w.r.Intn(n), D: d, Deps: someDots(w.r, n, 4)}
	if m.Kind == impl.MsgAck {
		m.From, m.To = m.To, m.From
	} else {
		m.C = someCmd(w.r)
	}
	if w.r.Intn(4) == 0 {
		m = bentMsg(w.r, m)
	}
	if m.To >= 1 && m.To <= n {
		w.take(m)
	}
}

// stroll is one step or move.
func (w *walk) stroll() {
	switch k := w.r.Intn(8); {
	case k < 2 || len(w.net) == 0:
		w.say()
	default:
		w.move()
	}
}

// Replicas that hear what was said to them, in any order, not at all or often.
func TestWalksOfReplicas(t *testing.T) {
	r := rand.New(rand.NewSource(9))
	done := 0
	for i := range 60 {
		w := newWalk(t, r, []int{1, 2, 3, 5, 7, 3}[i%6])
		for range 80 {
			w.stroll()
		}
		for _, x := range w.reps {
			mustStand(t, "walk", x)
			done += len(x.Done)
		}
		if t.Failed() {
			return
		}
	}
	if done < 500 {
		t.Error("done:", done)
	}
}

// Replicas that hear anything stay right.
func TestReplicasThatHearAnything(t *testing.T) {
	r := rand.New(rand.NewSource(91))
	done := 0
	for i := range 60 {
		w := newWalk(t, r, []int{1, 2, 3, 5, 7, 4}[i%6])
		for range 80 {
			if r.Intn(2) == 0 {
				w.odd()
			} else {
				w.stroll()
			}
		}
		for _, x := range w.reps {
			mustStand(t, "anything", x)
			done += len(x.Done)
		}
		if t.Failed() {
			return
		}
	}
	if done < 300 {
		t.Error("done:", done)
	}
}

func FuzzReplica(f *testing.F) {
	f.Add([]byte{2, 0, 1, 2, 3, 4, 5, 6, 7})
	f.Add([]byte("a replica that hears anything stays right"))
	f.Fuzz(func(t *testing.T, b []byte) {
		seed := int64(1)
		for _, c := range b[:min(len(b), 40)] {
			seed = seed*257 + int64(c)
		}
		r := rand.New(rand.NewSource(seed))
		w := newWalk(t, r, 1+r.Intn(7))
		for _, c := range b[:min(len(b), 60)] {
			switch {
			case c%3 == 0:
				w.odd()
			case c%3 == 1 && len(w.net) > 0:
				w.move()
			default:
				w.say()
			}
		}
		for _, x := range w.reps {
			mustStand(t, "fuzz", x)
		}
	})
}
