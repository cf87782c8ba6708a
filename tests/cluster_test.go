package tests

import (
	"fmt"
	"math"
	"math/rand"
	"slices"
	"strings"
	"testing"

	"loop.example/g00184/impl"
)

func TestClusterConstants(t *testing.T) {
	if impl.MaxNet != 500 || impl.MaxEvents != 200 {
		t.Error(impl.MaxNet, impl.MaxEvents)
	}
	kinds := []int{impl.EvSubmit, impl.EvDeliver, impl.EvDrop, impl.EvDouble, impl.EvAgain, impl.EvReboot}
	if !slices.Equal(kinds, []int{1, 2, 3, 4, 5, 6}) {
		t.Error(kinds)
	}
}

func TestClusterNew(t *testing.T) {
	for n := 1; n <= 7; n++ {
		w := impl.ClusterNew(n)
		if len(w.Reps) != n || len(w.Net) != 0 || len(w.Asked) != 0 || !impl.ClusterOk(w) {
			t.Error(n, showCluster(w))
		}
		for i, r := range w.Reps {
			if !same(r, impl.Replica{Id: i + 1, N: n, Next: 1}) {
				t.Error(n, i, showReplica(r))
			}
		}
	}
	for _, n := range []int{math.MinInt, -1000, -1, 0, 8, 9, 100, math.MaxInt} {
		w := impl.ClusterNew(n)
		if !same(w, impl.Cluster{}) {
			t.Error(n, showCluster(w))
		}
		mustBeNoCluster(t, fmt.Sprint(n), w)
	}
}

// Three, all words in their order: what is in Reps, Net and Asked behind each event.
func TestAClusterOfThree(t *testing.T) {
	s := newStage(t, 3)
	s.do("submit 0 put k=1")
	s.net("ask 1>2 1.1 put k=1", "ask 1>3 1.1 put k=1")
	s.asked("1.1 put k=1")
	s.is(1, "next 2; 1.1 put k=1; acks 1.1<1")
	s.is(2, "next 1")
	s.is(3, "next 1")

	s.do("deliver 0")
	s.net("ask 1>3 1.1 put k=1", "ack 2>1 1.1")
	s.asked("1.1 put k=1")
	s.is(1, "next 2; 1.1 put k=1; acks 1.1<1")
	s.is(2, "next 1; 1.1 put k=1")
	s.is(3, "next 1")

	s.do("deliver 0")
	s.net("ack 2>1 1.1", "ack 3>1 1.1")
	s.is(3, "next 1; 1.1 put k=1")

	s.do("deliver 0")
	s.net("ack 3>1 1.1", "tell 1>2 1.1 put k=1", "tell 1>3 1.1 put k=1")
	s.is(1, "next 2; 1.1 put k=1 sure; done 1.1; map k=1; said 1.1-")
	s.is(2, "next 1; 1.1 put k=1")

	s.do("deliver 0")
	s.net("tell 1>2 1.1 put k=1", "tell 1>3 1.1 put k=1")
	s.do("deliver 0")
	s.net("tell 1>3 1.1 put k=1")
	s.is(2, "next 1; 1.1 put k=1 sure; done 1.1; map k=1")
	s.is(3, "next 1; 1.1 put k=1")

	s.do("submit 2 get k")
	s.net("tell 1>3 1.1 put k=1", "ask 3>1 3.1 get k :1.1", "ask 3>2 3.1 get k :1.1")
	s.asked("1.1 put k=1", "3.1 get k <1.1")
	s.is(3, "next 2; 1.1 put k=1, 3.1 get k :1.1; acks 3.1<3")
	s.do("deliver 0; deliver 0; deliver 0; deliver 0")
	s.net("ack 2>3 3.1 :1.1", "tell 3>1 3.1 get k :1.1", "tell 3>2 3.1 get k :1.1")
	s.is(3, "next 2; 1.1 put k=1 sure, 3.1 get k :1.1 sure; done 1.1 3.1; map k=1; said 3.1=1")
	s.do("deliver 0; deliver 0; deliver 0")
	s.net()
	s.asked("1.1 put k=1", "3.1 get k <1.1")
	s.is(1, "next 2; 1.1 put k=1 sure, 3.1 get k :1.1 sure; done 1.1 3.1; map k=1; said 1.1-")
	s.is(2, "next 1; 1.1 put k=1 sure, 3.1 get k :1.1 sure; done 1.1 3.1; map k=1")
}

// What is at places in the midst of Net, and what stays where.
func TestWordsInTheMidstOfNet(t *testing.T) {
	s := newStage(t, 3)
	s.do("submit 0 put k=1; submit 1 put l=2")
	a, b, c, d := "ask 1>2 1.1 put k=1", "ask 1>3 1.1 put k=1", "ask 2>1 2.1 put l=2", "ask 2>3 2.1 put l=2"
	s.net(a, b, c, d)
	start := s.w

	s.do("deliver 1")
	s.net(a, c, d, "ack 3>1 1.1")
	s.w = start
	s.do("deliver 3")
	s.net(a, b, c, "ack 3>2 2.1")
	s.w = start
	s.do("drop 1")
	s.net(a, c, d)
	s.do("drop 2")
	s.net(a, c)
	s.do("drop 0")
	s.net(c)
	s.w = start
	s.do("double 1")
	s.net(a, b, c, d, b)
	s.do("double 4")
	s.net(a, b, c, d, b, b)
	s.do("double 0")
	s.net(a, b, c, d, b, b, a)
	if !same(s.w.Reps, start.Reps) || !same(s.w.Asked, start.Asked) {
		t.Error(showCluster(s.w))
	}
	s.refuse("deliver 7")
	s.refuse("drop 7")
	s.refuse("double 7")
	s.refuse("deliver -1")
	s.refuse("drop -1")
	s.refuse("double -1")
}

func TestAgainAndRebootInACluster(t *testing.T) {
	s := newStage(t, 3)
	s.do("again 0; reboot 0; again 2; reboot 2")
	if !same(s.w, impl.ClusterNew(3)) {
		t.Error(showCluster(s.w))
	}
	s.do("submit 1 put k=1; submit 1 get k; drop 0; drop 0; drop 0; drop 0")
	s.net()
	s.do("again 0; again 2")
	s.net()
	s.do("again 1")
	s.net("ask 2>1 2.1 put k=1", "ask 2>3 2.1 put k=1", "ask 2>1 2.2 get k :2.1", "ask 2>3 2.2 get k :2.1")
	s.do("deliver 0; deliver 0; deliver 2")
	s.net("ask 2>1 2.2 get k :2.1", "ask 2>3 2.2 get k :2.1", "ack 3>2 2.1", "tell 2>1 2.1 put k=1", "tell 2>3 2.1 put k=1")
	s.do("deliver 0; deliver 4")
	s.is(2, "next 3; 2.1 put k=1 sure, 2.2 get k :2.1 sure; done 2.1 2.2; map k=1; said 2.1- 2.2=1")
	s.do("again 1")
	s.net("ask 2>3 2.2 get k :2.1", "ack 3>2 2.1", "tell 2>1 2.1 put k=1", "tell 2>3 2.1 put k=1", "tell 2>1 2.2 get k :2.1", "tell 2>3 2.2 get k :2.1",
		"tell 2>1 2.1 put k=1", "tell 2>3 2.1 put k=1", "tell 2>1 2.2 get k :2.1", "tell 2>3 2.2 get k :2.1")
	s.asked("2.1 put k=1", "2.2 get k")

	// Who held it is forgotten by a Reboot of who was asked, of no other one.
	s = newStage(t, 5)
	s.do("submit 0 put k=1; deliver 0; deliver 3")
	s.is(1, "next 2; 1.1 put k=1; acks 1.1<1 1.1<2")
	s.do("reboot 1; reboot 4")
	s.is(1, "next 2; 1.1 put k=1; acks 1.1<1 1.1<2")
	s.do("reboot 0")
	s.is(1, "next 2; 1.1 put k=1; acks 1.1<1")
	s.net("ask 1>3 1.1 put k=1", "ask 1>4 1.1 put k=1", "ask 1>5 1.1 put k=1")
	s.do("deliver 0; deliver 2")
	s.is(1, "next 2; 1.1 put k=1; acks 1.1<1 1.1<3")
	s.asked("1.1 put k=1")
}

// Alone, each command is answered at once: ahead of it are those that were asked for ahead of it.
func TestAClusterOfOne(t *testing.T) {
	s := newStage(t, 1)
	s.do("submit 0 put k=1; submit 0 get k; submit 0 del k; submit 0 get k")
	s.net()
	s.asked("1.1 put k=1", "1.2 get k <1.1", "1.3 del k <1.1,1.2", "1.4 get k <1.1,1.2,1.3")
	s.do("again 0; reboot 0")
	s.net()
	if got := s.w.Reps[0].Said; len(got) != 4 || !got[1].Has || got[3].Has {
		t.Error(got)
	}
	for _, text := range []string{"deliver 0", "drop 0", "double 0", "deliver 1", "submit 1 put k=1", "again 1", "reboot 1", "submit -1 put k=1"} {
		s.refuse(text)
	}
}

// Two hold what one of two was asked for when the other one acked it, and not ahead of that.
func TestAClusterOfTwo(t *testing.T) {
	s := newStage(t, 2)
	s.do("submit 0 put k=1; submit 1 put k=2")
	s.net("ask 1>2 1.1 put k=1", "ask 2>1 2.1 put k=2")
	s.do("deliver 1; deliver 0")
	s.net("ack 1>2 2.1 :1.1", "ack 2>1 1.1 :2.1")
	s.do("deliver 0; deliver 0")
	s.net("tell 2>1 2.1 put k=2 :1.1", "tell 1>2 1.1 put k=1 :2.1")
	s.is(1, "next 2; 1.1 put k=1 :2.1 sure, 2.1 put k=2 :1.1")
	// Neither is answered yet: each waits for the other.
	s.do("submit 0 get k")
	s.do("deliver 0; deliver 0")
	s.is(1, "next 3; 1.1 put k=1 :2.1 sure, 1.2 get k :1.1,2.1, 2.1 put k=2 :1.1 sure; acks 1.2<1; done 1.1 2.1; map k=2; said 1.1-")
	s.do("submit 1 get k")
	s.asked("1.1 put k=1", "2.1 put k=2", "1.2 get k", "2.2 get k <1.1,2.1")
}

// A busy cluster has commands of all replicas on their way, and words of each kind.
func busyCluster(n int) impl.Cluster {
	w := impl.ClusterNew(n)
	for i := range n {
		w, _ = impl.Do(w, impl.Event{Kind: impl.EvSubmit, Rep: i, C: cmd(fmt.Sprint("put k=", i))})
	}
	w = impl.Play(w, slices.Repeat(events("deliver 0; deliver 3; double 1; deliver 2"), n))
	w, _ = impl.Do(w, event(fmt.Sprint("submit ", n-1, " get k")))
	return w
}

// Each kind of event, at each replica and at each place of Net, and past all of them.
func TestEachEventAtEachPlace(t *testing.T) {
	for _, n := range []int{1, 2, 3, 5, 7} {
		w := busyCluster(n)
		if !impl.ClusterOk(w) || n > 1 && len(w.Net) < n {
			t.Fatal(n, showCluster(w))
		}
		done := 0
		for kind := -1; kind <= 8; kind++ {
			for rep := -1; rep <= n; rep++ {
				for _, c := range []string{"put x=1", "get k"} {
					done += mustHappen(t, w, impl.Event{Kind: kind, Rep: rep, C: cmd(c)})
				}
			}
			for at := -1; at <= len(w.Net); at++ {
				done += mustHappen(t, w, impl.Event{Kind: kind, At: at})
			}
		}
		// With a Rep: two Submits, two Again and two Reboot of each; with an At, whatever it is, an Again and a Reboot
		// of the first. With an At: a Deliver, a Drop and a Double of each word; with a Rep, whatever it is, two of the first.
		want := 2*n + 4*n + 2*(len(w.Net)+2) + 3*len(w.Net)
		if n > 1 {
			want += 3 * 2 * (n + 2)
		}
		if done != want {
			t.Error(n, "done:", done, "not", want)
		}
	}
}

func mustHappen(t *testing.T, w impl.Cluster, e impl.Event) int {
	t.Helper()
	if _, ok := mustDoEvent(t, "each", w, e); ok {
		return 1
	}
	return 0
}

func TestEdgesOfRepAndAt(t *testing.T) {
	for _, n := range []int{1, 2, 3, 5, 7} {
		w := busyCluster(n)
		for _, place := range []int{math.MinInt, -1, 0, n - 1, n, n + 1, math.MaxInt} {
			for _, kind := range []int{impl.EvSubmit, impl.EvAgain, impl.EvReboot} {
				_, ok := mustDoEvent(t, "Rep", w, impl.Event{Kind: kind, Rep: place, C: cmd("put x=1")})
				if ok != (place == 0 || place == n-1) {
					t.Error(n, kind, "Rep", place, ok)
				}
			}
		}
		last := len(w.Net) - 1
		for _, place := range []int{math.MinInt, -1, 0, last, last + 1, last + 2, math.MaxInt} {
			for _, kind := range []int{impl.EvDeliver, impl.EvDrop, impl.EvDouble} {
				_, ok := mustDoEvent(t, "At", w, impl.Event{Kind: kind, At: place})
				if ok != (last >= 0 && (place == 0 || place == last)) {
					t.Error(n, kind, "At", place, ok)
				}
			}
		}
	}
}

func TestKindsOfEvents(t *testing.T) {
	w := busyCluster(3)
	for _, kind := range []int{math.MinInt, -6, -1, 0, 7, 8, 12, math.MaxInt} {
		mustRefuseEvent(t, "Kind", w, impl.Event{Kind: kind, C: cmd("put x=1")})
		mustRefuseEvent(t, "Kind", w, impl.Event{Kind: kind})
	}
	for kind := 1; kind <= 6; kind++ {
		if _, ok := mustDoEvent(t, "Kind", w, impl.Event{Kind: kind, C: cmd("put x=1")}); !ok {
			t.Error(kind)
		}
	}
}

// What a kind does not name is not asked for.
func TestWhatAnEventDoesNotName(t *testing.T) {
	w := busyCluster(3)
	for _, odd := range []int{math.MinInt, -1, 2, 3, 1000, math.MaxInt} {
		for _, c := range []impl.Cmd{{}, cmd("put x=1"), {Kind: 9, Val: long + "x"}} {
			for _, kind := range []int{impl.EvDeliver, impl.EvDrop, impl.EvDouble} {
				got, ok := mustDoEvent(t, "Rep", w, impl.Event{Kind: kind, Rep: odd, At: 1, C: c})
				if want, _ := impl.Do(w, impl.Event{Kind: kind, At: 1}); !ok || !same(got, want) {
					t.Error(kind, odd, c, ok)
				}
			}
			for _, kind := range []int{impl.EvAgain, impl.EvReboot} {
				got, ok := mustDoEvent(t, "At", w, impl.Event{Kind: kind, Rep: 1, At: odd, C: c})
				if want, _ := impl.Do(w, impl.Event{Kind: kind, Rep: 1}); !ok || !same(got, want) {
					t.Error(kind, odd, c, ok)
				}
			}
		}
		got, ok := mustDoEvent(t, "At", w, impl.Event{Kind: impl.EvSubmit, Rep: 1, At: odd, C: cmd("put x=1")})
		if want, _ := impl.Do(w, event("submit 1 put x=1")); !ok || !same(got, want) {
			t.Error("submit", odd, ok)
		}
	}
}

// mustBeQuiet asks of a cluster without words that all is known, done and answered everywhere.
func mustBeQuiet(t *testing.T, what string, w impl.Cluster) {
	t.Helper()
	answered := 0
	for _, r := range w.Reps {
		answered += len(r.Said)
		if len(r.Recs) != len(w.Asked) || len(r.Done) != len(w.Asked) || !same(r.Map, w.Reps[0].Map) {
			t.Errorf("%s: %s", what, showCluster(w))
		}
	}
	if answered != len(w.Asked) || len(w.Net) != 0 || !impl.ClusterOk(w) {
		t.Errorf("%s: answered %d: %s", what, answered, showCluster(w))
	}
}

// Whole exchanges of each size: the words in their order, the newest first, each doubled, each lost and said again.
func TestExchangesOfClusters(t *testing.T) {
	for _, n := range []int{1, 2, 3, 5, 7} {
		start := newStage(t, n)
		for i := range n {
			start.do(fmt.Sprint("submit ", i, " put k=", i, "; submit ", i, " get l"))
		}
		for what, next := range map[string]func(step int, words int) []string{
			"in order":         func(step int, words int) []string { return []string{"deliver 0"} },
			"the newest first": func(step int, words int) []string { return []string{fmt.Sprint("deliver ", words-1)} },
			"in the midst":     func(step int, words int) []string { return []string{fmt.Sprint("deliver ", step%words)} },
			"doubled": func(step int, words int) []string {
				if words > 100 || step%3 != 0 {
					return []string{"deliver 0"}
				}
				return []string{"double 0", "deliver 0"}
			},
		} {
			s := &stage{t: t, w: start.w}
			for step := 0; len(s.w.Net) > 0; step++ {
				for _, text := range next(step, len(s.w.Net)) {
					s.w = mustMove(t, what, s.w, event(text))
				}
			}
			mustBeQuiet(t, what, s.w)
		}
		mustRecover(t, start.w)
	}
}

// mustMove is a step of a cluster that is right.
func mustMove(t *testing.T, what string, w impl.Cluster, e impl.Event) impl.Cluster {
	t.Helper()
	want, _ := slowEvent(w, e)
	got, ok := impl.Do(w, e)
	if !ok || !same(got, want) {
		t.Fatalf("%s: Do of %v with %s: %s, %v", what, e, showCluster(w), showCluster(got), ok)
	}
	return got
}

// mustRecover loses every second word until none is left, then has all say theirs again.
func mustRecover(t *testing.T, w impl.Cluster) {
	t.Helper()
	for step := 0; len(w.Net) > 0; step++ {
		w = mustMove(t, "lost", w, impl.Event{Kind: []int{impl.EvDeliver, impl.EvDrop}[step%2]})
	}
	for range 2 {
		for i := range w.Reps {
			w = mustMove(t, "again", w, impl.Event{Kind: impl.EvAgain, Rep: i})
			for len(w.Net) > 0 {
				w = mustMove(t, "again", w, impl.Event{Kind: impl.EvDeliver})
			}
		}
	}
	mustBeQuiet(t, "again", w)
}

// By hand: a word that comes twice, late, or not at all.
func TestDoubledAndLostWords(t *testing.T) {
	s := newStage(t, 3)
	s.do("submit 0 put k=1; double 0; drop 1; deliver 0; deliver 0")
	s.net("ack 2>1 1.1", "ack 2>1 1.1")
	s.is(2, "next 1; 1.1 put k=1")
	s.do("deliver 0")
	s.net("ack 2>1 1.1", "tell 1>2 1.1 put k=1", "tell 1>3 1.1 put k=1")
	s.do("deliver 0")
	s.net("tell 1>2 1.1 put k=1", "tell 1>3 1.1 put k=1")
	s.do("double 1; deliver 1; deliver 1; drop 0")
	s.net()
	s.is(2, "next 1; 1.1 put k=1")
	s.is(3, "next 1; 1.1 put k=1 sure; done 1.1; map k=1")
	s.do("submit 1 get k; again 0; deliver 2")
	s.is(2, "next 2; 1.1 put k=1 sure, 2.1 get k :1.1; acks 2.1<2; done 1.1; map k=1")
	s.net("ask 2>1 2.1 get k :1.1", "ask 2>3 2.1 get k :1.1", "tell 1>3 1.1 put k=1")
	s.asked("1.1 put k=1", "2.1 get k <1.1")
}

// Asked ahead of, between and behind answers, at the same replica and at others.
func TestWhatWasAnsweredAhead(t *testing.T) {
	s := newStage(t, 3)
	s.do("submit 2 put k=1; submit 0 put l=1; submit 2 put m=1")
	s.asked("3.1 put k=1", "1.1 put l=1", "3.2 put m=1")
	answer := func(ask string) {
		t.Helper()
		s.deliver(ask)
		s.do(fmt.Sprint("deliver ", len(s.w.Net)-1))
	}
	// The second of a replica is answered ahead of its first.
	answer("ask 3>2 3.2 put m=1")
	s.do("submit 1 get zz; submit 2 get zz; submit 0 get m")
	answer("ask 1>3 1.1 put l=1")
	s.do("submit 1 get m; submit 1 get l")
	answer("ask 3>1 3.1 put k=1")
	answer("ask 2>1 2.1 get zz")
	s.do("submit 0 del k; submit 1 put zz=1")
	want := []string{"3.1 put k=1", "1.1 put l=1", "3.2 put m=1", "2.1 get zz <3.2", "3.3 get zz <3.2", "1.2 get m <3.2", "2.2 get m <1.1,3.2", "2.3 get l <1.1,3.2",
		"1.3 del k <1.1,2.1,3.1,3.2", "2.4 put zz=1 <1.1,2.1,3.1,3.2"}
	s.asked(want...)
	// More is answered later, and what was asked for stays as it was.
	for len(s.w.Net) > 0 {
		s.do("deliver 0")
		s.asked(want...)
	}
	s.do("submit 2 put k=9")
	s.asked(append(want, "3.4 put k=9 <1.1,1.2,1.3,2.1,2.2,2.3,2.4,3.1,3.2,3.3")...)
	s.do("reboot 0; again 1; drop 0; double 0")
	s.asked(append(want, "3.4 put k=9 <1.1,1.2,1.3,2.1,2.2,2.3,2.4,3.1,3.2,3.3")...)
}

// What is Sure, or done by others, is not answered until who was asked did it.
func TestDoneByOthersIsNotAnswered(t *testing.T) {
	s := newStage(t, 3)
	s.do("submit 0 put k=1; submit 1 put k=2")
	s.deliver("ask 2>3 2.1 put k=2")
	s.deliver("ack 3>2 2.1")
	s.deliver("ask 1>3 1.1 put k=1")
	s.deliver("ack 3>1 1.1 :2.1")
	s.deliver("tell 2>3 2.1 put k=2")
	s.deliver("tell 1>3 1.1 put k=1 :2.1")
	s.is(3, "next 1; 1.1 put k=1 :2.1 sure, 2.1 put k=2 sure; done 2.1 1.1; map k=1")
	s.is(1, "next 2; 1.1 put k=1 :2.1 sure")
	s.do("submit 2 get k; submit 0 get k")
	s.deliver("tell 2>1 2.1 put k=2")
	s.is(1, "next 3; 1.1 put k=1 :2.1 sure, 1.2 get k :1.1, 2.1 put k=2 sure; acks 1.2<1; done 2.1 1.1; map k=1; said 1.1=2")
	s.do("submit 1 get k")
	s.asked("1.1 put k=1", "2.1 put k=2", "3.1 get k <2.1", "1.2 get k <2.1", "2.2 get k <1.1,2.1")
}

// All that is answered of seven replicas, twelve commands each, by numbers and not by texts.
func TestManyAnsweredAhead(t *testing.T) {
	w := impl.ClusterNew(7)
	for n := range 12 {
		for i := range 7 {
			w = mustMove(t, "many", w, impl.Event{Kind: impl.EvSubmit, Rep: 6 - i, C: cmd(fmt.Sprint("put k", i, "=", n))})
			if l := w.Asked[len(w.Asked)-1].Before; len(l) != 7*n+i || !slowDotsOk(l, mostAsked) {
				t.Fatal(n, i, l)
			}
			for len(w.Net) > 0 {
				next, ok := impl.Do(w, impl.Event{Kind: impl.EvDeliver})
				if !ok {
					t.Fatal("refused by ", showCluster(w))
				}
				w = next
			}
		}
	}
	mustBeQuiet(t, "many", w)
	if len(w.Asked) != 84 {
		t.Error(len(w.Asked))
	}
	for i := range 7 {
		mustRefuseEvent(t, "the thirteenth", w, impl.Event{Kind: impl.EvSubmit, Rep: i, C: cmd("put zz=1")})
	}
}

// Asked is not by Dots, and so are the words.
func TestAskedIsInTheOrderOfAsking(t *testing.T) {
	s := newStage(t, 5)
	s.do("submit 3 get a; submit 1 get a; submit 4 get a; submit 1 get b; submit 0 get c")
	s.asked("4.1 get a", "2.1 get a", "5.1 get a", "2.2 get b", "1.1 get c")
	var order []string
	for _, m := range showMsgs(s.w.Net) {
		if strings.Contains(m, ">3 ") {
			order = append(order, m)
		}
	}
	if !slices.Equal(order, []string{"ask 4>3 4.1 get a", "ask 2>3 2.1 get a", "ask 5>3 5.1 get a", "ask 2>3 2.2 get b", "ask 1>3 1.1 get c"}) {
		t.Error(order)
	}
}

// The same events by Do of each and as one Play, refused ones among them.
func TestOneByOneAsOnePlay(t *testing.T) {
	list := events("submit 0 put k=1; deliver 5; submit 3 put k=1; submit 1 get k; nothing 0; deliver 3; deliver 0; submit 0 put =; drop 9; deliver 1; double 0; deliver -1; " +
		"again 2; again 3; reboot 1; reboot -1; deliver 0; deliver 0; deliver 0; submit 2 del k; deliver 0; deliver 0; deliver 7; deliver 0")
	for _, n := range []int{1, 2, 3, 5, 7} {
		w := mustBeOnePlay(t, "by hand", impl.ClusterNew(n), list)
		if want := slowPlay(impl.ClusterNew(n), list); !same(w, want) {
			t.Errorf("%d: %s, not %s", n, showCluster(w), showCluster(want))
		}
		// A play in two is as one.
		for i := range list {
			if got := impl.Play(impl.Play(impl.ClusterNew(n), list[:i]), list[i:]); !same(got, w) {
				t.Error(n, i)
			}
		}
	}
	if w := impl.ClusterNew(4); !same(impl.Play(w, nil), w) {
		t.Error("a play of nothing")
	}
}

func TestWalksOfClusters(t *testing.T) {
	r := rand.New(rand.NewSource(10))
	refused, answered := 0, 0
	for i := range 60 {
		start := impl.ClusterNew([]int{1, 2, 3, 5, 7, 4}[i%6])
		w := start
		var list []impl.Event
		for range 60 {
			e := someEvent(r, w)
			list = append(list, e)
			want, wantOk := slowEvent(w, e)
			got, ok := impl.Do(w, e)
			if ok != wantOk || !same(got, want) {
				t.Fatalf("Do of %v with %s: %s, %v", e, showCluster(w), showCluster(got), ok)
			}
			if !ok {
				refused++
			}
			w = got
		}
		mustBeOnePlay(t, "walk", start, list)
		if !slowClusterOk(w) || !impl.ClusterOk(w) {
			t.Fatal("not right any more: ", showCluster(w))
		}
		for _, x := range w.Reps {
			answered += len(x.Said)
		}
	}
	if refused < 300 || answered < 150 {
		t.Error("refused:", refused, "answered:", answered)
	}
}

func FuzzCluster(f *testing.F) {
	f.Add([]byte{2, 0, 1, 2, 3, 4, 5, 6, 7})
	f.Add([]byte("events one by one are as one play"))
	f.Fuzz(func(t *testing.T, b []byte) {
		seed := int64(1)
		for _, c := range b[:min(len(b), 40)] {
			seed = seed*257 + int64(c)
		}
		r := rand.New(rand.NewSource(seed))
		start := impl.ClusterNew(1 + r.Intn(7))
		w := start
		var list []impl.Event
		for range 30 {
			e := someEvent(r, w)
			list = append(list, e)
			w, _ = mustDoEvent(t, "fuzz", w, e)
		}
		mustBeOnePlay(t, "fuzz", start, list)
	})
}
