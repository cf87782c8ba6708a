package tests

import (
	"fmt"
	"math/rand"
	"slices"
	"testing"

	"loop.example/g00184/impl"
)

// withoutTwins has each word in Net once, in the order of their texts, so that
// clusters that are as good as the same are told as the same.
func withoutTwins(w impl.Cluster) impl.Cluster {
	texts := showMsgs(w.Net)
	slices.Sort(texts)
	w.Net = nil
	for _, text := range slices.Compact(texts) {
		w.Net = append(w.Net, msg(text))
	}
	return w
}

// movesOf are the plays that may come next: a word that was said may come at
// any time from then on, again and again, or never; a replica may reboot; a
// command may be asked for at any time, those of one replica in their order.
func movesOf(w impl.Cluster, asked map[int][]string) [][]impl.Event {
	var out [][]impl.Event
	for at := range w.Net {
		out = append(out, []impl.Event{{Kind: impl.EvDouble, At: at}, {Kind: impl.EvDeliver, At: at}})
	}
	for i, r := range w.Reps {
		if list := asked[r.Id]; r.Next <= len(list) {
			out = append(out, []impl.Event{{Kind: impl.EvSubmit, Rep: i, C: cmd(list[r.Next-1])}})
		}
		out = append(out, []impl.Event{{Kind: impl.EvReboot, Rep: i}})
	}
	return out
}

// goAllAlong goes to all clusters that events lead to, asks something of each,
// and answers how many these are.
func goAllAlong(n int, asked map[int][]string, ask func(w impl.Cluster)) int {
	start := impl.ClusterNew(n)
	met := map[string]bool{showCluster(start): true}
	work := []impl.Cluster{start}
	for len(work) > 0 {
		w := work[len(work)-1]
		work = work[:len(work)-1]
		ask(w)
		for _, list := range movesOf(w, asked) {
			next := withoutTwins(impl.Play(w, list))
			if key := showCluster(next); !met[key] {
				met[key] = true
				work = append(work, next)
			}
		}
	}
	return len(met)
}

func TestSafeInAllOrders(t *testing.T) {
	for _, x := range []struct {
		n, least int
		asked    map[int][]string
	}{
		{1, 4, map[int][]string{1: {"put k=1", "get k", "del k"}}},
		{2, 80, map[int][]string{1: {"put k=1"}, 2: {"put k=2"}}},
		{2, 60, map[int][]string{1: {"put k=1"}, 2: {"get l"}}},
		{2, 1000, map[int][]string{1: {"put k=1", "get k"}, 2: {"del k"}}},
		{3, 10, map[int][]string{2: {"put k=1"}}},
		{3, 3000, map[int][]string{1: {"put k=1"}, 3: {"get k"}}},
		{3, 1000, map[int][]string{2: {"put k=1", "del k"}}},
		{5, 200, map[int][]string{4: {"put k=1"}}},
	} {
		met := goAllAlong(x.n, x.asked, func(w impl.Cluster) { mustBeSafe(t, "all along", w) })
		if met < x.least {
			t.Error("only", met, "of", x)
		}
	}
}

// stormEvent is done by w, but for some that are refused; few keys, so that most commands meet.
func stormEvent(r *rand.Rand, w impl.Cluster) impl.Event {
	e := impl.Event{Kind: impl.EvDeliver, Rep: r.Intn(len(w.Reps)), At: r.Intn(max(1, len(w.Net)))}
	switch k := r.Intn(100); {
	case k < 16:
		e.Kind = impl.EvSubmit
		e.C = impl.Cmd{Kind: 1 + r.Intn(3), Key: []string{"k", "k", "k", "l"}[r.Intn(4)]}
		if e.C.Kind == impl.CmdPut {
			e.C.Val = fmt.Sprint(len(w.Asked))
		}
	case k < 24:
		e.Kind = impl.EvDrop
	case k < 30:
		e.Kind = impl.EvDouble
	case k < 37:
		e.Kind = impl.EvAgain
	case k < 41:
		e.Kind = impl.EvReboot
	}
	return e
}

// A tally counts what the clusters of a test had, so that none is safe for want of anything.
type tally struct {
	sureAlone, ahead, rings, parted int
}

func (x *tally) count(w impl.Cluster) {
	sure := map[impl.Dot][]impl.Rec{}
	for _, r := range w.Reps {
		for _, y := range r.Recs {
			if y.Sure {
				sure[y.D] = append(sure[y.D], y)
			}
		}
		if len(r.Done) != len(w.Reps[0].Done) {
			x.parted++
		}
	}
	for d, list := range sure {
		if len(list) == 1 && len(w.Reps) > 1 {
			x.sureAlone++
		}
		for _, other := range list[0].Deps {
			if len(sure[other]) > 0 && slices.Contains(sure[other][0].Deps, d) {
				x.rings++
			}
		}
	}
	for _, a := range w.Asked {
		for _, d := range a.Before {
			if b, _ := firstAsked(w.Asked, d); slowMeet(a.C, b.C) {
				x.ahead++
			}
		}
	}
}

// Behind each event of storms of commands, words in any order, lost and doubled, and reboots.
func TestSafeBehindEachEvent(t *testing.T) {
	r := rand.New(rand.NewSource(11))
	for _, n := range []int{1, 2, 3, 5, 7, 4, 6} {
		var seen tally
		for range 8 {
			w := impl.ClusterNew(n)
			for i := range 90 + 45*n {
				e := stormEvent(r, w)
				w, _ = impl.Do(w, e)
				if got := found(w); got != (finding{true, true, true, true, 0}) {
					t.Fatalf("behind %v: %+v: %s", e, got, showCluster(w))
				}
				mustComeAhead(t, "storm", w)
				if i%15 == 14 {
					mustBeSafe(t, "storm", w)
					seen.count(w)
				}
			}
		}
		if seen.ahead < 50 || n > 1 && (seen.sureAlone < 20 || seen.rings < 20 || seen.parted < 20) {
			t.Errorf("%d: %+v", n, seen)
		}
	}
}

// Events of which many are refused, too, as one play and one by one.
func TestSafeBehindAnyEvents(t *testing.T) {
	r := rand.New(rand.NewSource(111))
	for i := range 60 {
		w := impl.ClusterNew([]int{1, 2, 3, 5, 7}[i%5])
		var list []impl.Event
		one := w
		for range 80 {
			e := someEvent(r, one)
			list = append(list, e)
			one, _ = impl.Do(one, e)
			if got := impl.Safe(one); got != 0 {
				t.Fatalf("behind %v: %d: %s", e, got, showCluster(one))
			}
		}
		mustBeSafe(t, "play", impl.Play(w, list))
	}
}

// As many commands as there may be, of one key and of several, most words lost.
func TestSafeOfFullClusters(t *testing.T) {
	r := rand.New(rand.NewSource(112))
	for _, keys := range []int{1, 2, 7} {
		for _, n := range []int{1, 5, 7} {
			w := impl.ClusterNew(n)
			for step := range 12 * n {
				c := impl.Cmd{Kind: 1 + step%3, Key: fmt.Sprint("k", r.Intn(keys))}
				w = impl.Play(w, []impl.Event{{Kind: impl.EvSubmit, Rep: step % n, C: c}})
				for len(w.Net) > 3 {
					kind := []int{impl.EvDeliver, impl.EvDeliver, impl.EvDeliver, impl.EvDrop}[r.Intn(4)]
					w = impl.Play(w, []impl.Event{{Kind: kind, At: r.Intn(len(w.Net))}})
				}
				if got := impl.Safe(w); got != 0 {
					t.Fatal(n, keys, got, showCluster(w))
				}
			}
			mustBeSafe(t, "lost", w)
			for i := range n {
				w = impl.Play(w, []impl.Event{{Kind: impl.EvAgain, Rep: i}})
				for len(w.Net) > 0 {
					w = impl.Play(w, slices.Repeat([]impl.Event{{Kind: impl.EvDeliver}}, 50))
					if got := impl.Safe(w); got != 0 {
						t.Fatal(n, keys, got, showCluster(w))
					}
				}
			}
			mustBeSafe(t, "said again", w)
			if least := min(12*n, 61); len(w.Asked) < least {
				t.Error(n, keys, len(w.Asked))
			}
		}
	}
}

// By hand: what is Sure at one alone, and how it comes to be known.
func TestSafeByHand(t *testing.T) {
	s := newStage(t, 3)
	safe := func() {
		t.Helper()
		mustBeSafe(t, "by hand", s.w)
	}
	safe()
	s.do("submit 0 put k=1; submit 1 put k=2")
	safe()
	s.deliver("ask 1>3 1.1 put k=1")
	s.deliver("ack 3>1 1.1")
	s.is(1, "next 2; 1.1 put k=1 sure; done 1.1; map k=1; said 1.1-")
	safe()
	// Sure at the first alone: the second has it neither as Sure nor at all, and must come behind it.
	s.deliver("ask 2>3 2.1 put k=2")
	s.deliver("ack 3>2 2.1 :1.1")
	s.is(2, "next 2; 2.1 put k=2 :1.1 sure")
	safe()
	s.do("submit 2 get k")
	safe()
	s.deliver("ask 3>1 3.1 get k :1.1,2.1")
	s.deliver("ack 1>3 3.1 :1.1,2.1")
	s.is(3, "next 2; 1.1 put k=1, 2.1 put k=2 :1.1, 3.1 get k :1.1,2.1 sure")
	safe()
	s.do("reboot 0; reboot 1; reboot 2")
	safe()
	for len(s.w.Net) > 0 {
		s.do("deliver 0")
		safe()
	}
	s.is(3, "next 2; 1.1 put k=1 sure, 2.1 put k=2 :1.1 sure, 3.1 get k :1.1,2.1 sure; done 1.1 2.1 3.1; map k=2; said 3.1=2")

	// The same, but for one thing.
	for what, c := range map[string]struct {
		bend func(w *impl.Cluster)
		want int
	}{
		"as it is":                   {func(w *impl.Cluster) {}, 0},
		"other Deps at one":          {func(w *impl.Cluster) { w.Reps[0].Recs[2].Deps = dots("2.1") }, 2},
		"another order at one":       {func(w *impl.Cluster) { w.Reps[1] = redone(w.Reps[1], "2.1 1.1 3.1") }, 3},
		"an order of the get at one": {func(w *impl.Cluster) { w.Reps[1] = redone(w.Reps[1], "3.1 1.1 2.1") }, 0},
		"answered ahead of the put":  {func(w *impl.Cluster) { w.Asked[0].Before = dots("3.1") }, 4},
		"not asked for":              {func(w *impl.Cluster) { w.Asked = w.Asked[:2] }, 5},
		"an answer with a value":     {func(w *impl.Cluster) { w.Reps[2].Said[0].Val = "1" }, 1},
		"all words once more":        {func(w *impl.Cluster) { *w = impl.Play(*w, events("again 0; again 1; again 2")) }, 0},
		"one asked for once more":    {func(w *impl.Cluster) { *w = impl.Play(*w, events("submit 0 del k; deliver 0; deliver 1")) }, 0},
	} {
		w := ownCluster(s.w)
		c.bend(&w)
		if got := mustBeFound(t, what, w); got.safe != c.want {
			t.Errorf("%s: %+v", what, got)
		}
	}
}
