package tests

import (
	"fmt"
	"math/rand"
	"slices"
	"strings"
	"testing"

	"loop.example/g00184/impl"
)

// calmCluster is safe, and has something of all there is: Sure at all, at one
// alone and nowhere, done, waiting and answered, words of each kind.
func calmCluster() impl.Cluster {
	r := rand.New(rand.NewSource(116))
	w := impl.ClusterNew(5)
	for len(w.Asked) < 25 {
		e := stormEvent(r, w)
		if len(w.Net) > 30 {
			e = impl.Event{Kind: impl.EvDeliver, At: e.At}
		}
		w = impl.Play(w, []impl.Event{e})
	}
	return w
}

// talker is the replica that said the most.
func talker(w *impl.Cluster) *impl.Replica {
	most := &w.Reps[0]
	for i := range w.Reps {
		if len(w.Reps[i].Said) > len(most.Said) {
			most = &w.Reps[i]
		}
	}
	return most
}

func TestACalmCluster(t *testing.T) {
	w := calmCluster()
	mustBeSafe(t, "calm", w)
	var seen tally
	seen.count(w)
	answered, waiting := 0, 0
	for _, r := range w.Reps {
		answered += len(r.Said)
		for _, x := range r.Recs {
			if x.Sure && !slices.Contains(r.Done, x.D) {
				waiting++
			}
		}
	}
	if seen.sureAlone == 0 || seen.ahead == 0 || seen.rings == 0 || seen.parted == 0 || answered < 5 || waiting == 0 || len(w.Net) < 10 {
		t.Errorf("%+v, answered %d, waiting %d, words %d", seen, answered, waiting, len(w.Net))
	}
}

// What is not right, but for what one of the four asks: these hold as ever.
func TestSafeOfClustersThatAreNotRight(t *testing.T) {
	calm := calmCluster()
	bends := map[string]func(w *impl.Cluster){
		"a word of nothing": func(w *impl.Cluster) { w.Net = append(w.Net, impl.Msg{}) },
		"a word to nobody":  func(w *impl.Cluster) { w.Net[0].To = 9 },
		"too many words":    func(w *impl.Cluster) { *w = withWords(*w, "ask 1>2 1.1 put x=1", mostNet+1) },
		"an Asked too many": func(w *impl.Cluster) {
			for len(w.Asked) <= mostAsked {
				w.Asked = append(w.Asked, asked("7.9 put z=1"))
			}
		},
		"a wrong Cmd that was asked for": func(w *impl.Cluster) { w.Asked = append(w.Asked, impl.Asked{D: dot("7.9"), C: impl.Cmd{Kind: 9}}) },
		"an Asked of nothing":            func(w *impl.Cluster) { w.Asked = append(w.Asked, impl.Asked{}) },
		"no right Id":                    func(w *impl.Cluster) { w.Reps[0].Id = 0 },
		"no right N":                     func(w *impl.Cluster) { w.Reps[4].N = 8 },
		"no right Next":                  func(w *impl.Cluster) { w.Reps[2].Next = 99 },
		"no right Acks":                  func(w *impl.Cluster) { w.Reps[2].Acks = []impl.Ack{{}} },
		"no right Map":                   func(w *impl.Cluster) { w.Reps[2].Map = pairs("b=1 a-") },
		"replicas changed about":         func(w *impl.Cluster) { w.Reps[0], w.Reps[1] = w.Reps[1], w.Reps[0] },
		"the last replica is not there":  func(w *impl.Cluster) { w.Reps = w.Reps[:4] },
		"one replica too many":           func(w *impl.Cluster) { w.Reps = append(w.Reps, impl.Replica{}) },
		"eight replicas":                 func(w *impl.Cluster) { w.Reps = append(w.Reps, make([]impl.Replica, 3)...) },
		"Recs the other way about":       func(w *impl.Cluster) { slices.Reverse(w.Reps[1].Recs) },
		"Recs twice":                     func(w *impl.Cluster) { w.Reps[1].Recs = append(w.Reps[1].Recs, w.Reps[1].Recs...) },
		"Recs very often":                func(w *impl.Cluster) { w.Reps[1].Recs = slices.Repeat(w.Reps[1].Recs, 40) },
		"a Rec of nothing":               func(w *impl.Cluster) { w.Reps[1].Recs = append(w.Reps[1].Recs, impl.Rec{}) },
		"Done of what is not known": func(w *impl.Cluster) {
			w.Reps[1].Done = append(w.Reps[1].Done, dot("7.900"), impl.Dot{R: -1, N: 5000}, impl.Dot{})
		},
		"Done of what is not known, first": func(w *impl.Cluster) { w.Reps[1].Done = append(dots("7.900"), w.Reps[1].Done...) },
		"Said of less":                     func(w *impl.Cluster) { talker(w).Said = nil },
		"Said the other way about":         func(w *impl.Cluster) { slices.Reverse(talker(w).Said) },
	}
	for why, bend := range bends {
		w := ownCluster(calm)
		bend(&w)
		if got := mustBeFound(t, why, w); got != (finding{true, true, true, true, 1}) {
			t.Errorf("%s: %+v", why, got)
		}
	}
	// Each of the four says no where it is one that does not hold, whatever else is not right.
	texts := strings.Split("1: 1.1 put k=1 sure; 2: 2.1 put k=2 sure; asked 1.1 put k=1 <2.1; asked 2.1 put k=2; 3: 3.1 get z sure", "; ")
	for why, bend := range bends {
		w := clusterOf(5, texts...)
		w.Net = []impl.Msg{msg("ask 1>4 1.1 put k=1")}
		bend(&w)
		want := finding{false, false, false, false, 1}
		switch got := mustBeFound(t, why, w); why {
		case "Said of less", "Said the other way about", "Recs the other way about":
			// Of one Rec or answer this is no fault.
		default:
			if got != want {
				t.Errorf("%s: %+v", why, got)
			}
		}
	}
}

// All that chapter 10 names, one thing wrong each.
func TestSafeOfWrongClusters(t *testing.T) {
	full := fullCluster()
	all := map[string]impl.Cluster{"nothing": {}, "empty lists": {Reps: []impl.Replica{}, Net: []impl.Msg{}, Asked: []impl.Asked{}},
		"a word alone": {Net: []impl.Msg{msg("ask 1>2 1.1 put k=1")}}, "Asked alone": {Asked: []impl.Asked{asked("1.1 put k=1 <1.1"), {}}},
		"replicas of nothing": {Reps: make([]impl.Replica, 3)}, "very many of nothing": {Reps: make([]impl.Replica, 200), Net: make([]impl.Msg, 200), Asked: make([]impl.Asked, 200)},
		"501 words": withWords(full, "ask 1>2 1.1 put k=1", mostNet+1), "101 Asked": withAsked(full, mostAsked+1)}
	calm := calmCluster()
	put := func(why string, bend func(w *impl.Cluster)) {
		for base, w := range map[string]impl.Cluster{"full": full, "calm": calm} {
			w = ownCluster(w)
			bend(&w)
			all[base+": "+why] = w
		}
	}
	for why, r := range wrongReplicas() {
		put(why, func(w *impl.Cluster) { w.Reps[1] = r })
	}
	for why, c := range wrongCmds() {
		put("Asked "+why, func(w *impl.Cluster) { w.Asked = append(w.Asked, impl.Asked{D: dot("2.1"), C: c}) })
		put("Asked first "+why, func(w *impl.Cluster) { w.Asked[0].C = c })
		put("known "+why, func(w *impl.Cluster) { w.Reps[1].Recs[0].C = c })
	}
	for i := range 5 {
		put(fmt.Sprint("without ", i), func(w *impl.Cluster) { w.Reps = slices.Delete(w.Reps, i, i+1) })
		put(fmt.Sprint("twice ", i), func(w *impl.Cluster) { w.Reps = append(w.Reps, w.Reps[i]) })
		put(fmt.Sprint("in the place of the next ", i), func(w *impl.Cluster) { w.Reps[(i+1)%5] = w.Reps[i] })
	}
	words := 0
	for why, m := range wrongWords() {
		w := ownCluster(calm)
		w.Net = append(w.Net, m)
		if !slowClusterOk(w) {
			words++
			mustBeFoundWrong(t, why, w)
		}
	}
	if len(all) < 500 || words < 100 {
		t.Error("only", len(all), words)
	}
	for why, w := range all {
		mustBeFoundWrong(t, why, w)
	}
}

func mustBeFoundWrong(t *testing.T, why string, w impl.Cluster) {
	t.Helper()
	if got := mustBeFound(t, why, w); got.safe != 1 {
		t.Errorf("%s: %+v", why, got)
	}
}

// Clusters that are not right, by hand: what each of the four goes by.
func TestSafeOfOddClusters(t *testing.T) {
	texts := strings.Split("asked 1.1 put k=1; asked 2.1 put k=2; asked 1.2 get k <2.1; 1: 1.1 put k=1 sure; 1: 2.1 put k=2 :1.1 sure; 1: 1.2 get k :1.1,2.1 sure; 2: 1.1 put k=1 sure; 2: 2.1 put k=2 :1.1 sure", "; ")
	good := finding{true, true, true, true, 1}
	for what, c := range map[string]struct {
		bend func(w *impl.Cluster)
		want func(x *finding)
	}{
		"Recs the other way about": {func(w *impl.Cluster) { slices.Reverse(w.Reps[0].Recs) }, func(x *finding) {}},
		"Recs the other way about, Deps are not": {func(w *impl.Cluster) {
			slices.Reverse(w.Reps[0].Recs)
			w.Reps[0].Recs[0].Deps = nil
			w.Reps[0].Recs[1].Deps = nil
		}, func(x *finding) { x.ordered, x.timely = false, false }},
		"a Rec twice, the second with other Deps": {func(w *impl.Cluster) {
			w.Reps[1].Recs = append(w.Reps[1].Recs, rec("1.1 put k=1 :3.1 sure"))
		}, func(x *finding) { x.ordered = false }},
		"a Rec twice, the second not Sure": {func(w *impl.Cluster) {
			w.Reps[1].Recs = append(w.Reps[1].Recs, rec("1.1 put k=1 :3.1"))
		}, func(x *finding) {}},
		"a Rec twice, the second late": {func(w *impl.Cluster) {
			w.Reps[1].Recs = append(w.Reps[1].Recs, rec("1.2 get k :1.1 sure"))
		}, func(x *finding) { x.ordered, x.timely = false, false }},
		// Of several Recs with one Dot the first tells what was done.
		"a Rec twice, the second of another key": {func(w *impl.Cluster) {
			w.Reps[0].Recs = append(w.Reps[0].Recs, rec("2.1 put l=2"))
		}, func(x *finding) {}},
		"a Rec twice, the first of another key": {func(w *impl.Cluster) {
			w.Reps[0].Recs = append([]impl.Rec{rec("2.1 put l=2")}, w.Reps[0].Recs...)
		}, func(x *finding) { x.told = false }},
		"a Rec twice, the first a get, what was done ahead turned": {func(w *impl.Cluster) {
			w.Reps[0].Recs = append([]impl.Rec{rec("2.1 get k")}, w.Reps[0].Recs...)
			w.Reps[0].Done = dots("2.1 1.1 1.2")
		}, func(x *finding) { x.told = false }},
		"Done twice":                         {func(w *impl.Cluster) { w.Reps[1].Done = dots("1.1 2.1 1.1") }, func(x *finding) {}},
		"Done twice, and parted":             {func(w *impl.Cluster) { w.Reps[1].Done = dots("1.1 1.1 2.1") }, func(x *finding) { x.agreed = false }},
		"Done twice, the first place counts": {func(w *impl.Cluster) { w.Reps[0].Done = dots("1.1 2.1 1.2 1.1 1.2") }, func(x *finding) {}},
		"Done of what is not known":          {func(w *impl.Cluster) { w.Reps[0].Done = dots("3.3 1.1 7.7 2.1 3.3 1.2") }, func(x *finding) {}},
		"Done of what is not Sure":           {func(w *impl.Cluster) { w.Reps[0].Recs[2].Sure = false }, func(x *finding) {}},
		"done, answered, and not known": {func(w *impl.Cluster) { w.Reps[0].Recs = slices.Delete(w.Reps[0].Recs, 1, 2) },
			func(x *finding) {}},
		"known no more, so that another value was there": {func(w *impl.Cluster) { w.Reps[0].Recs = slices.Delete(w.Reps[0].Recs, 2, 3) },
			func(x *finding) { x.told = false }},
		"no key": {func(w *impl.Cluster) {
			for i := range 2 {
				w.Reps[i].Recs = append(w.Reps[i].Recs, impl.Rec{D: impl.Dot{R: 3, N: i + 1}, C: impl.Cmd{Kind: impl.CmdPut}, Sure: true})
				w.Reps[i].Done = append(w.Reps[i].Done, impl.Dot{R: 3, N: i + 1})
			}
		}, func(x *finding) { x.ordered, x.agreed = false, false }},
		"no kind": {func(w *impl.Cluster) {
			for i := range 2 {
				w.Reps[i].Recs = append(w.Reps[i].Recs, impl.Rec{D: impl.Dot{R: 3, N: i + 1}, Sure: true})
				w.Reps[i].Done = append(w.Reps[i].Done, impl.Dot{R: 3, N: i + 1})
			}
		}, func(x *finding) { x.ordered = false }},
		"Deps the other way about": {func(w *impl.Cluster) { slices.Reverse(w.Reps[0].Recs[1].Deps) }, func(x *finding) {}},
		"Deps the other way about at one of two": {func(w *impl.Cluster) {
			w.Reps[1].Recs = append(w.Reps[1].Recs, rec("1.2 get k :2.1,1.1 sure"))
		}, func(x *finding) { x.ordered = false }},
		"Before very long":       {func(w *impl.Cluster) { w.Asked[2].Before = slices.Repeat(dots("2.1 7.7 1.1"), 300) }, func(x *finding) {}},
		"Before of all, at last": {func(w *impl.Cluster) { w.Asked[1].Before = append(slices.Repeat(dots("7.7 1.1"), 300), dot("1.2")) }, func(x *finding) { x.timely = false }},
		"no key, ahead of it what was never asked for": {func(w *impl.Cluster) {
			w.Asked = append(w.Asked, impl.Asked{D: dot("3.1"), C: impl.Cmd{Kind: impl.CmdPut}, Before: dots("7.7")})
			w.Reps[2].Recs = []impl.Rec{{D: dot("3.1"), C: impl.Cmd{Kind: impl.CmdPut}, Sure: true}}
		}, func(x *finding) {}},
		"no key, ahead of it what has none": {func(w *impl.Cluster) {
			w.Asked = append(w.Asked, impl.Asked{D: dot("3.1"), C: impl.Cmd{Kind: impl.CmdPut}, Before: dots("7.7")}, impl.Asked{D: dot("7.7")})
			w.Reps[2].Recs = []impl.Rec{{D: dot("3.1"), C: impl.Cmd{Kind: impl.CmdPut}, Sure: true}}
		}, func(x *finding) { x.timely = false }},
		"an answer of nothing, which was asked for": {func(w *impl.Cluster) {
			w.Asked = append(w.Asked, impl.Asked{})
			w.Reps[2].Said = []impl.Answer{{}}
		}, func(x *finding) { x.told = false }},
		"an answer of nothing, which was asked for and done": {func(w *impl.Cluster) {
			w.Asked = append(w.Asked, impl.Asked{})
			w.Reps[2].Said = []impl.Answer{{}}
			w.Reps[2].Done = []impl.Dot{{}}
		}, func(x *finding) {}},
		"a del that has a Val": {func(w *impl.Cluster) {
			w.Reps[0].Recs[2].C = impl.Cmd{Kind: impl.CmdDel, Key: "k", Val: "2"}
			w.Reps[0].Said[1] = impl.Answer{D: dot("1.2")}
		}, func(x *finding) {}},
	} {
		w := clusterOf(3, texts...)
		if got := mustBeFound(t, "good", w); got != (finding{true, true, true, true, 0}) {
			t.Fatal(got, showCluster(w))
		}
		c.bend(&w)
		// Right or not is none of their business.
		w.Net = []impl.Msg{{}}
		want := good
		c.want(&want)
		if got := mustBeFound(t, what, w); got != want {
			t.Errorf("%s: %+v, not %+v: %s", what, got, want, showCluster(w))
		}
	}
}

// Clusters behind events of which something is changed, right or not then.
func TestSafeOfBentClusters(t *testing.T) {
	r := rand.New(rand.NewSource(114))
	numbers := map[int]int{}
	holds := map[string]int{}
	for i := range 60 {
		w := impl.ClusterNew([]int{1, 2, 3, 5, 7}[i%5])
		for range 70 {
			w, _ = impl.Do(w, stormEvent(r, w))
		}
		for range 40 {
			bent := w
			for range 1 + r.Intn(3) {
				bent = bentForSafe(r, bent)
			}
			got := mustBeFound(t, "bent", bent)
			numbers[got.safe]++
			for name, ok := range map[string]bool{"Ordered": got.ordered, "Agreed": got.agreed, "Timely": got.timely, "Told": got.told} {
				holds[fmt.Sprint(name, " ", ok)]++
			}
			if t.Failed() {
				return
			}
		}
	}
	for i := range 6 {
		if numbers[i] < 20 {
			t.Error("Safe", i, "only", numbers[i])
		}
	}
	if len(holds) != 8 || slices.Min([]int{holds["Ordered false"], holds["Agreed false"], holds["Timely false"], holds["Told false"]}) < 50 {
		t.Error(holds)
	}
}

func bentForSafe(r *rand.Rand, w impl.Cluster) impl.Cluster {
	if len(w.Reps) < 2 || len(w.Asked) < 3 {
		return bentCluster(r, impl.ClusterNew(3))
	}
	k := r.Intn(9)
	if k == 8 {
		return bentCluster(r, w)
	}
	w = ownCluster(w)
	x := &w.Reps[r.Intn(len(w.Reps))]
	a := &w.Asked[r.Intn(len(w.Asked))]
	other := w.Asked[r.Intn(len(w.Asked))].D
	switch {
	case k == 0:
		a.Before = append(a.Before, other)
	case k == 1:
		*a = w.Asked[0]
		w.Asked = w.Asked[1:]
	case k == 2:
		a.C = someCmd(r)
	case k == 3 && len(x.Done) > 1:
		done := slices.Clone(x.Done)
		i := r.Intn(len(done) - 1)
		done[i], done[i+1] = done[i+1], done[i]
		*x = redone(*x, showDots(done, " "))
	case k == 4 && len(x.Recs) > 0:
		y := &x.Recs[r.Intn(len(x.Recs))]
		y.Deps = slices.DeleteFunc(y.Deps, func(d impl.Dot) bool { return r.Intn(3) == 0 })
	case k == 5 && len(x.Said) > 0:
		x.Said = append(x.Said, w.Reps[0].Said...)
	case k == 6 && len(x.Said) > 0:
		x.Said[r.Intn(len(x.Said))].Has = r.Intn(2) == 0
	case k == 7:
		x.Done = append(x.Done, other)
	}
	return w
}

func TestMemoryOfSafe(t *testing.T) {
	all := clustersForMemory()
	all["calm"] = calmCluster()
	all["answered"] = clusterOf(3, strings.Split(answeredLife, "; ")...)
	for why, w := range all {
		var roomyFound finding
		checkMemory(t, why, []any{w}, func(args []any) []any {
			roomyFound = found(args[0].(impl.Cluster))
			return []any{roomyFound.safe, roomyFound.ordered}
		})
		// What lies behind a list is not read.
		if got := found(w); got != roomyFound {
			t.Errorf("%s: %+v, with room behind it %+v", why, got, roomyFound)
		}
	}
}

// What lies behind the length of a list is no part of a cluster, though it would be a fault there.
func TestSafeBehindTheLength(t *testing.T) {
	w := clusterOf(3, strings.Split(answeredLife, "; ")...)
	r := &w.Reps[0]
	r.Recs = append(r.Recs, rec("1.1 put k=1 :3.1 sure"), rec("3.3 put k=1 sure"))[:len(r.Recs)]
	r.Done = append(r.Done, dots("3.3 1.1")...)[:len(r.Done)]
	r.Said = append(r.Said, answers("1.1=7 9.9-")...)[:len(r.Said)]
	for i := range w.Asked {
		w.Asked[i].Before = append(w.Asked[i].Before, dots("1.7 1.6")...)[:len(w.Asked[i].Before)]
	}
	w.Asked = append(w.Asked, asked("1.1 put k=1 <1.7,1.6"))[:len(w.Asked)]
	w.Reps = append(w.Reps, replica("4/4", "4.1 put k=1 sure"))[:3]
	w.Net = append(w.Net, impl.Msg{})[:0]
	mustBeSafe(t, "behind", w)
}

// Nothing is kept from one call to another.
func TestSafeOneBehindTheOther(t *testing.T) {
	list := []impl.Cluster{calmCluster(), fullCluster(), impl.ClusterNew(3), {}, clusterOf(3, "1: 1.1 put k=1 sure", "2: 2.1 put k=2 sure")}
	var first []finding
	for _, w := range list {
		first = append(first, found(w))
	}
	for range 3 {
		for i, w := range slices.Backward(list) {
			if got := found(w); got != first[i] {
				t.Error(i, got, first[i])
			}
		}
	}
}

func FuzzSafe(f *testing.F) {
	f.Add([]byte{2, 0, 1, 2, 3, 4, 5, 6, 7})
	f.Add([]byte("what meets is ordered"))
	f.Fuzz(func(t *testing.T, b []byte) {
		seed := int64(1)
		for _, c := range b[:min(len(b), 40)] {
			seed = seed*257 + int64(c)
		}
		r := rand.New(rand.NewSource(seed))
		w := impl.ClusterNew(1 + r.Intn(7))
		for range 60 {
			w, _ = impl.Do(w, stormEvent(r, w))
			if got := impl.Safe(w); got != 0 {
				t.Fatalf("%d: %s", got, showCluster(w))
			}
		}
		mustBeSafe(t, "fuzz", w)
		for range 5 {
			w = bentForSafe(r, w)
			mustBeFound(t, "fuzz", w)
		}
	})
}
