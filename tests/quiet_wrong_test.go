package tests

import (
	"fmt"
	"math/rand"
	"reflect"
	"slices"
	"testing"

	"loop.example/g00184/impl"
)

// A cluster that a round would move is not moved where one thing is wrong.
func TestQuietOfClustersThatAreNotRight(t *testing.T) {
	for n := 2; n <= 7; n++ {
		base := busyCluster(n)
		if got := mustGoRound(t, "right", base, oneByOne(t)); same(got, base) || impl.Level(base) {
			t.Fatal(n, showCluster(base))
		}
		for what, bend := range map[string]func(w *impl.Cluster){
			"a word of nothing":       func(w *impl.Cluster) { w.Net = append(w.Net, impl.Msg{}) },
			"a word to nobody":        func(w *impl.Cluster) { w.Net[0].To = n + 1 },
			"a word to itself":        func(w *impl.Cluster) { w.Net[0].To = w.Net[0].From },
			"an ack of what is not":   func(w *impl.Cluster) { w.Net = append(w.Net, msg("ack 2>1 1.9")) },
			"501 words":               func(w *impl.Cluster) { *w = withWords(*w, "ask 1>2 1.1 put k=0", mostNet+1) },
			"101 Asked":               func(w *impl.Cluster) { *w = withAsked(*w, mostAsked+1) },
			"an Asked of nothing":     func(w *impl.Cluster) { w.Asked[0].C = impl.Cmd{} },
			"a wrong Asked":           func(w *impl.Cluster) { w.Asked[n-1].C.Key = "" },
			"no replicas":             func(w *impl.Cluster) { w.Reps = nil },
			"one replica less":        func(w *impl.Cluster) { w.Reps = w.Reps[:n-1] },
			"one replica more":        func(w *impl.Cluster) { w.Reps = append(w.Reps, impl.ReplicaNew(n+1, n+1)) },
			"eight replicas":          func(w *impl.Cluster) { w.Reps = append(w.Reps, make([]impl.Replica, 8-n)...) },
			"replicas changed about":  func(w *impl.Cluster) { w.Reps[0], w.Reps[n-1] = w.Reps[n-1], w.Reps[0] },
			"an Id":                   func(w *impl.Cluster) { w.Reps[n-1].Id = 1 },
			"an N":                    func(w *impl.Cluster) { w.Reps[0].N = n - 1 },
			"a Next":                  func(w *impl.Cluster) { w.Reps[n-1].Next++ },
			"Recs":                    func(w *impl.Cluster) { w.Reps[0].Recs = append(w.Reps[0].Recs, rec("1.1 put k=1")) },
			"Deps":                    func(w *impl.Cluster) { w.Reps[0].Recs[0].Deps = dots("2.1 1.2") },
			"a Cmd":                   func(w *impl.Cluster) { w.Reps[0].Recs[0].C.Kind = 0 },
			"Acks":                    func(w *impl.Cluster) { w.Reps[n-1].Acks = append(w.Reps[n-1].Acks, impl.Ack{}) },
			"Done":                    func(w *impl.Cluster) { w.Reps[n-1].Done = append(w.Reps[n-1].Done, dot("7.7")) },
			"Map":                     func(w *impl.Cluster) { w.Reps[0].Map = append(w.Reps[0].Map, impl.Pair{Key: "zz"}) },
			"Said":                    func(w *impl.Cluster) { w.Reps[0].Said = append(w.Reps[0].Said, impl.Answer{D: dot("1.1")}) },
			"a replica of zero":       func(w *impl.Cluster) { w.Reps[n-1] = impl.Replica{} },
			"all that is right twice": func(w *impl.Cluster) { w.Reps = append(w.Reps, w.Reps...) },
		} {
			w := ownCluster(base)
			bend(&w)
			if impl.ClusterOk(w) || slowClusterOk(w) {
				t.Error(n, what, "is right")
			}
			mustNotBeMoved(t, fmt.Sprint(n, " ", what), w)
		}
		// The limits, met just so.
		mustGoRound(t, "500 words", withWords(base, "ask 1>2 1.1 put k=0", mostNet), impl.Play)
		mustGoRound(t, "100 Asked", withAsked(base, mostAsked), oneByOne(t))
	}
}

// Right clusters in which a round has words said that fit nobody: by Do nothing
// is done from then on, but a round goes on, and such words are lost.
func TestRoundAsksAtTheBeginningAlone(t *testing.T) {
	never := clusterOf(3, "3: 3.1 get k")
	never.Net = []impl.Msg{msg("ask 1>2 1.5 put k=1")}
	strange := clusterOf(3, "1: 1.1 put k=2", "2: 5.1 put k=1", "2: 2.1 put l=1", "3: 3.1 get k")
	for what, c := range map[string]struct {
		w  impl.Cluster
		is []string
	}{
		"an ack of what was never asked for": {never, []string{"next 1; 3.1 get k sure; done 3.1", "next 1; 1.5 put k=1, 3.1 get k sure; done 3.1", "next 2; 3.1 get k sure; done 3.1; said 3.1-"}},
		"Deps of none of N": {strange, []string{
			"next 2; 1.1 put k=2 :3.1 sure, 2.1 put l=1 sure, 3.1 get k :1.1 sure; done 2.1 1.1 3.1; map k=2 l=1; said 1.1-",
			"next 2; 1.1 put k=2 :3.1 sure, 2.1 put l=1 sure, 3.1 get k :1.1 sure, 5.1 put k=1; done 2.1 1.1 3.1; map k=2 l=1; said 2.1-",
			"next 2; 1.1 put k=2 :3.1 sure, 2.1 put l=1 sure, 3.1 get k :1.1 sure; done 2.1 1.1 3.1; map k=2 l=1; said 3.1=2"}},
	} {
		mustBeRightCluster(t, what, c.w)
		s := &stage{t: t, w: mustGoRound(t, what, c.w, slowly)}
		s.net()
		for i, want := range c.is {
			s.is(i+1, want)
		}
		w, broken := c.w, false
		for i := range c.w.Reps {
			w, _ = impl.Do(w, impl.Event{Kind: impl.EvAgain, Rep: i})
			for len(w.Net) > 0 && !broken {
				next, ok := impl.Do(w, event("deliver 0"))
				w, broken = next, !ok
			}
		}
		if !broken {
			t.Error(what, "is right all the while")
		}
	}
}

// In each round words are said that fit nobody, so that by Do nothing would be
// done from then on: each of the rounds goes on, and behind each it is right again.
func TestSettledAsksAtTheBeginningAlone(t *testing.T) {
	w := impl.ClusterNew(6)
	for i := range w.Reps {
		w.Reps[i] = manyOwn(i+1, 6, mostRecs)
	}
	w.Reps[0] = manyOwn(1, 6, mostRecs-1)
	w.Reps[0].Recs = append(w.Reps[0].Recs, rec("2.1 get k"))
	for _, r := range w.Reps {
		for i, x := range r.Recs {
			if x.D.R == r.Id {
				r.Recs[i].Deps = dots("7.1")
			}
		}
	}
	w = withWords(w, "ask 2>1 2.1 get k", mostNet)
	mustBeRightCluster(t, "at first", w)
	if turns := delivered(ownCluster(w)); turns[0] != 2*mostNet {
		t.Fatal("delivered", turns)
	}
	said, _ := impl.Do(impl.Cluster{Reps: w.Reps}, impl.Event{Kind: impl.EvAgain, Rep: 1})
	if len(said.Net) != 5*mostRecs || impl.ClusterOk(said) {
		t.Error("what is said again fits:", len(said.Net))
	}
	// Of all that is said only the acks are heard: the first holds what it was asked for.
	want := ownCluster(w)
	want.Net = nil
	want.Reps[1].Acks = []impl.Ack{{D: dot("2.1"), From: 1}}
	rounds := w
	for n := 1; n <= mostRounds; n++ {
		rounds = impl.Round(rounds)
		if got := impl.Settled(w, n); !same(got, want) || !same(rounds, want) {
			t.Fatalf("%d: %d words, %s", n, len(got.Net), showCluster(got))
		}
	}
	mustGoRound(t, "at first", w, slowly)
}

// Clusters behind events of which something is changed, right or not then.
func TestQuietOfBentClusters(t *testing.T) {
	t.Parallel()
	r := rand.New(rand.NewSource(125))
	seen := map[string]int{}
	for i := range 60 {
		start := stormyCluster(r, []int{1, 2, 3, 5, 4}[i%5], 20, []weather{ordinary, lossy, rebooting}[i%3])
		for k, w := range []impl.Cluster{start, impl.Settled(start, 2)} {
			for range 8 {
				bent := bentForSafe(r, w)
				for range r.Intn(3) {
					bent = bentForSafe(r, bent)
				}
				seen[fmt.Sprint(k, " level ", mustBeLevelAsTold(t, "bent", bent))]++
				if !slowClusterOk(bent) {
					seen["wrong"]++
					mustNotBeMoved(t, "bent", bent)
					continue
				}
				seen["right"]++
				mustGoRound(t, "bent", bent, slowly)
				if got, want := impl.Settled(bent, 3), slowSettled(bent, 3); !same(got, want) {
					t.Fatalf("Settled of 3 of %s: %s, not %s", showCluster(bent), showCluster(got), showCluster(want))
				}
			}
		}
	}
	if seen["wrong"] < 200 || seen["right"] < 200 || seen["1 level true"] < 100 || seen["1 level false"] < 50 || seen["0 level false"] < 200 {
		t.Error(seen)
	}
}

func TestMemoryOfQuietTimes(t *testing.T) {
	all := clustersForMemory()
	all["calm"] = calmCluster()
	all["settled"] = impl.Settled(calmCluster(), 2)
	all["very many"] = withWords(tellers(83, 83, 83, 83, 83, 83, 83), "tell 2>1 2.1 get k :1.1", 3)
	for why, w := range all {
		checkMemory(t, why+" Round", []any{w}, func(args []any) []any { return []any{impl.Round(args[0].(impl.Cluster))} })
		for _, rounds := range []int{0, 2, mostRounds, -1, mostRounds + 1} {
			checkMemory(t, fmt.Sprint(why, " Settled of ", rounds), []any{w}, func(args []any) []any {
				return []any{impl.Settled(args[0].(impl.Cluster), rounds)}
			})
		}
		checkMemory(t, why+" Level and Final", []any{w}, func(args []any) []any {
			in := args[0].(impl.Cluster)
			// What lies behind a list is not read.
			if impl.Level(in) != impl.Level(w) || !same(impl.Final(in), impl.Final(w)) || !same(impl.Settled(in, 2), impl.Settled(w, 2)) {
				t.Error(why, "is another one with room behind it")
			}
			return []any{impl.Final(in), impl.Final(in), impl.Level(in)}
		})
	}
}

// Where lists of the argument share memory, those of the answer share none.
func TestQuietTimesOfListsThatAreHandedInTwice(t *testing.T) {
	all, deps := sharingClusters(t)
	for _, in := range all {
		spans := spansOf(reflect.ValueOf(deps), "Deps")
		for _, rounds := range []int{0, 1, 2, -1} {
			spans = append(spans, spansOf(reflect.ValueOf(impl.Settled(in, rounds)), fmt.Sprint("Settled of ", rounds))...)
		}
		spans = append(spans, spansOf(reflect.ValueOf(impl.Round(in)), "Round")...)
		mustNotShare(t, "quiet", spans)
	}
	// What is written into an answer is not seen in what it was made of, nor in a second one.
	level := mustSettle(t, "level", busyCluster(3))
	final := impl.Final(level)
	final[0].Val = "other"
	if got := impl.Final(level); got[0].Val == "other" || !impl.Level(level) {
		t.Error(got)
	}
}

// What lies behind the length of a list is no part of a cluster.
func TestQuietTimesBehindTheLength(t *testing.T) {
	w := mustSettle(t, "level", busyCluster(3))
	for i := range w.Reps {
		r := &w.Reps[i]
		r.Recs = append(r.Recs, impl.Rec{D: impl.Dot{R: 7, N: 1 + i}})[:len(r.Recs)]
		r.Map = append(r.Map, impl.Pair{Key: fmt.Sprint("z", i)})[:len(r.Map)]
		r.Recs[0].Deps = append(r.Recs[0].Deps, impl.Dot{R: i})[:len(r.Recs[0].Deps)]
	}
	w.Net = append(w.Net, impl.Msg{Kind: 9})[:0]
	w.Reps = append(w.Reps, impl.ReplicaNew(1, 1))[:3]
	if !impl.Level(w) || !same(impl.Round(w), w) || len(impl.Final(w)) != 1 {
		t.Error(showCluster(w))
	}
	// What is done only there is not done.
	w.Reps[1].Done = w.Reps[1].Done[:len(w.Reps[1].Done)-1]
	if impl.Level(w) {
		t.Error("done behind the length")
	}
	none := impl.Cluster{Reps: w.Reps[:0]}
	if !impl.Level(none) || len(impl.Final(none)) != 0 {
		t.Error("replicas behind the length")
	}
}

// Nothing is kept from one call to another.
func TestQuietTimesOneBehindTheOther(t *testing.T) {
	list := []impl.Cluster{calmCluster(), fullCluster(), impl.ClusterNew(3), {}, busyCluster(5), tellers(83, 83, 83, 83, 83, 83, 83)}
	var first []impl.Cluster
	for _, w := range list {
		first = append(first, impl.Settled(w, 2))
	}
	for range 2 {
		for i, w := range slices.Backward(list) {
			once := impl.Round(w)
			if !same(impl.Round(once), first[i]) || !same(impl.Settled(w, 2), first[i]) || impl.Level(w) != slowLevel(w) {
				t.Error(i)
			}
		}
	}
}

func FuzzQuiet(f *testing.F) {
	f.Add([]byte{2, 0, 1, 2, 3, 4, 5, 6, 7})
	f.Add([]byte("once nothing is lost"))
	f.Fuzz(func(t *testing.T, b []byte) {
		seed := int64(1)
		for _, c := range b[:min(len(b), 40)] {
			seed = seed*257 + int64(c)
		}
		r := rand.New(rand.NewSource(seed))
		all := weathers()
		w := stormyCluster(r, 1+r.Intn(5), r.Intn(200), all[r.Intn(len(all))])
		mustSettle(t, "fuzz", storm(r, w, r.Intn(200), all[r.Intn(len(all))]))
		mustGoRound(t, "fuzz", w, impl.Play)
		bent := bentForSafe(r, stormyCluster(r, 1+r.Intn(5), 20, ordinary))
		if mustBeLevelAsTold(t, "fuzz", bent); impl.ClusterOk(bent) {
			mustGoRound(t, "fuzz", bent, slowly)
		} else {
			mustNotBeMoved(t, "fuzz", bent)
		}
	})
}
