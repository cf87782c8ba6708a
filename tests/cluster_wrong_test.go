package tests

import (
	"fmt"
	"math/rand"
	"reflect"
	"slices"
	"testing"

	"loop.example/g00184/impl"
)

// fullCluster is right, and has something of all there is: fullLife is its second replica.
func fullCluster() impl.Cluster {
	w := withReplica(fullLife())
	w.Reps[0] = replica("1/5", "1.1 put k=1 sure", "1.2 put k=2 :1.1,2.1")
	w.Reps[3] = replica("4/5", "2.3 put k=3", "4.1 get m :3.1")
	words := rightWords()
	for _, text := range []string{"ask 2>1 2.3 put k=3 :1.1,1.2,2.1", "tell 2>5 2.1 get k :1.1", "ack 3>1 1.2 :1.1", "ask 4>3 4.1 get m :3.1", "ack 2>4 4.1"} {
		words[text] = msg(text)
	}
	var texts []string
	for text := range words {
		texts = append(texts, text)
	}
	slices.Sort(texts)
	for _, text := range texts {
		w.Net = append(w.Net, words[text])
	}
	for _, text := range []string{"1.1 put k=1", "2.1 get k <1.1", "4.1 get m <1.1,2.1,2.2", "2.4 del l <1.1,2.1"} {
		w.Asked = append(w.Asked, asked(text))
	}
	return w
}

func TestAFullCluster(t *testing.T) {
	w := fullCluster()
	if !impl.ClusterOk(w) || !slowClusterOk(w) || len(w.Net) != 21 {
		t.Fatal(showCluster(w))
	}
	for at := range w.Net {
		for _, kind := range []int{impl.EvDeliver, impl.EvDrop, impl.EvDouble} {
			if _, ok := mustDoEvent(t, "full", w, impl.Event{Kind: kind, At: at}); !ok {
				t.Error(kind, at)
			}
		}
	}
	for rep := range w.Reps {
		for _, kind := range []int{impl.EvSubmit, impl.EvAgain, impl.EvReboot} {
			if _, ok := mustDoEvent(t, "full", w, impl.Event{Kind: kind, Rep: rep, C: cmd("put k=7")}); !ok {
				t.Error(kind, rep)
			}
		}
	}
	next, _ := impl.Do(w, event("submit 4 put k=7"))
	if got := showAsked(next.Asked[4:]); !slices.Equal(got, []string{"5.1 put k=7 <1.1,2.1,2.2,2.6"}) {
		t.Error(got)
	}
}

func TestClustersWithAWrongReplica(t *testing.T) {
	for why, r := range wrongReplicas() {
		w := ownCluster(fullCluster())
		w.Reps[1] = r
		mustBeNoCluster(t, why, w)
		w.Net, w.Asked = nil, nil
		mustBeNoCluster(t, why+", without words", w)
	}
	for n := 1; n <= 7; n++ {
		for i := range n {
			for why, bend := range map[string]func(r *impl.Replica){
				"Next 0": func(r *impl.Replica) { r.Next = 0 }, "Next 2": func(r *impl.Replica) { r.Next = 2 },
				"Done": func(r *impl.Replica) { r.Done = []impl.Dot{{R: 1, N: 1}} }, "Map": func(r *impl.Replica) { r.Map = pairs("k=1") },
				"zero": func(r *impl.Replica) { *r = impl.Replica{} }, "Id": func(r *impl.Replica) { r.Id++ }, "N": func(r *impl.Replica) { r.N++ },
				"Id below": func(r *impl.Replica) { r.Id-- }, "N below": func(r *impl.Replica) { r.N-- },
			} {
				w := impl.ClusterNew(n)
				bend(&w.Reps[i])
				mustBeNoCluster(t, fmt.Sprint(n, " ", i, " ", why), w)
			}
		}
	}
}

// Each replica is right, but not where it stands.
func TestReplicasInWrongPlaces(t *testing.T) {
	for n := 1; n <= 7; n++ {
		for i := range n {
			for j := range n {
				w := impl.ClusterNew(n)
				w.Reps[i], w.Reps[j] = w.Reps[j], w.Reps[i]
				if i != j {
					mustBeNoCluster(t, fmt.Sprint("changed about ", n, i, j), w)
				}
				w = impl.ClusterNew(n)
				w.Reps[i] = w.Reps[j]
				if i != j {
					mustBeNoCluster(t, fmt.Sprint("twice ", n, i, j), w)
				}
			}
			for other := i + 1; other <= 7; other++ {
				w := impl.ClusterNew(n)
				w.Reps[i] = impl.ReplicaNew(i+1, other)
				if other != n {
					mustBeNoCluster(t, fmt.Sprint("N of one ", n, i, other), w)
				}
			}
		}
		for other := 1; other <= 7; other++ {
			if n >= other {
				continue
			}
			w := impl.ClusterNew(other)
			w.Reps = w.Reps[:n]
			mustBeNoCluster(t, fmt.Sprint("the first ", n, " of ", other), w)
			w = impl.ClusterNew(other)
			w.Reps = w.Reps[other-n:]
			mustBeNoCluster(t, fmt.Sprint("the last ", n, " of ", other), w)
		}
		w := impl.ClusterNew(n)
		w.Reps = append(w.Reps, impl.Replica{Id: n + 1, N: n, Next: 1})
		mustBeNoCluster(t, fmt.Sprint("one more than ", n), w)
	}
}

func TestNoneAndTooManyReplicas(t *testing.T) {
	mustBeNoCluster(t, "nothing", impl.Cluster{})
	mustBeNoCluster(t, "empty lists", impl.Cluster{Reps: []impl.Replica{}, Net: []impl.Msg{}, Asked: []impl.Asked{}})
	mustBeNoCluster(t, "a word alone", impl.Cluster{Net: []impl.Msg{msg("ask 1>2 1.1 put k=1")}})
	mustBeNoCluster(t, "no word", impl.Cluster{Net: []impl.Msg{{}}})
	mustBeNoCluster(t, "Asked alone", impl.Cluster{Asked: []impl.Asked{asked("1.1 put k=1")}})
	for _, n := range []int{8, 9, 20, 1000} {
		for _, told := range []int{7, n} {
			var w impl.Cluster
			for id := 1; id <= n; id++ {
				w.Reps = append(w.Reps, impl.Replica{Id: id, N: told, Next: 1})
			}
			mustBeNoCluster(t, fmt.Sprint(n, " of ", told), w)
			w.Net = []impl.Msg{msg("ask 1>8 1.1 put k=1"), msg("ask 1>2 1.1 put k=1")}
			mustBeNoCluster(t, fmt.Sprint(n, " of ", told, " with words"), w)
		}
	}
}

// A word is right for whom it goes to alone: of a wrong one, wherever in Net it is, the cluster is not right.
func TestClustersWithAWrongWord(t *testing.T) {
	wrong, right := 0, 0
	for why, m := range wrongWords() {
		for _, at := range []int{0, 10, 21} {
			w := ownCluster(fullCluster())
			w.Net = slices.Insert(w.Net, at, m)
			if slowClusterOk(w) {
				// It is right for another one to whom it goes.
				right++
				if !impl.ClusterOk(w) || m.To == 2 {
					t.Error(why)
				}
				continue
			}
			wrong++
			mustBeNoCluster(t, why, w)
		}
	}
	if wrong < 1500 || right < 3 {
		t.Error("wrong:", wrong, "right:", right)
	}
	// To none, in clusters of each size.
	for n := 1; n <= 7; n++ {
		for _, to := range []int{-1, 0, n + 1, 8} {
			w := impl.ClusterNew(n)
			w.Net = []impl.Msg{{Kind: impl.MsgAsk, From: 1, To: to, D: dot("1.1"), C: cmd("put k=1")}}
			mustBeNoCluster(t, fmt.Sprint(n, " to ", to), w)
		}
		// An ack of what it does not have, a word to itself, and one of none of N.
		for _, text := range []string{"ack 2>1 1.1", "ask 1>1 1.1 put k=1", "ask 2>1 2.1 put k=1 :7.1"} {
			w := impl.ClusterNew(n)
			w.Net = []impl.Msg{msg(text)}
			if n < 7 || text != "ask 2>1 2.1 put k=1 :7.1" {
				mustBeNoCluster(t, fmt.Sprint(n, " ", text), w)
			}
		}
	}
}

func TestClustersWithAWrongAsked(t *testing.T) {
	for why, c := range wrongCmds() {
		for at := range 5 {
			w := ownCluster(fullCluster())
			w.Asked = slices.Insert(w.Asked, at, impl.Asked{D: dot("1.2"), C: c})
			mustBeNoCluster(t, why, w)
		}
		for _, n := range []int{1, 3, 7} {
			w := impl.ClusterNew(n)
			w.Asked = []impl.Asked{{D: dot("1.1"), C: c}}
			mustBeNoCluster(t, why, w)
			w = withAsked(w, 100)
			mustBeNoCluster(t, why, w)
			w.Asked[0], w.Asked[99] = w.Asked[99], w.Asked[0]
			mustBeNoCluster(t, why, w)
		}
	}
}

// Right, though no events from a new cluster lead there: the chapter names nothing against them.
func TestOddClustersThatAreRight(t *testing.T) {
	for why, make := range map[string]func(w *impl.Cluster){
		"Asked of no Dot":                func(w *impl.Cluster) { w.Asked[0].D = impl.Dot{} },
		"Asked of a wrong Dot":           func(w *impl.Cluster) { w.Asked[0].D = impl.Dot{R: 8, N: -1} },
		"Asked of one that is known":     func(w *impl.Cluster) { w.Asked[0].D = dot("2.2") },
		"Asked twice":                    func(w *impl.Cluster) { w.Asked = append(w.Asked, w.Asked...) },
		"Asked in another order":         func(w *impl.Cluster) { slices.Reverse(w.Asked) },
		"Asked none":                     func(w *impl.Cluster) { w.Asked = nil },
		"Before not ascending":           func(w *impl.Cluster) { w.Asked[1].Before = dots("2.2 1.1 1.1 2.2") },
		"Before of wrong Dots":           func(w *impl.Cluster) { w.Asked[1].Before = wrongDots() },
		"Before of very many":            func(w *impl.Cluster) { w.Asked[1].Before = slices.Repeat(dots("1.1 1.2"), 500) },
		"no words":                       func(w *impl.Cluster) { w.Net = nil },
		"words twice":                    func(w *impl.Cluster) { w.Net = append(w.Net, w.Net...) },
		"words in another order":         func(w *impl.Cluster) { slices.Reverse(w.Net) },
		"an ask that nobody said":        func(w *impl.Cluster) { w.Net = append(w.Net, msg("ask 5>1 5.900 del zz :3.3,4.999")) },
		"replicas that do not agree":     func(w *impl.Cluster) { w.Reps[4] = replica("5/5", "1.1 put k=9 sure", "2.1 del x sure") },
		"a Rec of a Dot above N":         func(w *impl.Cluster) { w.Reps[4] = replica("5/5", "7.1 put k=9 sure") },
		"more own ones than may be":      func(w *impl.Cluster) { w.Reps[4] = manyOwn(5, 5, 20) },
		"what was done in another order": func(w *impl.Cluster) { w.Reps[1] = redone(w.Reps[1], "3.1 2.2 2.6 1.1 2.1") },
	} {
		w := ownCluster(fullCluster())
		make(&w)
		if !impl.ClusterOk(w) {
			t.Error(why)
		}
		for _, e := range oneOfEach() {
			got, ok := mustDoEvent(t, why, w, e)
			word := e.Kind == impl.EvDeliver || e.Kind == impl.EvDrop || e.Kind == impl.EvDouble
			if ok == (word && len(w.Net) == 0) {
				t.Error(why, e, ok)
			}
			// What was asked for stays, as odd as it is.
			if !same(got.Asked[:len(w.Asked)], w.Asked[:len(w.Asked)]) {
				t.Error(why, e, got.Asked)
			}
		}
		list := events("again 4; submit 4 put k=1; deliver 3; reboot 4; deliver 0; double 2; deliver 1; deliver 9; submit 0 get k; drop 2; deliver 11")
		if got, want := impl.Play(w, list), slowPlay(w, list); !same(got, want) {
			t.Error(why, showCluster(got))
		}
	}
}

func manyOwn(id int, n int, own int) impl.Replica {
	r := impl.ReplicaNew(id, n)
	for i := range own {
		r.Recs, r.Next = append(r.Recs, impl.Rec{D: impl.Dot{R: id, N: i + 1}, C: cmd("get k")}), i+2
	}
	return r
}

// Right clusters in which an event has a word said that fits nobody: by Do,
// nothing is done from then on; a Play goes on, and such a word is lost.
func TestPlayAsksAtTheBeginningAlone(t *testing.T) {
	never := impl.ClusterNew(3)
	never.Net = []impl.Msg{msg("ask 1>2 1.5 put k=1")}
	strange := impl.ClusterNew(3)
	strange.Reps[0] = replica("1/3", "5.1 put k=1")
	for why, c := range map[string]struct {
		w     impl.Cluster
		first string
		list  string
		words []string
		is    []string
	}{
		"an ack of what was never asked for": {never, "deliver 0", "submit 2 get k; deliver 0; deliver 0; again 2; deliver 1",
			[]string{"ask 3>2 3.1 get k", "ask 3>1 3.1 get k", "ask 3>2 3.1 get k", "tell 3>1 3.1 get k", "tell 3>2 3.1 get k"},
			[]string{"next 1; 3.1 get k", "next 1; 1.5 put k=1", "next 2; 3.1 get k sure; done 3.1; said 3.1-"}},
		"Deps of none of N": {strange, "submit 0 put k=2", "deliver 0; submit 1 put k=3; deliver 1; double 0; deliver 0; deliver 2; deliver 1",
			[]string{"ask 2>3 2.1 put k=3"}, []string{"next 2; 1.1 put k=2 :5.1, 2.1 put k=3 :1.1,5.1, 5.1 put k=1; acks 1.1<1", "next 2; 2.1 put k=3; acks 2.1<2", "next 1"}},
	} {
		broken, ok := mustDoEvent(t, why, c.w, event(c.first))
		if !ok || impl.ClusterOk(broken) || slowClusterOk(broken) {
			t.Fatal(why, showCluster(broken))
		}
		mustBeNoCluster(t, why, broken)
		list := append(events(c.first), events(c.list)...)
		s := &stage{t: t, w: impl.Play(c.w, list)}
		if want := slowPlay(c.w, list); !same(s.w, want) {
			t.Errorf("%s: %s, not %s", why, showCluster(s.w), showCluster(want))
		}
		s.net(c.words...)
		for i, want := range c.is {
			s.is(i+1, want)
		}
	}
}

// Clusters of which one thing is changed, right or not then.
func TestBentClusters(t *testing.T) {
	r := rand.New(rand.NewSource(101))
	right, wrong := 0, 0
	for i := range 30 {
		w := impl.ClusterNew([]int{1, 2, 3, 5, 7}[i%5])
		for range 50 {
			w, _ = impl.Do(w, someEvent(r, w))
		}
		for range 25 {
			bent := bentCluster(r, w)
			if slowClusterOk(bent) {
				right++
			} else {
				wrong++
				mustBeNoCluster(t, "bent", bent)
			}
			list := make([]impl.Event, 8)
			for i := range list {
				list[i] = someEvent(r, bent)
			}
			mustDoEvent(t, "bent", bent, list[0])
			if got, want := impl.Play(bent, list), slowPlay(bent, list); !same(got, want) {
				t.Fatalf("a play of %v with %s: %s, not %s", list, showCluster(bent), showCluster(got), showCluster(want))
			}
		}
	}
	if right < 150 || wrong < 150 {
		t.Error("right:", right, "wrong:", wrong)
	}
}

func bentCluster(r *rand.Rand, w impl.Cluster) impl.Cluster {
	w = ownCluster(w)
	at := r.Intn(len(w.Reps))
	switch k := r.Intn(8); {
	case k < 3:
		w.Reps[at] = bentReplica(r, w.Reps[at])
	case k == 3 && len(w.Net) > 0:
		i := r.Intn(len(w.Net))
		w.Net[i] = bentMsg(r, w.Net[i])
	case k == 4:
		w.Net = append(w.Net, wordsFor(w.Reps[at])...)
	case k == 5 && len(w.Asked) > 0:
		w.Asked[r.Intn(len(w.Asked))].C.Kind = r.Intn(6) - 1
	case k == 6:
		w.Reps = slices.Delete(w.Reps, at, at+1)
	default:
		w.Asked = append(w.Asked, impl.Asked{C: someCmd(r)})
	}
	return w
}

func clustersForMemory() map[string]impl.Cluster {
	out := map[string]impl.Cluster{
		"nothing": {}, "one": impl.ClusterNew(1), "new": impl.ClusterNew(3), "full": fullCluster(), "busy": busyCluster(5), "busy alone": busyCluster(1),
		"many words": withWords(busyCluster(2), "ask 1>2 1.1 put k=0 :2.1", 300), "no room": withWords(impl.ClusterNew(2), "tell 2>1 2.1 put k=1 :1.1", mostNet),
		"too many words": withWords(impl.ClusterNew(2), "tell 2>1 2.1 put k=1 :1.1", mostNet+1), "most asked": withAsked(busyCluster(3), mostAsked),
		"empty lists": {Reps: []impl.Replica{}, Net: []impl.Msg{}, Asked: []impl.Asked{}},
	}
	wrong := ownCluster(fullCluster())
	wrong.Reps[4].Next = 9
	out["wrong"] = wrong
	return out
}

func TestMemoryOfClusters(t *testing.T) {
	list := append(oneOfEach(), events("submit 1 get k; deliver 1; deliver 2; double 3; submit 0 put =; again 1; reboot 1; drop 7; deliver 8")...)
	for why, w := range clustersForMemory() {
		for _, e := range append(list, impl.Event{}) {
			checkMemory(t, fmt.Sprint(why, " Do of ", e), []any{w}, func(args []any) []any {
				next, ok := impl.Do(args[0].(impl.Cluster), e)
				return []any{next, ok, impl.ClusterOk(args[0].(impl.Cluster))}
			})
		}
		checkMemory(t, why+" Play", []any{w, list}, func(args []any) []any {
			return []any{impl.Play(args[0].(impl.Cluster), args[1].([]impl.Event))}
		})
		checkMemory(t, why+" Play of much", []any{w, slices.Repeat(list, 14)}, func(args []any) []any {
			return []any{impl.Play(args[0].(impl.Cluster), args[1].([]impl.Event))}
		})
	}
	for n := range 9 {
		checkMemory(t, "new", []any{n}, func(args []any) []any { return []any{impl.ClusterNew(n), impl.ClusterNew(n)} })
	}
}

// A word that was doubled shares nothing with the one that it was made of, nor do doubles of one word.
func TestMemoryOfADoubledWord(t *testing.T) {
	s := newStage(t, 3)
	s.do("submit 0 put k=1; submit 0 put k=2; double 3; double 3; double 2")
	ask2, ask3 := "ask 1>2 1.2 put k=2 :1.1", "ask 1>3 1.2 put k=2 :1.1"
	s.net("ask 1>2 1.1 put k=1", "ask 1>3 1.1 put k=1", ask2, ask3, ask3, ask3, ask2)
	for _, text := range []string{"double 2", "double 6", "double 6; double 6; double 8", "double 5; deliver 3; deliver 3; double 3; double 3", "double 6; drop 6; double 7"} {
		checkMemory(t, text, []any{s.w}, func(args []any) []any { return []any{impl.Play(args[0].(impl.Cluster), events(text))} })
	}
	// What is written into one is not seen in the others.
	next := impl.Play(s.w, events("double 2"))
	next.Net[2].Deps[0] = dot("7.7")
	if got := showMsgs(next.Net)[3:]; !slices.Equal(got, []string{ask3, ask3, ask3, ask2, ask2}) {
		t.Error(got)
	}
}

// sharingClusters are a right one and a wrong one in which all lists of Dots are the same memory, and that.
func sharingClusters(t *testing.T) ([]impl.Cluster, []impl.Dot) {
	t.Helper()
	deps := dots("2.1 3.1")
	w := impl.ClusterNew(3)
	w.Reps[0].Recs = []impl.Rec{{D: dot("1.1"), C: cmd("put k=1"), Deps: deps}, {D: dot("1.2"), C: cmd("put l=1"), Deps: deps}, {D: dot("2.2"), C: cmd("get m"), Deps: deps}}
	w.Reps[0].Next = 3
	w.Reps[1].Recs = []impl.Rec{{D: dot("1.1"), C: cmd("put k=1"), Deps: deps}}
	for _, text := range []string{"ask 1>2 1.1 put k=1", "ask 1>3 1.2 put l=1", "ack 2>1 1.1", "tell 1>2 1.1 put k=1", "tell 2>1 2.2 get m"} {
		m := msg(text)
		m.Deps = deps
		w.Net = append(w.Net, m)
	}
	w.Asked = []impl.Asked{{D: dot("1.1"), C: cmd("put k=1"), Before: deps}, {D: dot("1.2"), C: cmd("put l=1"), Before: deps}}
	if !impl.ClusterOk(w) {
		t.Fatal(showCluster(w))
	}
	wrong := w
	wrong.Asked = append(slices.Clone(w.Asked), impl.Asked{Before: deps})
	return []impl.Cluster{w, wrong}, deps
}

func mustNotShare(t *testing.T, what string, spans []span) {
	t.Helper()
	for i, a := range spans {
		for _, b := range spans[i+1:] {
			if a.from < b.to && b.from < a.to {
				t.Errorf("%s: %s shares memory with %s", what, a.name, b.name)
			}
		}
	}
}

// Where lists of the argument share memory, those of the answer share none.
func TestClustersOfListsThatAreHandedInTwice(t *testing.T) {
	all, deps := sharingClusters(t)
	lists := [][]impl.Event{nil, oneOfEach(), events("deliver 4; deliver 3; deliver 2; deliver 1; deliver 0; double 0; double 1; again 0; submit 0 put k=2; submit 1 put k=3")}
	for _, e := range append(oneOfEach(), events("deliver 1; deliver 2; deliver 3; deliver 4; double 1; double 2; nothing 0; submit 1 put k=2")...) {
		lists = append(lists, []impl.Event{e})
	}
	for _, list := range lists {
		for _, in := range all {
			spans := slices.Concat(spansOf(reflect.ValueOf(impl.Play(in, list)), "Play"), spansOf(reflect.ValueOf(deps), "Deps"))
			for _, e := range list {
				next, _ := impl.Do(in, e)
				spans = append(spans, spansOf(reflect.ValueOf(next), "Do")...)
			}
			mustNotShare(t, fmt.Sprint(list), spans)
		}
	}
}

// What lies behind the length of a list is no part of a cluster.
func TestClustersBehindTheLength(t *testing.T) {
	w := fullCluster()
	w.Reps = append(w.Reps, impl.ReplicaNew(6, 6))[:5]
	w.Net = append(w.Net, impl.Msg{Kind: 9}, msg("ask 1>2 1.9 put k=1"))[:len(w.Net)]
	w.Asked = append(w.Asked, impl.Asked{C: impl.Cmd{Kind: 9}})[:len(w.Asked)]
	if !impl.ClusterOk(w) {
		t.Error(showCluster(w))
	}
	for _, e := range oneOfEach() {
		if _, ok := mustDoEvent(t, "behind", w, e); !ok {
			t.Error(e)
		}
	}
	mustRefuseEvent(t, "behind", w, event("deliver 21"))
	mustRefuseEvent(t, "behind", w, event("reboot 5"))
	list := events("again 0; again 1; again 3")
	if got := impl.Play(w, list[:1]); !same(got, impl.Play(w, events("again 0"))) {
		t.Error(showCluster(got))
	}
}

// Nothing is kept from one call to another.
func TestClustersOneBehindTheOther(t *testing.T) {
	w := fullCluster()
	list := append(oneOfEach(), events("deliver 3; deliver 9; submit 3 get k; drop 50")...)
	first := impl.Play(w, list)
	for range 3 {
		for _, e := range list {
			impl.Do(w, e)
			impl.Play(busyCluster(3), []impl.Event{e})
		}
		impl.Play(impl.Cluster{}, list)
		if got := impl.Play(w, list); !same(got, first) {
			t.Error(showCluster(got))
		}
	}
	if !same(w, fullCluster()) {
		t.Error(showCluster(w))
	}
}
