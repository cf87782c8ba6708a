package tests

import (
	"fmt"
	"math/rand"
	"slices"
	"testing"

	"loop.example/g00184/impl"
)

// A weather tells how often of a hundred an event is of each kind, from EvSubmit to EvReboot.
type weather [6]int

var (
	ordinary  = weather{16, 59, 8, 6, 7, 4}
	loud      = weather{14, 11, 2, 40, 30, 3}
	lossy     = weather{20, 18, 50, 3, 5, 4}
	rebooting = weather{16, 36, 6, 6, 12, 24}
	deaf      = weather{50, 0, 30, 0, 0, 20}
)

func weathers() []weather { return []weather{ordinary, loud, lossy, rebooting, deaf} }

// eventIn is an event of this weather; those of no word are refused where none is.
func eventIn(r *rand.Rand, w impl.Cluster, x weather) impl.Event {
	e := impl.Event{Rep: r.Intn(len(w.Reps)), At: r.Intn(max(1, len(w.Net)))}
	k := r.Intn(100)
	for e.Kind = impl.EvSubmit; k >= x[e.Kind-1]; e.Kind++ {
		k -= x[e.Kind-1]
	}
	if e.Kind == impl.EvSubmit {
		e.C = impl.Cmd{Kind: 1 + r.Intn(3), Key: []string{"k", "k", "k", "l", "m"}[r.Intn(5)]}
	}
	if e.C.Kind == impl.CmdPut {
		e.C.Val = fmt.Sprint(len(w.Asked))
	}
	return e
}

// storm has so many events of this weather happen, some at a time: of these, too, a few are refused.
func storm(r *rand.Rand, w impl.Cluster, length int, x weather) impl.Cluster {
	for length > 0 {
		var list []impl.Event
		for range min(length, 5) {
			list = append(list, eventIn(r, w, x))
		}
		w, length = impl.Play(w, list), length-len(list)
	}
	return w
}

func stormyCluster(r *rand.Rand, n int, length int, x weather) impl.Cluster {
	return storm(r, impl.ClusterNew(n), length, x)
}

// From wherever events lead to, clusters of small sizes settle.
func TestQuietInAllOrders(t *testing.T) {
	t.Parallel()
	for _, x := range []struct {
		n, least int
		asked    map[int][]string
	}{
		{1, 4, map[int][]string{1: {"put k=1", "get k", "del k"}}},
		{2, 80, map[int][]string{1: {"put k=1"}, 2: {"put k=2"}}},
		{2, 1000, map[int][]string{1: {"put k=1", "get k"}, 2: {"del k"}}},
		{3, 10, map[int][]string{2: {"put k=1"}}},
		{3, 3000, map[int][]string{1: {"put k=1"}, 3: {"get k"}}},
		{4, 50, map[int][]string{3: {"put k=1"}}},
		{5, 200, map[int][]string{5: {"put k=1"}}},
	} {
		at := 0
		met := goAllAlong(x.n, x.asked, func(w impl.Cluster) {
			mustSettle(t, "all along", w)
			if at++; at%4 == 0 {
				mustGoRound(t, "all along", w, oneByOne(t))
			}
		})
		if met < x.least {
			t.Error("only", met, "of", x)
		}
	}
}

// A quietTally counts what the clusters of a test had, so that none settles for want of anything.
type quietTally struct {
	full, most, notYet, once, rebooted, uneven int
}

func (x *quietTally) count(w impl.Cluster) {
	if len(w.Net) == mostNet {
		x.full++
	}
	if len(w.Asked) == 12*len(w.Reps) {
		x.most++
	}
	if impl.Level(impl.Round(w)) {
		x.once++
	} else {
		x.notYet++
	}
	if !impl.Level(w) {
		x.uneven++
	}
	for _, r := range w.Reps {
		for _, a := range r.Acks {
			if a.From == r.Id && slices.IndexFunc(r.Acks, func(b impl.Ack) bool { return b.D == a.D && b != a }) < 0 {
				x.rebooted++
				return
			}
		}
	}
}

// Behind storms of commands, words in any order, lost and doubled, and reboots, up to all that may be asked for.
func TestQuietBehindStorms(t *testing.T) {
	t.Parallel()
	r := rand.New(rand.NewSource(121))
	for n := 1; n <= 5; n++ {
		var seen quietTally
		for _, x := range weathers() {
			for range 2 {
				w := impl.ClusterNew(n)
				for range 2 + 2*n {
					w = storm(r, w, 40, x)
					seen.count(w)
					mustSettle(t, fmt.Sprint(x), w)
				}
			}
		}
		if seen.most < 20 || seen.once < 20 || n > 1 && (seen.uneven < 50 || seen.rebooted < 50) || n > 2 && (seen.full < 8 || seen.notYet < 5) {
			t.Errorf("%d: %+v", n, seen)
		}
	}
}

// The same events, held against the round that Do goes, one by one.
func TestRoundsBehindStorms(t *testing.T) {
	t.Parallel()
	r := rand.New(rand.NewSource(122))
	for n := 1; n <= 7; n++ {
		for _, x := range weathers() {
			w := stormyCluster(r, n, 20+20*n, x)
			got := mustGoRound(t, fmt.Sprint(n, x), w, oneByOne(t))
			mustGoRound(t, fmt.Sprint(n, x, " again"), got, impl.Play)
			small := stormyCluster(r, n, 15, x)
			mustGoRound(t, fmt.Sprint(n, x, " small"), small, slowly)
			if got, want := impl.Settled(small, 2), slowSettled(small, 2); !same(got, want) {
				t.Errorf("%d %v: %s, not %s", n, x, showCluster(got), showCluster(want))
			}
			if impl.Safe(got) != 0 {
				t.Error(n, x, impl.Safe(got))
			}
		}
	}
}

// Commands are asked for between the rounds, and behind them: what was answered stays.
func TestQuietTimesBetweenStorms(t *testing.T) {
	r := rand.New(rand.NewSource(123))
	for n := 1; n <= 5; n++ {
		w := impl.ClusterNew(n)
		for range 6 {
			was := storm(r, w, 12*n, ordinary)
			w = mustSettle(t, "between", was)
			for i := range w.Reps {
				mustStayDone(t, "between", was.Reps[i], w.Reps[i])
			}
		}
		if len(w.Asked) < 6*n {
			t.Error(n, len(w.Asked))
		}
	}
}

// As many commands as there may be, of one key or of several, of which no word, some words or a full Net are on their way.
func TestQuietOfFullClusters(t *testing.T) {
	t.Parallel()
	r := rand.New(rand.NewSource(124))
	for n := 1; n <= 5; n++ {
		for _, keys := range []int{1, 4} {
			for _, heard := range []int{0, 30, 90} {
				w := impl.ClusterNew(n)
				for step := range 12 * n {
					c := impl.Cmd{Kind: 1 + r.Intn(3), Key: fmt.Sprint("k", r.Intn(keys))}
					w = impl.Play(w, []impl.Event{{Kind: impl.EvSubmit, Rep: step % n, C: c}})
					for len(w.Net) > 3 {
						kind := impl.EvDrop
						if r.Intn(100) < heard {
							kind = impl.EvDeliver
						}
						w = impl.Play(w, []impl.Event{{Kind: kind, At: r.Intn(len(w.Net))}})
					}
				}
				if len(w.Asked) != 12*n {
					t.Fatal(n, keys, heard, len(w.Asked))
				}
				what := fmt.Sprint(n, " of ", keys, " keys, heard ", heard)
				mustGoRound(t, what, w, impl.Play)
				mustSettle(t, what, w)
				// The same word and the newest ones again and again, until there is no room.
				for i := 0; len(w.Net) < mostNet && n > 1; i++ {
					w = impl.Play(w, append(slices.Repeat(events("double 0"), 60), impl.Event{Kind: impl.EvAgain, Rep: n - 1 - i%n}))
				}
				mustGoRound(t, what+", no room", w, impl.Play)
				mustSettle(t, what+", no room", w)
			}
		}
	}
}

// Of six and seven there may be more that meet than a command may depend on, and then they do not settle.
func TestRoundsOfSixAndSeven(t *testing.T) {
	t.Parallel()
	for n := 6; n <= 7; n++ {
		few, many, mixed := impl.ClusterNew(n), impl.ClusterNew(n), impl.ClusterNew(n)
		for step := range 12 * n {
			submit := impl.Event{Kind: impl.EvSubmit, Rep: step % n, C: cmd(fmt.Sprint("put k=", step))}
			drop := slices.Repeat(events("drop 0"), n-1)
			if step < 60 {
				few = impl.Play(few, append([]impl.Event{submit}, drop...))
			}
			many = impl.Play(many, append([]impl.Event{submit}, drop...))
			submit.C.Key = fmt.Sprint("k", step%6)
			mixed = impl.Play(mixed, append([]impl.Event{submit}, drop...))
		}
		for what, c := range map[string]struct {
			w     impl.Cluster
			level bool
		}{"few": {few, true}, "many": {many, false}, "mixed": {mixed, true}} {
			mustGoRound(t, what, c.w, impl.Play)
			got := impl.Settled(c.w, 2)
			if mustBeLevelAsTold(t, what, got) != c.level || impl.Safe(got) != 0 || len(got.Net) != 0 {
				t.Error(n, what, impl.Level(got), impl.Safe(got), len(got.Net))
			}
			if c.level {
				mustSettle(t, what, c.w)
			}
			if last := impl.Settled(c.w, mostRounds); impl.Level(last) != c.level {
				t.Error(n, what, "behind twenty")
			}
		}
	}
}

// tellers are replicas of which each has so many of its own, Sure and done:
// again it says a tell of each to each other one, and nobody says anything to that.
func tellers(own ...int) impl.Cluster {
	w := impl.ClusterNew(len(own))
	for i, many := range own {
		r := &w.Reps[i]
		for n := 1; n <= many; n++ {
			d := impl.Dot{R: i + 1, N: n}
			r.Recs, r.Done, r.Said = append(r.Recs, impl.Rec{D: d, C: cmd("get k"), Sure: true}), append(r.Done, d), append(r.Said, impl.Answer{D: d})
		}
		r.Next = many + 1
	}
	return w
}

// lastWords are the last of all that a replica says again.
func lastWords(r impl.Replica, n int) []string {
	all := showMsgs(impl.Again(r))
	return all[len(all)-n:]
}

// The 3000th word is delivered, the next one is not: what is left stays in Net.
func TestMostDelivered(t *testing.T) {
	t.Parallel()
	for _, c := range []struct {
		own         []int
		words, left int
	}{
		// 3000 of their own, and what is in Net at first; beside 68 there is room for the first one's 432, beside 69 for one less.
		{[]int{72, 72, 72, 71, 71, 71, 71}, 0, 0}, {[]int{72, 72, 72, 71, 71, 71, 71}, 1, 1}, {[]int{72, 72, 72, 71, 71, 71, 71}, 2, 2},
		{[]int{72, 72, 72, 71, 71, 71, 71}, 68, 68}, {[]int{72, 72, 72, 71, 71, 71, 71}, 69, 68}, {[]int{72, 72, 72, 71, 71, 71, 71}, 500, 68},
		// 2994 of their own.
		{[]int{72, 72, 72, 71, 71, 71, 70}, 0, 0}, {[]int{72, 72, 72, 71, 71, 71, 70}, 5, 0}, {[]int{72, 72, 72, 71, 71, 71, 70}, 6, 0}, {[]int{72, 72, 72, 71, 71, 71, 70}, 7, 1},
		// 3486 of their own; and 500, and those but for the first one's 498.
		{[]int{83, 83, 83, 83, 83, 83, 83}, 0, 486}, {[]int{83, 83, 83, 83, 83, 83, 83}, 500, 488},
		// Six of them are far from it.
		{[]int{83, 83, 83, 83, 83, 83}, 500, 0},
	} {
		what := fmt.Sprint(c.own, " and ", c.words)
		w := withWords(tellers(c.own...), "tell 2>1 2.1 get k", c.words)
		mustBeRightCluster(t, what, w)
		got := mustGoRound(t, what, w, impl.Play)
		if l := showMsgs(got.Net); !slices.Equal(l, lastWords(w.Reps[len(c.own)-1], c.left)) {
			t.Errorf("%s: left %d: %q", what, len(l), l)
		}
		if impl.Level(got) {
			t.Error(what, "level")
		}
		// In the next round these come first, and 3000 are delivered once more.
		if next := mustGoRound(t, what, got, impl.Play); !same(impl.Settled(w, 2), next) {
			t.Error(what, "behind two")
		}
	}
}

// Of the replicas behind the 3000th word each says its own again, as far as
// there is room, and none of that is heard in this round.
func TestWhoIsBehindTheMostDelivered(t *testing.T) {
	t.Parallel()
	// 500 asks, 500 acks, and 498 of each: the sixth has 8 delivered, and the seventh has room for ten.
	w := withWords(tellers(83, 83, 83, 83, 83, 83, 83), "ask 2>1 2.1 get k", mostNet)
	mustBeRightCluster(t, "83", w)
	got := mustGoRound(t, "83", w, oneByOne(t))
	want := append(lastWords(w.Reps[5], 490), showMsgs(impl.Again(w.Reps[6]))[:10]...)
	if l := showMsgs(got.Net); !slices.Equal(l, want) {
		t.Errorf("83: %d: %q", len(l), l)
	}
	for i, r := range got.Reps {
		if known := slices.ContainsFunc(r.Recs, func(x impl.Rec) bool { return x.D.R == 7 }); known != (i == 6) {
			t.Error("83: the seventh is heard by", r.Id, known)
		}
	}
	// The fifth has its last one delivered and Net is empty; the sixth and the seventh fill it as far as they have words, and there is room.
	for _, c := range []struct{ sixth, seventh, words, more int }{{90, 90, 500, 0}, {84, 90, 500, 0}, {83, 90, 498, 2}, {3, 2, 18, 12}, {0, 2, 0, 12}, {2, 0, 12, 0}, {0, 0, 0, 0}} {
		w := tellers(89, 90, 90, 90, 90, c.sixth, c.seventh)
		w.Reps[0].Recs = append(w.Reps[0].Recs, rec("2.1 get k"))
		w = withWords(w, "ask 2>1 2.1 get k", mostNet)
		what := fmt.Sprintf("%+v", c)
		mustBeRightCluster(t, what, w)
		got := mustGoRound(t, what, w, impl.Play)
		want := append(showMsgs(impl.Again(got.Reps[5]))[:c.words], showMsgs(impl.Again(got.Reps[6]))[:c.more]...)
		if l := showMsgs(got.Net); !slices.Equal(l, want) {
			t.Errorf("%s: %d: %q", what, len(l), l)
		}
	}
}
