package tests

import (
	"fmt"
	"math/rand"
	"slices"
	"testing"

	"loop.example/g00184/impl"
)

// A weather tells how often of a hundred an event is of each kind, from EvSubmit to EvReboot.
type weather [6]int

var (
	ordinary  = weather{16, 59, 8, 6, 7, 4}
	loud      = weather{14, 11, 2, 40, 30, 3}
	lossy     = weather{20, 18, 50, 3, 5, 4}
	rebooting = weather{16, 36, 6, 6, 12, 24}
	deaf      = weather{50, 0, 30, 0, 0, 20}
)

func weathers() []weather { return []weather{ordinary, loud, lossy, rebooting, deaf} }

// eventIn is an event of this weather; those of no word are refused where none is.
func eventIn(r *rand.Rand, w impl.Cluster, x weather) impl.Event {
	e := impl.Event{Rep: r.Intn(len(w.Reps)), At: r.Intn(max(1, len(w.Net)))}
	k := r.Intn(100)
	for e.Kind = impl.EvSubmit; k >= x[e.Kind-1]; e.Kind++ {
		k -= x[e.Kind-1]
	}
	if e.Kind == impl.EvSubmit {
		e.C = impl.Cmd{Kind: 1 + r.Intn(3), Key: []string{"k", "k", "k", "l", "m"}[r.Intn(5)]}
	}
	if e.C.Kind == impl.CmdPut {
		e.C.Val = fmt.Sprint(len(w.Asked))
	}
	return e
}

// storm has so many events of this weather happen, some at a time: of these, too, a few are refused.
func storm(r *rand.Rand, w impl.Cluster, length int, x weather) impl.Cluster {
	for length > 0 {
		var list []impl.Event
		for range min(length, 5) {
			list = append(list, eventIn(r, w, x))
		}
		w, length = impl.Play(w, list), length-len(list)
	}
	return w
}

func stormyCluster(r *rand.Rand, n int, length int, x weather) impl.Cluster {
	return storm(r, impl.ClusterNew(n), length, x)
}

// From wherever events lead to, clusters of small sizes settle.
func TestQuietInAllOrders(t *testing.T) {
	t.Parallel()
	for _, x := range []struct {
		n, least int
		asked    map[int][]string
	}{
		{1, 4, map[int][]string{1: {"put k=1", "get k", "del k"}}},
		{2, 80, map[int][]string{1: {"put k=1"}, 2: {"put k=2"}}},
		{2, 1000, map[int][]string{1: {"put k=1", "get k"}, 2: {"del k"}}},
		{3, 10, map[int][]string{2: {"put k=1"}}},
		{3, 3000, map[int][]string{1: {"put k=1"}, 3: {"get k"}}},
		{4, 50, map[int][]string{3: {"put k=1"}}},
		{5, 200, map[int][]string{5: {"put k=1"}}},
	} {
		at := 0
		met := goAllAlong(x.n, x.asked, func(w impl.Cluster) {
			mustSettle(t, "all along", w)
			if at++; at%4 == 0 {
				mustGoRound(t, "all along", w, oneByOne(t))
			}
		})
		if met < x.least {
			t.Error("only", met, "of", x)
		}
	}
}

// A quietTally counts what the clusters of a test had, so that none settles for want of anything.
type quietTally struct {
	full, most, notYet, once, rebooted, uneven int
}

func (x *quietTally) count(w impl.Cluster) {
	if len(w.Net) == mostNet {
		x.full++
	}
	if len(w.Asked) == 12*len(w.Reps) {
		x.most++
	}
	if impl.Level(impl.Round(w)) {
		x.once++
	} else {
		x.notYet++
	}
	if !impl.Level(w) {
		x.uneven++
	}
	for _, r := range w.Reps {
		for _, a := range r.Acks {
			if a.From == r.Id && slices.IndexFunc(r.Acks, func(b impl.Ack) bool { return b.D == a.D && b != a }) < 0 {
				x.rebooted++
				return
			}
		}
	}
}

// Behind storms of commands, words in any order, lost and doubled, and reboots, up to all that may be asked for.
func TestQuietBehindStorms(t *testing.T) {
	t.Parallel()
	r := rand.New(rand.NewSource(121))
	for n := 1; n <= 5; n++ {
		var seen quietTally
		for _, x := range weathers() {
			for range 2 {
				w := impl.ClusterNew(n)
				for range 2 + 2*n {
					w = storm(r, w, 40, x)
					seen.count(w)
					mustSettle(t, fmt.Sprint(x), w)
				}
			}
		}
		if seen.most < 20 || seen.once < 20 || n > 1 && (seen.uneven < 50 || seen.rebooted < 50) || n > 2 && (seen.full < 8 || seen.notYet < 5) {
			t.Errorf("%d: %+v", n, seen)
		}
	}
}

// The same events, held against the round that Do goes, one by one.
func TestRoundsBehindStorms(t *testing.T) {
	t.Parallel()
	r := rand.New(rand.NewSource(122))
	for n := 1; n <= 7; n++ {
		for _, x := range weathers() {
			w := stormyCluster(r, n, 20+20*n, x)
			got := mustGoRound(t, fmt.Sprint(n, x), w, oneByOne(t))
			mustGoRound(t, fmt.Sprint(n, x, " again"), got, impl.Play)
			small := stormyCluster(r, n, 15, x)
			mustGoRound(t, fmt.Sprint(n, x, " small"), small, slowly)
			if got, want := impl.Settled(small, 2), slowSettled(small, 2); !same(got, want) {
				t.Errorf("%d %v: %s, not %s", n, x, showCluster(got), showCluster(want))
			}
			if impl.Safe(got) != 0 {
				t.Error(n, x, impl.Safe(got))
			}
		}
	}
}

// Commands are asked for between the rounds, and behind them: what was answered stays.
func TestQuietTimesBetweenStorms(t *testing.T) {
	r := rand.New(rand.NewSource(123))
	for n := 1; n <= 5; n++ {
		w := impl.ClusterNew(n)
		for range 6 {
			was := storm(r, w, 12*n, ordinary)
			w = mustSettle(t, "between", was)
			for i := range w.Reps {
				mustStayDone(t, "between", was.Reps[i], w.Reps[i])
			}
		}
		if len(w.Asked) < 6*n {
			t.Error(n, len(w.Asked))
		}
	}
}

// As many commands as there may be, of one key or of several, of which no word, some words or a full Net are on their way.
func TestQuietOfFullClusters(t *testing.T) {
	t.Parallel()
	r := rand.New(rand.NewSource(124))
	for n := 1; n <= 5; n++ {
		for _, keys := range []int{1, 4} {
			for _, heard := range []int{0, 30, 90} {
				w := impl.ClusterNew(n)
				for step := range 12 * n {
					c := impl.Cmd{Kind: 1 + r.Intn(3), Key: fmt.Sprint("k", r.Intn(keys))}
					w = impl.Play(w, []impl.Event{{Kind: impl.EvSubmit, Rep: step % n, C: c}})
					for len(w.Net) > 3 {
						kind := impl.EvDrop
						if r.Intn(100) < heard {
							kind = impl.EvDeliver
						}
						w = impl.Play(w, []impl.Event{{Kind: kind, At: r.Intn(len(w.Net))}})
					}
				}
				if len(w.Asked) != 12*n {
					t.Fatal(n, keys, heard, len(w.Asked))
				}
				what := fmt.Sprint(n, " of ", keys, " keys, heard ", heard)
				mustGoRound(t, what, w, impl.Play)
				mustSettle(t, what, w)
				// The same word and the newest ones again and again, until there is no room.
				for i := 0; len(w.Net) < mostNet && n > 1; i++ {
					w = impl.Play(w, append(slices.Repeat(events("double 0"), 60), impl.Event{Kind: impl.EvAgain, Rep: n - 1 - i%n}))
				}
				mustGoRound(t, what+", no room", w, impl.Play)
				mustSettle(t, what+", no room", w)
			}
		}
	}
}

// Of six and seven there may be more that meet than a command may depend on, and then they do not settle.
func TestRoundsOfSixAndSeven(t *testing.T) {
	t.Parallel()
	for n := 6; n <= 7; n++ {
		few, many, mixed := impl.ClusterNew(n), impl.ClusterNew(n), impl.ClusterNew(n)
		for step := range 12 * n {
			submit := impl.Event{Kind: impl.EvSubmit, Rep: step % n, C: cmd(fmt.Sprint("put k=", step))}
			drop := slices.Repeat(events("drop 0"), n-1)
			if step < 60 {
				few = impl.Play(few, append([]impl.Event{submit}, drop...))
			}
			many = impl.Play(many, append([]impl.Event{submit}, drop...))
			submit.C.Key = fmt.Sprint("k", step%6)
			mixed = impl.Play(mixed, append([]impl.Event{submit}, drop...))
		}
		for what, c := range map[string]struct {
			w     impl.Cluster
			level bool
		}{"few": {few, true}, "many": {many, false}, "mixed": {mixed, true}} {
			mustGoRound(t, what, c.w, impl.Play)
			got := impl.Settled(c.w, 2)
			if mustBeLevelAsTold(t, what, got) != c.level || impl.Safe(got) != 0 || len(got.Net) != 0 {
				t.Error(n, what, impl.Level(got), impl.Safe(got), len(got.Net))
			}
			if c.level {
				mustSettle(t, what, c.w)
			}
			if last := impl.Settled(c.w, mostRounds); impl.Level(last) != c.level {
				t.Error(n, what, "behind twenty")
			}
		}
	}
}

// tellers are replicas of which each has so many of its own, Sure and done:
// again it says a tell of each to each other one, and nobody says anything to that.
func tellers(own ...int) impl.Cluster {
	w := impl.ClusterNew(len(own))
	for i, many := range own {
		r := &w.Reps[i]
		for n := 1; n <= many; n++ {
			d := impl.Dot{R: i + 1, N: n}
			r.Recs, r.Done, r.Said = append(r.Recs, impl.Rec{D: d, C: cmd("get k"), Sure: true}), append(r.Done, d), append(r.Said, impl.Answer{D: d})
		}
		r.Next = many + 1
	}
	return w
}

// delivered is how many words are delivered in each turn of a round.
func delivered(w impl.Cluster) []int {
	var out []int
	for i := range w.Reps {
		var n int
		w, n = turnBy(w, i, impl.Play)
		out = append(out, n)
	}
	return out
}

// The words of each replica's turn are counted for that turn alone: more than
// 3000 in one round, and all of them are heard.
func TestEachTurnIsCountedAnew(t *testing.T) {
	t.Parallel()
	for _, c := range []struct {
		own   []int
		words int
		turns []int
	}{
		// About 3000 of their own, and what is in Net at first; beside 68 there is room for the first one's 432, beside 69 for one less.
		{[]int{72, 72, 72, 71, 71, 71, 70}, 0, []int{432, 432, 432, 426, 426, 426, 420}},
		{[]int{72, 72, 72, 71, 71, 71, 71}, 0, []int{432, 432, 432, 426, 426, 426, 426}},
		{[]int{72, 72, 72, 72, 71, 71, 71}, 0, []int{432, 432, 432, 432, 426, 426, 426}},
		{[]int{72, 72, 72, 71, 71, 71, 71}, 1, []int{433, 432, 432, 426, 426, 426, 426}},
		{[]int{72, 72, 72, 71, 71, 71, 71}, 68, []int{500, 432, 432, 426, 426, 426, 426}},
		{[]int{72, 72, 72, 71, 71, 71, 71}, 69, []int{500, 432, 432, 426, 426, 426, 426}},
		{[]int{72, 72, 72, 71, 71, 71, 71}, 500, []int{500, 432, 432, 426, 426, 426, 426}},
		{[]int{72, 72, 72, 72, 72, 72, 72}, 0, []int{432, 432, 432, 432, 432, 432, 432}},
		{[]int{83, 83, 83, 83, 83, 83, 83}, 0, []int{498, 498, 498, 498, 498, 498, 498}},
		{[]int{83, 83, 83, 83, 83, 83, 83}, 500, []int{500, 498, 498, 498, 498, 498, 498}},
		// As many as each may know: there is no room for all that it says again.
		{[]int{90, 90, 90, 90, 90, 90, 90}, 0, []int{500, 500, 500, 500, 500, 500, 500}},
		// The last one has little to say, or nothing.
		{[]int{90, 90, 90, 90, 90, 90, 1}, 0, []int{500, 500, 500, 500, 500, 500, 6}},
		{[]int{90, 90, 90, 90, 90, 90, 0}, 500, []int{500, 500, 500, 500, 500, 500, 0}},
		// Six of them are far from it.
		{[]int{83, 83, 83, 83, 83, 83}, 500, []int{500, 415, 415, 415, 415, 415}},
	} {
		what := fmt.Sprint(c.own, " and ", c.words)
		w := withWords(tellers(c.own...), "tell 2>1 2.1 get k", c.words)
		mustBeRightCluster(t, what, w)
		if turns := delivered(w); !slices.Equal(turns, c.turns) {
			t.Errorf("%s: delivered %v", what, turns)
		}
		got := mustGoRound(t, what, w, impl.Play)
		if len(got.Net) != 0 || impl.Level(got) {
			t.Errorf("%s: level, or left %d: %q", what, len(got.Net), showMsgs(got.Net))
		}
		if next := mustGoRound(t, what, got, impl.Play); !same(impl.Settled(w, 2), next) {
			t.Error(what, "behind two")
		}
	}
}

// Behind 3000 words in the turns of the six others the seventh asks for its
// own, is acked, and tells it: all of that in the same round.
func TestWhoIsBehind3000WordsIsHeard(t *testing.T) {
	t.Parallel()
	w := tellers(89, 89, 89, 89, 89, 89, 0)
	own := rec("7.1 put z=1")
	for i := range w.Reps {
		r := &w.Reps[i]
		r.Recs = append(r.Recs, own)
	}
	last := &w.Reps[6]
	last.Next, last.Acks = 2, []impl.Ack{{D: own.D, From: 7}}
	mustBeRightCluster(t, "89", w)
	if turns := delivered(w); !slices.Equal(turns, []int{500, 500, 500, 500, 500, 500, 18}) {
		t.Fatal("delivered", turns)
	}
	got := mustGoRound(t, "89", w, oneByOne(t))
	for _, r := range got.Reps {
		at := slices.IndexFunc(r.Recs, func(x impl.Rec) bool { return x.D == own.D })
		if !r.Recs[at].Sure || !slices.Contains(r.Done, own.D) || !same(r.Map, pairs("z=1")) {
			t.Error("not Sure, or not done, at", r.Id)
		}
	}
	if l := got.Reps[6].Said; !same(l, []impl.Answer{{D: own.D}}) {
		t.Error("answered", l)
	}
}

// The most that come in one turn: 500 asks, 500 acks, and 500 tells. They come
// in the last one's, behind which nobody would hear what was left.
func TestTheMostOfOneTurn(t *testing.T) {
	t.Parallel()
	w := impl.ClusterNew(7)
	last := manyOwn(7, 7, 84)
	for _, x := range last.Recs {
		last.Acks = append(last.Acks, impl.Ack{D: x.D, From: 7})
	}
	w.Reps[6] = last
	mustBeRightCluster(t, "84", w)
	// Of the last of its own only two asks find room: by itself and these two it is not Sure.
	if turns := delivered(w); !slices.Equal(turns, []int{0, 0, 0, 0, 0, 0, 1495}) {
		t.Error("delivered", turns)
	}
	mustGoRound(t, "84", w, impl.Play)
	// With one holder more it is, and its tells find room for five.
	last.Acks = slices.Insert(last.Acks, 83, impl.Ack{D: last.Recs[83].D, From: 3})
	w.Reps[6] = last
	mustBeRightCluster(t, "84, one held", w)
	if turns := delivered(w); !slices.Equal(turns, []int{0, 0, 0, 0, 0, 0, 1500}) {
		t.Error("delivered", turns)
	}
	got := mustGoRound(t, "84, one held", w, oneByOne(t))
	for i, r := range got.Reps {
		x := slices.IndexFunc(r.Recs, func(x impl.Rec) bool { return x.D == impl.Dot{R: 7, N: 84} })
		if sure := x >= 0 && r.Recs[x].Sure; sure != (i != 5) {
			t.Error("the last of its own at", r.Id, sure)
		}
	}
}
