package tests

import (
	"math"
	"slices"
	"testing"

	"loop.example/g00184/impl"
)

const (
	mostDelivered = 3000
	mostRounds    = 20
)

// A mover has events happen that are not refused, in their order. Of impl.Play
// and oneByOne the cluster must be right all the while, of slowly at first.
type mover func(w impl.Cluster, list []impl.Event) impl.Cluster

// roundBy is a round of a cluster, by a mover.
func roundBy(w impl.Cluster, move mover) impl.Cluster {
	for i := range w.Reps {
		w, _ = turnBy(w, i, move)
	}
	return w
}

// turnBy is one replica's turn in a round, and how many words are delivered in it.
func turnBy(w impl.Cluster, rep int, move mover) (impl.Cluster, int) {
	delivered := 0
	w = move(w, []impl.Event{{Kind: impl.EvAgain, Rep: rep}})
	for len(w.Net) > 0 && delivered < mostDelivered {
		// So many are there, whatever is said to them.
		n := min(len(w.Net), mostDelivered-delivered, mostEvents)
		w = move(w, slices.Repeat([]impl.Event{{Kind: impl.EvDeliver}}, n))
		delivered += n
	}
	return w, delivered
}

// slowly asks nothing of the cluster.
func slowly(w impl.Cluster, list []impl.Event) impl.Cluster {
	for _, e := range list {
		w, _ = slowEvent(w, e)
	}
	return w
}

// oneByOne hands each event to Do, of a cluster that is right all the while.
func oneByOne(t *testing.T) mover {
	return func(w impl.Cluster, list []impl.Event) impl.Cluster {
		t.Helper()
		for _, e := range list {
			next, ok := impl.Do(w, e)
			if !ok {
				t.Fatalf("%v is refused by %s", e, showCluster(w))
			}
			w = next
		}
		return w
	}
}

func slowSettled(w impl.Cluster, rounds int) impl.Cluster {
	if !slowClusterOk(w) || rounds < 0 || rounds > mostRounds {
		return w
	}
	for range rounds {
		w = roundBy(w, slowly)
	}
	return w
}

func slowLevel(w impl.Cluster) bool {
	for i, r := range w.Reps {
		if i > 0 && (!same(w.Reps[i-1].Recs, r.Recs) || !same(w.Reps[i-1].Map, r.Map)) {
			return false
		}
		done := map[impl.Dot]bool{}
		for _, d := range r.Done {
			done[d] = true
		}
		for _, x := range r.Recs {
			if !x.Sure || !done[x.D] {
				return false
			}
		}
	}
	return len(w.Net) == 0
}

// mustBeLevelAsTold asks Level and Final of a cluster, right or not, and answers what Level says.
func mustBeLevelAsTold(t *testing.T, what string, w impl.Cluster) bool {
	t.Helper()
	before := wholeCopy(w)
	level := impl.Level(w)
	if level != slowLevel(w) {
		t.Errorf("%s: Level of %s: %v", what, showCluster(w), level)
	}
	var want []impl.Pair
	if len(w.Reps) > 0 {
		want = w.Reps[0].Map
	}
	if got := impl.Final(w); !same(got, want) {
		t.Errorf("%s: Final of %s: %v", what, showCluster(w), got)
	}
	if !same(wholeCopy(w), before) {
		t.Errorf("%s: Level or Final wrote into %s", what, showCluster(w))
	}
	return level
}

// mustGoRound asks for a round of a right cluster, and answers it.
func mustGoRound(t *testing.T, what string, w impl.Cluster, move mover) impl.Cluster {
	t.Helper()
	before := wholeCopy(w)
	got, want := impl.Round(w), roundBy(w, move)
	if !same(got, want) {
		t.Fatalf("%s: Round of %s: %s, not %s", what, showCluster(w), showCluster(got), showCluster(want))
	}
	if once := impl.Settled(w, 1); !same(once, got) {
		t.Fatalf("%s: Settled of 1 round of %s: %s", what, showCluster(w), showCluster(once))
	}
	// An ask has one ack, an ack one tell to each, and a tell nothing: of what
	// is in Net at the beginning of a turn never so many words come that some are left.
	if len(got.Net) != 0 || !impl.ClusterOk(got) {
		t.Errorf("%s: behind Round %d words are left, or it is not right: %s", what, len(got.Net), showCluster(got))
	}
	if !same(wholeCopy(w), before) {
		t.Errorf("%s: Round or Settled wrote into %s", what, showCluster(w))
	}
	mustBeLevelAsTold(t, what, got)
	return got
}

// wrongRounds are so many that none is gone.
func wrongRounds() []int {
	return []int{math.MinInt, -1000, -2, -1, mostRounds + 1, mostRounds + 2, 200, mostDelivered, math.MaxInt}
}

// mustNotBeMoved asks all of this layer of a cluster that is not right.
func mustNotBeMoved(t *testing.T, what string, w impl.Cluster) {
	t.Helper()
	if got := impl.Round(w); !same(got, w) {
		t.Errorf("%s: Round changes it: %v", what, got)
	}
	for _, rounds := range []int{0, 2, mostRounds, -1} {
		if got := impl.Settled(w, rounds); !same(got, w) {
			t.Errorf("%s: Settled of %d changes it: %v", what, rounds, got)
		}
	}
	mustBeLevelAsTold(t, what, w)
}

// mustSettle asks of a cluster for all that is promised behind two rounds, and
// answers what it is then.
func mustSettle(t *testing.T, what string, w impl.Cluster) impl.Cluster {
	t.Helper()
	got := impl.Settled(w, 2)
	if !mustBeLevelAsTold(t, what, got) || impl.Safe(got) != 0 {
		t.Fatalf("%s: %s: not level, or not safe (%d): %s", what, showCluster(w), impl.Safe(got), showCluster(got))
	}
	if !same(got.Asked, w.Asked) {
		t.Fatalf("%s: other ones were asked for: %s", what, showCluster(got))
	}
	mustBeQuiet(t, what, got)
	mustAnswerAll(t, what, got)
	final := impl.Final(got)
	for _, r := range got.Reps {
		if !slices.Equal(r.Map, final) {
			t.Fatalf("%s: Map of %d is not %v: %s", what, r.Id, final, showCluster(got))
		}
	}
	if !same(impl.Round(got), got) {
		t.Fatalf("%s: what is level does not stay: %s", what, showCluster(got))
	}
	return got
}

// mustAnswerAll has each command that was asked for among Said of who was asked, once.
func mustAnswerAll(t *testing.T, what string, w impl.Cluster) {
	t.Helper()
	times := map[impl.Dot]int{}
	for _, r := range w.Reps {
		for _, a := range r.Said {
			times[a.D]++
			if a.D.R != r.Id {
				t.Fatalf("%s: %d answers %s: %s", what, r.Id, showDot(a.D), showCluster(w))
			}
		}
	}
	for _, a := range w.Asked {
		if times[a.D] != 1 {
			t.Fatalf("%s: %s is answered %d times: %s", what, showDot(a.D), times[a.D], showCluster(w))
		}
	}
}
