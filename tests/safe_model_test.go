package tests

import (
	"fmt"
	"slices"
	"strings"
	"testing"

	"loop.example/g00184/impl"
)

// clusterOf reads of n replicas: "1: 1.1 put k=1 :2.1 sure", a Rec of the first;
// "1 done 2.1 1.1", in which order it did them; "1 said 1.1=5 1.2-", what it
// said in the place of what it did say; "asked 1.1 put k=1 <2.1". But for what
// is told by said, the replicas are right.
func clusterOf(n int, texts ...string) impl.Cluster {
	w := impl.ClusterNew(n)
	recs := map[int][]string{}
	for _, text := range texts {
		if id, one, found := strings.Cut(text, ": "); found {
			recs[numberOf(id)] = append(recs[numberOf(id)], one)
		}
	}
	for id, list := range recs {
		w.Reps[id-1] = replica(fmt.Sprint(id, "/", n), list...)
	}
	for _, text := range texts {
		if one, found := strings.CutPrefix(text, "asked "); found {
			w.Asked = append(w.Asked, asked(one))
		}
		if id, done, found := strings.Cut(text, " done "); found {
			w.Reps[numberOf(id)-1] = redone(w.Reps[numberOf(id)-1], done)
		}
	}
	for _, text := range texts {
		if id, list, found := strings.Cut(text, " said"); found {
			w.Reps[numberOf(id)-1].Said = answers(list)
		}
	}
	return w
}

// answers reads "1.1=5 1.2-".
func answers(text string) []impl.Answer {
	var out []impl.Answer
	for _, one := range strings.Fields(text) {
		d, val, has := strings.Cut(one, "=")
		out = append(out, impl.Answer{D: dot(strings.TrimSuffix(d, "-")), Val: val, Has: has})
	}
	return out
}

// slowOrdered goes by the sets of what each command is Sure with.
func slowOrdered(w impl.Cluster) bool {
	with := map[impl.Dot]map[string]bool{}
	for _, r := range w.Reps {
		for _, x := range r.Recs {
			if x.Sure && with[x.D] == nil {
				with[x.D] = map[string]bool{}
			}
			if x.Sure {
				with[x.D][fmt.Sprint(x.Deps)] = true
			}
		}
	}
	for _, list := range with {
		if len(list) != 1 {
			return false
		}
	}
	for _, r := range w.Reps {
		for _, x := range r.Recs {
			if x.Sure && !slowInOrder(w, x) {
				return false
			}
		}
	}
	return true
}

func slowInOrder(w impl.Cluster, x impl.Rec) bool {
	for _, r := range w.Reps {
		for _, y := range r.Recs {
			if !y.Sure || x.D == y.D || !slowMeet(x.C, y.C) {
				continue
			}
			if !slices.Contains(x.Deps, y.D) && !slices.Contains(y.Deps, x.D) {
				return false
			}
		}
	}
	return true
}

// firstKnown is the first Rec with this Dot, or one of no command.
func firstKnown(recs []impl.Rec, d impl.Dot) impl.Rec {
	for _, x := range recs {
		if x.D == d {
			return x
		}
	}
	return impl.Rec{}
}

func firstAsked(list []impl.Asked, d impl.Dot) (impl.Asked, bool) {
	for _, a := range list {
		if a.D == d {
			return a, true
		}
	}
	return impl.Asked{}, false
}

// slowWritten are the puts and dels of a key that were done, as a text of which
// a beginning of the list is a beginning.
func slowWritten(r impl.Replica, key string) string {
	out := ""
	for _, d := range r.Done {
		c := firstKnown(r.Recs, d).C
		if c.Key == key && (c.Kind == 1 || c.Kind == 2) {
			out += showDot(d) + " "
		}
	}
	return out
}

func slowAgreed(w impl.Cluster) bool {
	keys := map[string]bool{}
	for _, r := range w.Reps {
		for _, x := range r.Recs {
			keys[x.C.Key] = true
		}
	}
	for key := range keys {
		var all []string
		for _, r := range w.Reps {
			all = append(all, slowWritten(r, key))
		}
		for _, a := range all {
			for _, b := range all {
				if !strings.HasPrefix(a, b) && !strings.HasPrefix(b, a) {
					return false
				}
			}
		}
	}
	return true
}

func slowTimely(w impl.Cluster) bool {
	for _, a := range w.Asked {
		for _, d := range a.Before {
			b, there := firstAsked(w.Asked, d)
			if !there || !slowMeet(a.C, b.C) {
				continue
			}
			for _, r := range w.Reps {
				for _, x := range r.Recs {
					if x.D == a.D && x.Sure && !slices.Contains(x.Deps, d) {
						return false
					}
				}
			}
		}
	}
	return true
}

func slowTold(w impl.Cluster) bool {
	times := map[impl.Dot]int{}
	for _, r := range w.Reps {
		recs := map[impl.Dot]impl.Rec{}
		for _, d := range r.Done {
			recs[d] = firstKnown(r.Recs, d)
		}
		for _, a := range r.Said {
			times[a.D]++
			of, there := firstAsked(w.Asked, a.D)
			place := slices.Index(r.Done, a.D)
			if !there || place < 0 {
				return false
			}
			want := impl.Answer{D: a.D}
			made, _ := slowMade(0, r.Done[:place], recs)
			for _, p := range made {
				if p.Key == of.C.Key {
					want.Val, want.Has = p.Val, true
				}
			}
			if a != want {
				return false
			}
		}
	}
	for _, n := range times {
		if n != 1 {
			return false
		}
	}
	return true
}

func slowSafe(w impl.Cluster) int {
	switch {
	case !slowClusterOk(w):
		return 1
	case !slowOrdered(w):
		return 2
	case !slowAgreed(w):
		return 3
	case !slowTimely(w):
		return 4
	case !slowTold(w):
		return 5
	}
	return 0
}

// A finding is what the four say of a cluster, and Safe.
type finding struct {
	ordered, agreed, timely, told bool
	safe                          int
}

func found(w impl.Cluster) finding {
	return finding{impl.Ordered(w), impl.Agreed(w), impl.Timely(w), impl.Told(w), impl.Safe(w)}
}

func slowFound(w impl.Cluster) finding {
	return finding{slowOrdered(w), slowAgreed(w), slowTimely(w), slowTold(w), slowSafe(w)}
}

// mustBeFound asks all five of a cluster, right or not, and answers what they say.
func mustBeFound(t *testing.T, what string, w impl.Cluster) finding {
	t.Helper()
	before := wholeCopy(w)
	got, want := found(w), slowFound(w)
	if got != want {
		t.Errorf("%s: %+v, not %+v: %s", what, got, want, showCluster(w))
	}
	if !same(wholeCopy(w), before) {
		t.Errorf("%s: something is written into %s", what, showCluster(w))
	}
	return got
}

// mustBeSafe asks of a cluster for all that is promised.
func mustBeSafe(t *testing.T, what string, w impl.Cluster) {
	t.Helper()
	if got := mustBeFound(t, what, w); got != (finding{true, true, true, true, 0}) {
		t.Fatalf("%s: not safe: %+v: %s", what, got, showCluster(w))
	}
	mustComeAhead(t, what, w)
}

// mustComeAhead has what was answered done ahead of what was asked for later
// and meets it, at each replica that did the later one.
func mustComeAhead(t *testing.T, what string, w impl.Cluster) {
	t.Helper()
	for _, a := range w.Asked {
		for _, d := range a.Before {
			b, there := firstAsked(w.Asked, d)
			if !there {
				t.Fatalf("%s: %s was answered and not asked for: %s", what, showDot(d), showCluster(w))
			}
			for _, r := range w.Reps {
				later := slices.Index(r.Done, a.D)
				if slowMeet(a.C, b.C) && later >= 0 && !slices.Contains(r.Done[:later], d) {
					t.Fatalf("%s: %s is not ahead of %s: %s", what, showDot(d), showDot(a.D), showCluster(w))
				}
			}
		}
	}
}

// A wrongly built case must not be taken for a right one.
func mustBeRightCluster(t *testing.T, what string, w impl.Cluster) {
	t.Helper()
	if !impl.ClusterOk(w) {
		t.Errorf("%s: not right: %s", what, showCluster(w))
	}
}
