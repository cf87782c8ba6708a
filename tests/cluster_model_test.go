package tests

import (
	"fmt"
	"math/rand"
	"reflect"
	"slices"
	"strings"
	"testing"

	"loop.example/g00184/impl"
)

const (
	mostNet    = 500
	mostEvents = 200
	mostAsked  = 100
)

var eventKinds = map[string]int{"submit": impl.EvSubmit, "deliver": impl.EvDeliver, "drop": impl.EvDrop, "double": impl.EvDouble, "again": impl.EvAgain, "reboot": impl.EvReboot}

// event reads "submit 0 put k=1", "deliver 2", "drop 2", "double 2", "again 0" or "reboot 0".
func event(text string) impl.Event {
	kind, rest, _ := strings.Cut(text, " ")
	place, c, _ := strings.Cut(rest, " ")
	e := impl.Event{Kind: eventKinds[kind]}
	switch kind {
	case "submit":
		e.Rep, e.C = numberOf(place), cmd(c)
	case "again", "reboot":
		e.Rep = numberOf(place)
	default:
		e.At = numberOf(place)
	}
	return e
}

// events reads them with "; " between.
func events(text string) []impl.Event {
	var out []impl.Event
	for _, one := range strings.Split(text, "; ") {
		out = append(out, event(one))
	}
	return out
}

// asked reads "3.1 get k <1.1,2.1".
func asked(text string) impl.Asked {
	text, before, _ := strings.Cut(text, " <")
	x := rec(text)
	return impl.Asked{D: x.D, C: x.C, Before: dots(before)}
}

func showAsked(list []impl.Asked) []string {
	var out []string
	for _, a := range list {
		text := showRec(impl.Rec{D: a.D, C: a.C})
		if len(a.Before) > 0 {
			text += " <" + showDots(a.Before, ",")
		}
		out = append(out, text)
	}
	return out
}

func showCluster(w impl.Cluster) string {
	var out []string
	for _, r := range w.Reps {
		out = append(out, fmt.Sprint(r.Id, "/", r.N, " ", showReplica(r)))
	}
	return fmt.Sprintf("%q, net %q, asked %q", out, showMsgs(w.Net), showAsked(w.Asked))
}

// ownCluster is w in memory of its own.
func ownCluster(w impl.Cluster) impl.Cluster {
	return copyValue(reflect.ValueOf(w), func(s reflect.Value) reflect.Value {
		return reflect.MakeSlice(s.Type(), s.Len(), s.Len())
	}).Interface().(impl.Cluster)
}

func slowClusterOk(w impl.Cluster) bool {
	n := len(w.Reps)
	if n < 1 || n > 7 || len(w.Net) > mostNet || len(w.Asked) > mostAsked {
		return false
	}
	for i, r := range w.Reps {
		if r.Id != 1+i || r.N != n || !slowReplicaOk(r) {
			return false
		}
	}
	for _, m := range w.Net {
		if m.To < 1 || m.To > n || !slowMsgOk(w.Reps[m.To-1], m) {
			return false
		}
	}
	for _, a := range w.Asked {
		if !slowCmdOk(a.C) {
			return false
		}
	}
	return true
}

// slowAnswered are the Dots of all that was said, gathered as a set.
func slowAnswered(w impl.Cluster) []impl.Dot {
	met := map[impl.Dot]bool{}
	var out []impl.Dot
	for _, r := range w.Reps {
		for _, a := range r.Said {
			if !met[a.D] {
				met[a.D] = true
				out = append(out, a.D)
			}
		}
	}
	return sortDots(out)
}

// slowEvent does not ask whether w is right.
func slowEvent(w impl.Cluster, e impl.Event) (impl.Cluster, bool) {
	out := ownCluster(w)
	var said []impl.Msg
	switch e.Kind {
	case impl.EvSubmit, impl.EvAgain, impl.EvReboot:
		if e.Rep < 0 || e.Rep >= len(w.Reps) {
			return w, false
		}
	case impl.EvDeliver, impl.EvDrop, impl.EvDouble:
		if e.At < 0 || e.At >= len(w.Net) {
			return w, false
		}
		if e.Kind == impl.EvDouble {
			said = []impl.Msg{out.Net[e.At]}
			break
		}
		out.Net = append(slices.Clone(out.Net[:e.At]), out.Net[e.At+1:]...)
	default:
		return w, false
	}
	switch e.Kind {
	case impl.EvSubmit:
		r, words, d := slowSubmit(w.Reps[e.Rep], e.C)
		if d == (impl.Dot{}) || len(w.Asked) >= mostAsked {
			return w, false
		}
		out.Asked = append(out.Asked, impl.Asked{D: d, C: e.C, Before: slowAnswered(w)})
		out.Reps[e.Rep], said = r, words
	case impl.EvDeliver:
		to := w.Net[e.At].To - 1
		out.Reps[to], said = slowHear(w.Reps[to], w.Net[e.At])
	case impl.EvAgain:
		said = slowAgain(w.Reps[e.Rep])
	case impl.EvReboot:
		out.Reps[e.Rep] = slowReboot(w.Reps[e.Rep])
	}
	for _, m := range said {
		if len(out.Net) < mostNet {
			out.Net = append(out.Net, m)
		}
	}
	return out, true
}

func slowDo(w impl.Cluster, e impl.Event) (impl.Cluster, bool) {
	if !slowClusterOk(w) {
		return w, false
	}
	return slowEvent(w, e)
}

func slowPlay(w impl.Cluster, list []impl.Event) impl.Cluster {
	if !slowClusterOk(w) {
		return w
	}
	for i, e := range list {
		if i < mostEvents {
			w, _ = slowEvent(w, e)
		}
	}
	return w
}

// mustDoEvent has an event happen, alone and as a play.
func mustDoEvent(t *testing.T, what string, w impl.Cluster, e impl.Event) (impl.Cluster, bool) {
	t.Helper()
	if ok := impl.ClusterOk(w); ok != slowClusterOk(w) {
		t.Errorf("%s: ClusterOk of %s: %v", what, showCluster(w), ok)
	}
	want, wantOk := slowDo(w, e)
	return mustBecome(t, what, w, e, want, wantOk)
}

func mustBecome(t *testing.T, what string, w impl.Cluster, e impl.Event, want impl.Cluster, wantOk bool) (impl.Cluster, bool) {
	t.Helper()
	before := wholeCopy(w)
	got, ok := impl.Do(w, e)
	if !same(got, want) || ok != wantOk {
		t.Errorf("%s: Do of %v with %s: %s, %v, not %s, %v", what, e, showCluster(w), showCluster(got), ok, showCluster(want), wantOk)
	}
	if !ok && !same(got, w) {
		t.Errorf("%s: Do of %v is refused, and changes %s: %s", what, e, showCluster(w), showCluster(got))
	}
	if one := impl.Play(w, []impl.Event{e}); !same(one, got) {
		t.Errorf("%s: Play of %v alone with %s: %s, not %s", what, e, showCluster(w), showCluster(one), showCluster(got))
	}
	if !same(wholeCopy(w), before) {
		t.Errorf("%s: Do or Play of %v wrote into %s", what, e, showCluster(w))
	}
	return got, ok
}

// mustRefuseEvent has an event change nothing.
func mustRefuseEvent(t *testing.T, what string, w impl.Cluster, e impl.Event) {
	t.Helper()
	if got, ok := mustDoEvent(t, what, w, e); ok || !same(got, w) {
		t.Errorf("%s: %v is not refused: %s", what, e, showCluster(got))
	}
}

// mustBeOnePlay has each beginning of a list as one play, and the events of it
// one by one; it answers what becomes of all of them.
func mustBeOnePlay(t *testing.T, what string, w impl.Cluster, list []impl.Event) impl.Cluster {
	t.Helper()
	one := w
	for i, e := range list[:min(len(list), mostEvents)] {
		if got := impl.Play(w, list[:i]); !same(got, one) {
			t.Fatalf("%s: a play of %v: %s, one by one %s", what, list[:i], showCluster(got), showCluster(one))
		}
		one, _ = impl.Do(one, e)
	}
	got := impl.Play(w, list)
	if !same(got, one) {
		t.Fatalf("%s: a play of %v: %s, one by one %s", what, list, showCluster(got), showCluster(one))
	}
	return got
}

// mustBeNoCluster asks all of a cluster that is not right.
func mustBeNoCluster(t *testing.T, what string, w impl.Cluster) {
	t.Helper()
	if impl.ClusterOk(w) {
		t.Errorf("%s: right: %v", what, w)
	}
	list := oneOfEach()
	for _, e := range append(list, impl.Event{}) {
		if got, ok := impl.Do(w, e); ok || !same(got, w) {
			t.Errorf("%s: Do of %v: %v", what, e, ok)
		}
	}
	for _, l := range [][]impl.Event{nil, list[:1], list, slices.Repeat(list, 50)} {
		if got := impl.Play(w, l); !same(got, w) {
			t.Errorf("%s: a Play of %d changes it", what, len(l))
		}
	}
	mustNotBeMoved(t, what, w)
}

// oneOfEach is an event of each kind that is done by any cluster with a word on its way.
func oneOfEach() []impl.Event {
	return events("submit 0 put k=1; double 0; deliver 0; drop 0; again 0; reboot 0")
}

// A stage is a cluster, new at first, that is moved by hand.
type stage struct {
	t *testing.T
	w impl.Cluster
}

func newStage(t *testing.T, n int) *stage { return &stage{t: t, w: impl.ClusterNew(n)} }

// do has events happen, none of them refused.
func (s *stage) do(text string) {
	s.t.Helper()
	for _, one := range strings.Split(text, "; ") {
		next, ok := mustDoEvent(s.t, one, s.w, event(one))
		if !ok {
			s.t.Fatalf("%s is refused by %s", one, showCluster(s.w))
		}
		s.w = next
	}
}

// refuse has an event change nothing.
func (s *stage) refuse(text string) {
	s.t.Helper()
	mustRefuseEvent(s.t, text, s.w, event(text))
}

// deliver has this word heard, wherever in Net it is first.
func (s *stage) deliver(text string) {
	s.t.Helper()
	at := slices.Index(showMsgs(s.w.Net), text)
	if at < 0 {
		s.t.Fatalf("no word %q in %q", text, showMsgs(s.w.Net))
	}
	s.do(fmt.Sprint("deliver ", at))
}

func (s *stage) net(want ...string) {
	s.t.Helper()
	if l := showMsgs(s.w.Net); !slices.Equal(l, want) {
		s.t.Errorf("net: %q, not %q", l, want)
	}
}

func (s *stage) asked(want ...string) {
	s.t.Helper()
	if l := showAsked(s.w.Asked); !slices.Equal(l, want) {
		s.t.Errorf("asked: %q, not %q", l, want)
	}
}

func (s *stage) is(id int, want string) {
	s.t.Helper()
	if got := showReplica(s.w.Reps[id-1]); got != want {
		s.t.Errorf("replica %d: %q, not %q", id, got, want)
	}
}

// someEvent may be refused; what its kind does not name may be anything.
func someEvent(r *rand.Rand, w impl.Cluster) impl.Event {
	place := func(n int) int { return r.Intn(n+2) - 1 }
	e := impl.Event{Kind: impl.EvDeliver, Rep: place(len(w.Reps)), At: place(len(w.Net)), C: someCmd(r)}
	switch k := r.Intn(20); {
	case k < 6:
		e.Kind = impl.EvSubmit
	case k < 8:
		e.Kind = []int{impl.EvDrop, impl.EvDouble, impl.EvAgain, impl.EvReboot}[r.Intn(4)]
	case k == 8:
		e.Kind = r.Intn(10) - 1
	case k == 9:
		e.C = impl.Cmd{Kind: r.Intn(5), Key: []string{"", "k"}[r.Intn(2)], Val: "v"}
	}
	return e
}
