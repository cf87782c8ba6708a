package tests

import (
	"fmt"
	"slices"
	"testing"

	"loop.example/g00184/impl"
)

// withWords is w with copies of this word behind Net, so that it has n.
func withWords(w impl.Cluster, text string, n int) impl.Cluster {
	w = ownCluster(w)
	for len(w.Net) < n {
		w.Net = append(w.Net, msg(text))
	}
	return w
}

// withAsked is w with so many Asked.
func withAsked(w impl.Cluster, n int) impl.Cluster {
	w = ownCluster(w)
	for len(w.Asked) < n {
		w.Asked = append(w.Asked, asked(fmt.Sprint("1.", len(w.Asked)+1, " put k=1")))
	}
	return w
}

// mustLeave has an event happen, and its last words in Net behind as many as there were, or one less.
func mustLeave(t *testing.T, what string, w impl.Cluster, text string, words int, last ...string) impl.Cluster {
	t.Helper()
	next, ok := mustDoEvent(t, what, w, event(text))
	if !ok || len(next.Net) != words || !impl.ClusterOk(next) {
		t.Errorf("%s: %s: %v, %d words, not %d", what, text, ok, len(next.Net), words)
		return next
	}
	if l := showMsgs(next.Net)[words-len(last):]; !slices.Equal(l, last) {
		t.Errorf("%s: %s: %q, not %q", what, text, l, last)
	}
	return next
}

func TestRoomForWhatIsSubmitted(t *testing.T) {
	filler := "ask 2>1 2.1 put x=1"
	a, b := "ask 1>2 1.1 put k=1", "ask 1>3 1.1 put k=1"
	empty := impl.ClusterNew(3)
	for _, c := range []struct {
		words, then int
		last        []string
	}{
		{0, 2, []string{a, b}}, {497, 499, []string{a, b}}, {498, 500, []string{filler, a, b}}, {499, 500, []string{filler, a}}, {500, 500, []string{filler}},
	} {
		w := withWords(empty, filler, c.words)
		next := mustLeave(t, fmt.Sprint(c.words), w, "submit 0 put k=1", c.then, c.last...)
		// It was asked for, and is known, where none of its words goes, too.
		if got := showReplica(next.Reps[0]); got != "next 2; 1.1 put k=1; acks 1.1<1" || len(next.Asked) != 1 {
			t.Error(c.words, got, showAsked(next.Asked))
		}
	}
}

func TestRoomForADoubledWord(t *testing.T) {
	filler, word := "ask 2>1 2.1 put x=1", "ask 2>3 2.1 put x=1 :1.7"
	first := impl.ClusterNew(3)
	first.Net = []impl.Msg{msg(word)}
	for _, c := range []struct {
		words, then int
		last        []string
	}{{1, 2, []string{word, word}}, {498, 499, []string{filler, word}}, {499, 500, []string{filler, word}}, {500, 500, []string{filler, filler}}} {
		w := withWords(first, filler, c.words)
		next := mustLeave(t, fmt.Sprint(c.words), w, "double 0", c.then, c.last...)
		if c.words == 500 && !same(next, w) {
			t.Error("where there is no room, it is not as it was")
		}
	}
	full := withWords(first, filler, 500)
	mustRefuseEvent(t, "full", full, event("double 500"))
	mustRefuseEvent(t, "full", full, event("double -1"))
	// The last place, and one past it.
	mustLeave(t, "full", full, "double 499", 500, filler)
	mustLeave(t, "full", full, "drop 499", 499, filler)
	mustRefuseEvent(t, "full", full, event("drop 500"))
	mustRefuseEvent(t, "full", full, event("deliver 500"))
	// Where a word is lost, there is room for another one.
	mustLeave(t, "less", mustLeave(t, "full", full, "drop 3", 499), "double 0", 500, filler, word)
}

func TestRoomForWhatIsSaidAgain(t *testing.T) {
	s := newStage(t, 3)
	s.do("submit 1 put k=1; submit 1 put l=2; submit 1 get k; drop 0; drop 0; drop 0; drop 0; drop 0; drop 0")
	said := []string{"ask 2>1 2.1 put k=1", "ask 2>3 2.1 put k=1", "ask 2>1 2.2 put l=2", "ask 2>3 2.2 put l=2", "ask 2>1 2.3 get k :2.1", "ask 2>3 2.3 get k :2.1"}
	for words := 490; words <= mostNet; words++ {
		filler := "ask 1>3 1.1 put x=1"
		goes := min(len(said), mostNet-words)
		next := mustLeave(t, fmt.Sprint(words), withWords(s.w, filler, words), "again 1", words+goes, append([]string{filler}, said[:goes]...)...)
		if !same(next.Reps, s.w.Reps) || !same(next.Asked, s.w.Asked) {
			t.Error(words)
		}
		// Who has nothing to say, and a Reboot, do with any room.
		mustLeave(t, "nothing to say", withWords(s.w, filler, words), "again 0", words, filler)
		mustLeave(t, "reboot", withWords(s.w, filler, words), "reboot 1", words, filler)
	}
}

// Of the word that is delivered the room is free.
func TestRoomForWhatIsSaidToAWord(t *testing.T) {
	s := newStage(t, 7)
	s.do("submit 0 put k=1; deliver 0; deliver 0; deliver 0; deliver 3; deliver 3")
	s.is(1, "next 2; 1.1 put k=1; acks 1.1<1 1.1<2 1.1<3")
	s.do("submit 1 put x=1; drop 0; drop 0; drop 0; drop 1; drop 1; drop 1; drop 1; drop 1; drop 1")
	ack, filler := "ack 4>1 1.1", "ask 2>1 2.1 put x=1"
	s.net(ack)
	var tells []string
	for id := 2; id <= 7; id++ {
		tells = append(tells, fmt.Sprint("tell 1>", id, " 1.1 put k=1"))
	}
	for words := 490; words <= mostNet; words++ {
		w := withWords(s.w, filler, words)
		goes := min(len(tells), mostNet-words+1)
		next := mustLeave(t, fmt.Sprint(words), w, "deliver 0", words-1+goes, append([]string{filler}, tells[:goes]...)...)
		if got := showReplica(next.Reps[0]); got != "next 2; 1.1 put k=1 sure; done 1.1; map k=1; said 1.1-" {
			t.Error(words, got)
		}
		// An ask takes one room, and its ack the same.
		next = mustLeave(t, fmt.Sprint(words), w, "deliver 1", words, filler, "ack 1>2 2.1")
		if got := showReplica(next.Reps[0]); got != "next 2; 1.1 put k=1, 2.1 put x=1; acks 1.1<1 1.1<2 1.1<3" {
			t.Error(words, got)
		}
	}
	// What had no room is not said later: it was lost, until it is said again.
	full := withWords(s.w, filler, mostNet)
	w := impl.Play(full, events("deliver 0; drop 0; drop 0; drop 0; drop 0; drop 0; drop 0"))
	if len(w.Net) != 494 || showMsgs(w.Net)[493] != tells[0] {
		t.Error(showMsgs(w.Net)[490:])
	}
	mustLeave(t, "again", w, "again 0", 500, tells...)
}

// A Net that is filled by events alone, and is right all the while.
func TestNetFilledByEvents(t *testing.T) {
	s := newStage(t, 3)
	s.do("submit 0 put k=1; submit 0 put k=2; submit 0 get k")
	w := s.w
	for range 9 {
		w = impl.Play(w, slices.Repeat(events("again 0"), 10))
		if !impl.ClusterOk(w) {
			t.Fatal(len(w.Net))
		}
	}
	if len(w.Net) != mostNet {
		t.Fatal(len(w.Net))
	}
	// Six words 83 times, and of the last six the first two.
	if l := showMsgs(w.Net)[mostNet-3:]; !slices.Equal(l, []string{"ask 1>3 1.3 get k :1.1,1.2", "ask 1>2 1.1 put k=1", "ask 1>3 1.1 put k=1"}) {
		t.Error(l)
	}
	list := slices.Concat(events("again 0; double 7; submit 1 put k=3; deliver 3; deliver 499; again 0; drop 0; double 3; deliver 0; deliver 0"), slices.Repeat(events("deliver 0"), 60))
	got := mustBeOnePlay(t, "full", w, list)
	if want := slowPlay(w, list); !same(got, want) {
		t.Error("not as told")
	}
}

func TestMostWords(t *testing.T) {
	word := "tell 2>1 2.1 put x=1"
	for _, n := range []int{2, 3, 7} {
		for _, words := range []int{499, 500} {
			w := withWords(impl.ClusterNew(n), word, words)
			if !impl.ClusterOk(w) {
				t.Error(n, words)
			}
			mustLeave(t, "most", w, "deliver 17", words-1)
			mustLeave(t, "most", w, "reboot 1", words)
		}
		for _, words := range []int{501, 502, 1000} {
			mustBeNoCluster(t, fmt.Sprint(n, " ", words), withWords(impl.ClusterNew(n), word, words))
		}
	}
}

// 100 were Asked: no Submit any more, all else as ever.
func TestMostAsked(t *testing.T) {
	for _, n := range []int{1, 2, 3, 7} {
		w := withAsked(busyCluster(n), 99)
		next, ok := mustDoEvent(t, "99", w, event("submit 0 put x=1"))
		if !ok || len(next.Asked) != mostAsked || !impl.ClusterOk(next) {
			t.Error(n, ok, len(next.Asked))
		}
		for what, full := range map[string]impl.Cluster{"by events": next, "by hand": withAsked(busyCluster(n), 100)} {
			if !impl.ClusterOk(full) {
				t.Error(n, what)
			}
			for i := range n {
				mustRefuseEvent(t, what, full, impl.Event{Kind: impl.EvSubmit, Rep: i, C: cmd("put x=1")})
			}
			for _, e := range oneOfEach()[1:] {
				got, ok := mustDoEvent(t, what, full, e)
				if word := e.Kind == impl.EvDeliver || e.Kind == impl.EvDrop || e.Kind == impl.EvDouble; ok == (word && n == 1) || !same(got.Asked, full.Asked) {
					t.Error(n, what, e, ok)
				}
			}
		}
		for _, many := range []int{101, 102, 1000} {
			mustBeNoCluster(t, fmt.Sprint(n, " ", many), withAsked(busyCluster(n), many))
		}
		// In a play, those behind the hundredth are refused among others that are not.
		list := slices.Repeat(events("submit 0 get x; again 0; deliver 0"), 4)
		if got := mustBeOnePlay(t, "play", withAsked(busyCluster(n), 98), list); len(got.Asked) != mostAsked {
			t.Error(n, len(got.Asked))
		}
	}
}

// What is behind the first MaxEvents is not done; those that are refused count.
func TestMostEvents(t *testing.T) {
	s := newStage(t, 3)
	s.do("submit 0 put k=1")
	double, refused := event("double 0"), event("drop 999")
	for _, c := range []struct{ first, wrong, behind, words int }{
		{198, 0, 0, 200}, {199, 0, 0, 201}, {200, 0, 0, 202}, {200, 0, 1, 202}, {199, 0, 1, 202}, {199, 0, 2, 202}, {200, 0, 300, 202},
		{0, 200, 1, 2}, {0, 199, 1, 3}, {0, 199, 2, 3}, {100, 100, 5, 102}, {100, 99, 5, 103}, {0, 1000, 0, 2}, {0, 0, 5000, 202},
	} {
		list := slices.Concat(slices.Repeat([]impl.Event{double}, c.first), slices.Repeat([]impl.Event{refused}, c.wrong), slices.Repeat([]impl.Event{double}, c.behind))
		got := impl.Play(s.w, list)
		if len(got.Net) != c.words || !same(got, impl.Play(s.w, list[:min(len(list), 200)])) {
			t.Error(c, len(got.Net))
		}
		if want := slowPlay(s.w, list); !same(got, want) {
			t.Error(c, "not as told")
		}
	}
	// The 200th and the 201st are told apart.
	list := append(slices.Repeat([]impl.Event{refused}, 199), event("submit 1 put k=2"), event("submit 2 put k=3"))
	if got := mustBeOnePlay(t, "last", s.w, list); !slices.Equal(showAsked(got.Asked), []string{"1.1 put k=1", "2.1 put k=2"}) {
		t.Error(showAsked(got.Asked))
	}
}

// withReplica is a new cluster but for one replica.
func withReplica(r impl.Replica) impl.Cluster {
	w := impl.ClusterNew(r.N)
	w.Reps[r.Id-1] = r
	return w
}

// Submit is refused for each reason that chapter 9 names.
func TestSubmitsThatAreRefused(t *testing.T) {
	w := busyCluster(3)
	for why, c := range wrongCmds() {
		for i := range 3 {
			mustRefuseEvent(t, why, w, impl.Event{Kind: impl.EvSubmit, Rep: i, C: c})
		}
	}
	// Twelve, and the thirteenth.
	for _, n := range []int{1, 3} {
		list := slices.Repeat(events("submit 0 get k"), 13)
		w := mustBeOnePlay(t, "twelve", impl.ClusterNew(n), list)
		if len(w.Asked) != 12 || w.Reps[0].Next != 13 || len(w.Net) != 12*(n-1) {
			t.Error(n, len(w.Asked))
		}
		mustRefuseEvent(t, "the thirteenth", w, event("submit 0 get zz"))
		if n == 3 {
			if _, ok := mustDoEvent(t, "of another one", w, event("submit 1 get zz")); !ok {
				t.Error("another one is refused")
			}
		}
	}
	// 89 Recs and 90, 60 that Meet it and 61.
	for _, c := range []struct {
		known int
		texts string
		c     string
		ok    bool
	}{
		{89, "get a", "put x=1", true}, {90, "get a", "put x=1", false}, {89, "get a", "get a", true}, {90, "get a", "get a", false},
		{60, "put k=1", "get k", true}, {61, "put k=1", "get k", false}, {61, "put k=1", "put l=1", true}, {61, "get k", "get k", true}, {61, "get k", "del k", false},
	} {
		w := withReplica(knowing(c.known, c.texts))
		if !impl.ClusterOk(w) {
			t.Error(c)
		}
		next, ok := mustDoEvent(t, "known", w, event("submit 0 "+c.c))
		if ok != c.ok || len(next.Asked) != map[bool]int{true: 1}[ok] || len(next.Net) != map[bool]int{true: 6}[ok] {
			t.Error(c, ok)
		}
		if _, ok := mustDoEvent(t, "known", w, event("submit 1 "+c.c)); !ok {
			t.Error(c, "at another one")
		}
		list := events("submit 0 " + c.c + "; submit 1 put k=7; submit 0 " + c.c + "; deliver 0; deliver 0")
		if got, want := mustBeOnePlay(t, "known", w, list), slowPlay(w, list); !same(got, want) {
			t.Error(c, showCluster(got))
		}
	}
}
