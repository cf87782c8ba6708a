package tests

import (
	"fmt"
	"math/rand"
	"slices"
	"strings"
	"testing"

	"loop.example/g00184/impl"
)

// round is held against the same events, as told and one by one.
func (s *stage) round() {
	s.t.Helper()
	was := s.w
	s.w = mustGoRound(s.t, "by hand", was, slowly)
	if one := roundBy(was, oneByOne(s.t)); !same(one, s.w) {
		s.t.Errorf("one by one: %s, not %s", showCluster(one), showCluster(s.w))
	}
}

func (s *stage) level(want bool) {
	s.t.Helper()
	if got := mustBeLevelAsTold(s.t, "by hand", s.w); got != want {
		s.t.Errorf("level: %v: %s", got, showCluster(s.w))
	}
}

func TestARoundByHand(t *testing.T) {
	s := newStage(t, 3)
	s.level(true)
	s.do("submit 0 put a=1; submit 1 put a=2; submit 2 get a; drop 0; drop 0; reboot 1")
	s.level(false)
	s.net("ask 2>1 2.1 put a=2", "ask 2>3 2.1 put a=2", "ask 3>1 3.1 get a", "ask 3>2 3.1 get a")
	s.round()
	s.net()
	// All of it is told in the first round, for each says its own again.
	s.level(true)
	s.is(1, "next 2; 1.1 put a=1 :2.1,3.1 sure, 2.1 put a=2 :1.1 sure, 3.1 get a :1.1,2.1 sure; done 1.1 2.1 3.1; map a=2; said 1.1-")
	s.is(2, "next 2; 1.1 put a=1 :2.1,3.1 sure, 2.1 put a=2 :1.1 sure, 3.1 get a :1.1,2.1 sure; done 1.1 2.1 3.1; map a=2; said 2.1=1")
	s.is(3, "next 2; 1.1 put a=1 :2.1,3.1 sure, 2.1 put a=2 :1.1 sure, 3.1 get a :1.1,2.1 sure; done 1.1 2.1 3.1; map a=2; said 3.1=2")
	if l := impl.Final(s.w); !same(l, pairs("a=2")) {
		t.Error(l)
	}
	was := s.w
	s.round()
	if !same(s.w, was) {
		t.Error("what is level does not stay")
	}
}

// The replicas say theirs by Ids, and each one's words are all heard ahead of
// the next one's: what is gathered tells in which order.
func TestARoundGoesByIds(t *testing.T) {
	s := newStage(t, 3)
	s.do("submit 2 put k=3; submit 0 put k=1; submit 1 put k=2; drop 0; drop 0; drop 0; drop 0; drop 0; drop 0")
	s.net()
	s.round()
	// The first gathered from the second, which had its own; so did the second from the first; the third from both.
	s.is(1, "next 2; 1.1 put k=1 :2.1 sure, 2.1 put k=2 :1.1 sure, 3.1 put k=3 :1.1,2.1 sure; done 1.1 2.1 3.1; map k=3; said 1.1-")
	s.level(true)

	// Who has nothing to say says nothing.
	for n := 1; n <= 7; n++ {
		w := impl.ClusterNew(n)
		if got := mustGoRound(t, "new", w, oneByOne(t)); !same(got, w) {
			t.Error(n, showCluster(got))
		}
	}
}

// Words that are in Net already are heard ahead of what the first says again.
func TestARoundWithWordsInNet(t *testing.T) {
	s := newStage(t, 3)
	s.do("submit 2 put k=3; submit 0 put k=1")
	s.net("ask 3>1 3.1 put k=3", "ask 3>2 3.1 put k=3", "ask 1>2 1.1 put k=1", "ask 1>3 1.1 put k=1")
	s.round()
	s.level(true)
	s.is(1, "next 2; 1.1 put k=1 :3.1 sure, 3.1 put k=3 :1.1 sure; done 1.1 3.1; map k=3; said 1.1-")
	s.is(3, "next 2; 1.1 put k=1 :3.1 sure, 3.1 put k=3 :1.1 sure; done 1.1 3.1; map k=3; said 3.1=1")

	// Old words that come late: an ask of what is Sure, and an ack of what is told.
	s = newStage(t, 3)
	s.do("submit 0 put k=1; double 0; double 1; deliver 0; double 3; deliver 3")
	s.net("ask 1>3 1.1 put k=1", "ask 1>2 1.1 put k=1", "ask 1>3 1.1 put k=1", "ack 2>1 1.1", "tell 1>2 1.1 put k=1", "tell 1>3 1.1 put k=1")
	s.round()
	s.level(true)
}

// Where Net is full, the first finds no room to say its own again: that takes a second round.
func TestARoundWithAFullNet(t *testing.T) {
	filler := "ask 2>1 2.1 put l=1"
	for n := 2; n <= 5; n++ {
		s := newStage(t, n)
		s.do("submit 0 put k=1; submit 1 put l=1; submit 0 get l")
		for len(s.w.Net) > 0 {
			s.do("drop 0")
		}
		own := 2 * (n - 1)
		for words := mostNet - own - 1; words <= mostNet; words++ {
			w := withWords(s.w, filler, words)
			got := mustGoRound(t, "full", w, impl.Play)
			switch level := impl.Level(got); {
			case words == mostNet && level, words <= mostNet-own && !level:
				t.Error(n, words, level, showCluster(got))
			}
			mustSettle(t, "full", w)
		}
		full := withWords(s.w, filler, mostNet)
		got := mustGoRound(t, "full", full, oneByOne(t))
		if len(got.Net) != 0 || showReplica(got.Reps[0]) != "next 3; 1.1 put k=1, 1.2 get l, 2.1 put l=1 :1.2 sure; acks 1.1<1 1.2<1" {
			t.Error(n, showCluster(got))
		}
		if got := showReplica(got.Reps[1]); got != "next 2; 2.1 put l=1 :1.2 sure" {
			t.Error(n, got)
		}
	}
}

// Who rebooted asks again for what is not Sure, and gathers anew who holds it.
func TestARoundOfWhoRebooted(t *testing.T) {
	s := newStage(t, 5)
	s.do("submit 0 put k=1; deliver 0; deliver 3; submit 1 get k")
	s.is(1, "next 2; 1.1 put k=1; acks 1.1<1 1.1<2")
	s.do("reboot 0; reboot 1")
	s.is(1, "next 2; 1.1 put k=1; acks 1.1<1")
	s.is(2, "next 2; 1.1 put k=1, 2.1 get k :1.1; acks 2.1<2")
	for len(s.w.Net) > 0 {
		s.do("drop 0")
	}
	s.level(false)
	s.round()
	s.level(true)
	s.is(1, "next 2; 1.1 put k=1 sure, 2.1 get k :1.1 sure; done 1.1 2.1; map k=1; said 1.1-")
	s.is(2, "next 2; 1.1 put k=1 sure, 2.1 get k :1.1 sure; done 1.1 2.1; map k=1; said 2.1=1")
	s.do("reboot 0; reboot 1; reboot 2; reboot 3; reboot 4")
	s.level(true)
	s.round()
	s.level(true)
	mustSettle(t, "rebooted", s.w)

	// Sure at one alone, which rebooted: what was told to nobody is told again.
	s = newStage(t, 3)
	s.do("submit 2 put k=1; deliver 0; deliver 1; drop 0; drop 0; drop 0; reboot 2")
	s.is(3, "next 2; 3.1 put k=1 sure; done 3.1; map k=1; said 3.1-")
	s.is(1, "next 1; 3.1 put k=1")
	s.round()
	s.level(true)
	s.is(2, "next 1; 3.1 put k=1 sure; done 3.1; map k=1")

	// All of twelve of each, none of them held by another one, each size.
	for n := 1; n <= 7; n++ {
		w := impl.ClusterNew(n)
		for step := range 12 * n {
			w = impl.Play(w, []impl.Event{{Kind: impl.EvSubmit, Rep: step % n, C: cmd(fmt.Sprint("put k", step%5, "=", step))}})
		}
		w = impl.Play(w, slices.Repeat(events("deliver 0"), 20*(n-1)))
		for len(w.Net) > 0 {
			w = impl.Play(w, slices.Repeat(events("drop 0"), mostEvents))
		}
		for i := range n {
			w = impl.Play(w, []impl.Event{{Kind: impl.EvReboot, Rep: i}})
		}
		mustGoRound(t, fmt.Sprint("all rebooted ", n), w, impl.Play)
		if n <= 5 {
			mustSettle(t, fmt.Sprint("all rebooted ", n), w)
		}
	}
}

// Right replicas that no events lead to: held by nobody, or alone and not Sure.
func TestRoundsThatDoNotLevel(t *testing.T) {
	for what, c := range map[string]struct {
		w     impl.Cluster
		level bool
	}{
		"alone, not Sure":          {clusterOf(1, "1: 1.1 put k=1"), false},
		"held by itself":           {clusterOf(2, "1: 1.1 put k=1"), true},
		"held by nobody, of two":   {withOwn(2, 1), false},
		"held by nobody, of three": {withOwn(3, 1), true},
		"of another one, not Sure": {clusterOf(3, "1: 2.1 put k=1"), false},
		"of another one, Sure":     {clusterOf(3, "1: 2.1 put k=1 sure"), false},
		"behind what nobody knows": {clusterOf(3, "2: 2.1 put k=1 :3.1 sure"), false},
		"other Deps of what is Sure": {clusterOf(3, "1: 1.1 put k=1 sure", "1: 3.1 get l sure", "2: 1.1 put k=1 :3.1 sure", "2: 3.1 get l sure", "3: 1.1 put k=1 sure", "3: 3.1 get l sure"),
			false},
	} {
		mustBeRightCluster(t, what, c.w)
		got := mustGoRound(t, what, c.w, slowly)
		for _, rounds := range []int{1, 2, 3, mostRounds} {
			next := impl.Settled(c.w, rounds)
			if impl.Level(next) != c.level || len(next.Net) != 0 || !same(next, got) {
				t.Error(what, rounds, showCluster(next))
			}
		}
	}
}

// withOwn is a new cluster, but the first has so many of its own, held by nobody.
func withOwn(n int, own int) impl.Cluster { return withReplica(manyOwn(1, n, own)) }

func TestSettledOfEachNumberOfRounds(t *testing.T) {
	t.Parallel()
	r := rand.New(rand.NewSource(12))
	all := map[string]impl.Cluster{"new": impl.ClusterNew(3), "busy": busyCluster(4), "alone": busyCluster(1), "full": fullCluster(), "calm": calmCluster(),
		"full Net": withWords(busyCluster(3), "ask 1>2 1.1 put k=0", mostNet), "very many": tellers(83, 83, 83, 83, 83, 83, 83)}
	for n := 2; n <= 7; n++ {
		all[fmt.Sprint("storm of ", n)] = stormyCluster(r, n, 100, ordinary)
	}
	for what, w := range all {
		mustBeRightCluster(t, what, w)
		rounds := w
		for n := 0; n <= mostRounds; n++ {
			if got := impl.Settled(w, n); !same(got, rounds) {
				t.Errorf("%s: Settled of %d: %s, not %s", what, n, showCluster(got), showCluster(rounds))
			}
			rounds = impl.Round(rounds)
		}
		// And one of some rounds, of one of others.
		if got := impl.Settled(impl.Settled(w, 2), 3); !same(got, impl.Settled(w, 5)) {
			t.Error(what, "in two")
		}
		for _, n := range wrongRounds() {
			if got := impl.Settled(w, n); !same(got, w) {
				t.Errorf("%s: Settled of %d: %s", what, n, showCluster(got))
			}
		}
	}
}

func TestLevelOfThree(t *testing.T) {
	all := func(texts string) string {
		var out []string
		for _, text := range strings.Split(texts, "; ") {
			for id := 1; id <= 3; id++ {
				out = append(out, fmt.Sprint(id, ": ", text))
			}
		}
		return strings.Join(out, "; ")
	}
	cases := []toldCase{
		{"nothing", true, ""},
		{"one command", true, all("1.1 put k=1 sure")},
		{"two that meet", true, all("1.1 put k=1 sure; 2.1 put k=2 :1.1 sure")},
		{"a ring", true, all("1.1 put k=1 :2.1 sure; 2.1 put k=2 :1.1 sure")},
		{"not Sure", false, all("1.1 put k=1")},
		{"two, one is not Sure", false, all("1.1 get l sure; 2.1 put k=2")},
		{"not Done, for another one is not there", false, all("1.1 put k=1 :2.1 sure")},
		{"not Done, for another one is not Sure", false, all("1.1 put k=1 :2.1 sure; 2.1 put k=2")},
		{"nobody was asked for it", true, all("1.1 put k=1 sure") + "; asked 2.2 put k=9"},
		{"two that do not meet, done in another order", true, all("1.1 put k=1 sure; 2.1 put l=2 sure") + "; 2 done 2.1 1.1"},
		{"two that meet, done in another order", false, all("1.1 put k=1 sure; 2.1 put k=2 sure") + "; 2 done 2.1 1.1"},
		{"two gets, done in another order", true, all("1.1 get k sure; 2.1 get k sure; 3.1 put l=1 sure") + "; 3 done 3.1 2.1 1.1; 1 done 2.1 3.1 1.1"},
		{"two alike, done in another order", true, all("1.1 put k=1 sure; 2.1 put k=1 sure") + "; 1 done 2.1 1.1"},
		{"all done in another order", false, all("1.1 put k=1 sure; 2.1 put k=2 sure; 3.1 del k sure") + "; 1 done 1.1 2.1 3.1; 2 done 3.1 1.1 2.1; 3 done 3.1 2.1 1.1"},
	}
	// One is not as the two others.
	for id := 1; id <= 3; id++ {
		var others []string
		for other := 1; other <= 3; other++ {
			if other != id {
				others = append(others, fmt.Sprint(other, ": 1.1 put k=1 sure; ", other, ": 2.1 get l :1.1 sure"))
			}
		}
		two := strings.Join(others, "; ")
		for what, recs := range map[string]string{
			"knows none": "", "knows less": "#: 1.1 put k=1 sure", "knows more": "#: 1.1 put k=1 sure; #: 2.1 get l :1.1 sure; #: 3.1 get m sure",
			"knows one that is not Sure": "#: 1.1 put k=1 sure; #: 2.1 get l :1.1 sure; #: 3.1 get m", "has one that is not Sure": "#: 1.1 put k=1 sure; #: 2.1 get l :1.1",
			"has other Deps": "#: 1.1 put k=1 sure; #: 2.1 get l sure", "has more Deps": "#: 1.1 put k=1 :2.1 sure; #: 2.1 get l :1.1 sure",
			"has one that is not Done": "#: 1.1 put k=1 sure; #: 2.1 get l :1.1,3.1 sure", "has another key": "#: 1.1 put k=1 sure; #: 2.1 get m :1.1 sure",
			"has another kind": "#: 1.1 put k=1 sure; #: 2.1 del l :1.1 sure", "has another value": "#: 1.1 put k=2 sure; #: 2.1 get l :1.1 sure",
			"has another Dot": "#: 1.1 put k=1 sure; #: 3.1 get l :1.1 sure",
		} {
			recs = strings.ReplaceAll(recs, "#", fmt.Sprint(id))
			cases = append(cases, toldCase{fmt.Sprint("replica ", id, " ", what), false, strings.TrimSuffix(two+"; "+recs, "; ")})
		}
		cases = append(cases, toldCase{fmt.Sprint("replica ", id, " as the others"), true, fmt.Sprint(two, "; ", id, ": 1.1 put k=1 sure; ", id, ": 2.1 get l :1.1 sure")})
	}
	mustHoldAsTold(t, "Level", impl.Level, cases)
	for _, c := range cases {
		w := clusterOf(3, strings.Split(c.texts, "; ")...)
		mustBeLevelAsTold(t, c.what, w)
		// With a word in Net it is not level, whatever else is.
		w.Net = []impl.Msg{msg("ask 1>2 1.1 put k=1")}
		if mustBeLevelAsTold(t, c.what+", a word", w) {
			t.Error(c.what, "a word in Net")
		}
	}
}

func TestLevelOfOneAndNone(t *testing.T) {
	if !impl.Level(impl.Cluster{}) || !impl.Level(impl.Cluster{Asked: []impl.Asked{asked("1.1 put k=1")}}) {
		t.Error("none at all is level")
	}
	if impl.Level(impl.Cluster{Net: []impl.Msg{{}}}) || impl.Level(impl.Cluster{Net: []impl.Msg{msg("ask 1>2 1.1 put k=1")}}) {
		t.Error("none at all, a word")
	}
	for n := 1; n <= 7; n++ {
		if !impl.Level(impl.ClusterNew(n)) {
			t.Error(n)
		}
	}
	for texts, want := range map[string]bool{
		"1: 1.1 put k=1 sure": true, "1: 1.1 put k=1": false, "1: 1.1 put k=1 :1.2 sure": false, "1: 1.1 put k=1 :2.1 sure": false, "1: 1.1 put k=1 sure; 1: 1.2 put k=2 sure; 1 done 1.2 1.1": true,
		"1: 1.1 put k=1 sure; 1: 1.2 put k=2 :1.1": false, "1: 1.1 put k=1; 1: 1.2 put k=2 :1.1 sure": false, "1: 2.1 put k=1 sure": true,
	} {
		w := clusterOf(1, strings.Split(texts, "; ")...)
		mustBeRightCluster(t, texts, w)
		if got := mustBeLevelAsTold(t, texts, w); got != want {
			t.Error(texts, got)
		}
	}
	w := impl.Play(impl.ClusterNew(1), events("submit 0 put k=1; submit 0 get k; submit 0 del k; reboot 0"))
	if !impl.Level(w) || !same(mustSettle(t, "alone", w), w) {
		t.Error(showCluster(w))
	}
}

// All is alike but for one thing that Level does not ask for, or does, at each replica of each size.
func TestLevelBentAtEachReplica(t *testing.T) {
	for n := 1; n <= 7; n++ {
		start := impl.ClusterNew(n)
		for i := range n {
			start = impl.Play(start, []impl.Event{{Kind: impl.EvSubmit, Rep: i, C: cmd(fmt.Sprint("put k", i, "=", i))}, {Kind: impl.EvSubmit, Rep: i, C: cmd("put k=1")}})
		}
		start = mustSettle(t, "start", start)
		for i := range n {
			for what, c := range map[string]struct {
				bend  func(r *impl.Replica)
				level bool
			}{
				"as it is":          {func(r *impl.Replica) {}, true},
				"Id":                {func(r *impl.Replica) { r.Id = 9 }, true},
				"N":                 {func(r *impl.Replica) { r.N = 0 }, true},
				"Next":              {func(r *impl.Replica) { r.Next = 99 }, true},
				"Acks":              {func(r *impl.Replica) { r.Acks = []impl.Ack{{D: dot("1.1"), From: 2}} }, true},
				"Said":              {func(r *impl.Replica) { r.Said = nil }, true},
				"Done turned":       {func(r *impl.Replica) { slices.Reverse(r.Done) }, true},
				"Done of more":      {func(r *impl.Replica) { r.Done = append(r.Done, dots("7.9 1.1")...) }, true},
				"Done of less":      {func(r *impl.Replica) { r.Done = r.Done[:len(r.Done)-1] }, false},
				"Done of none":      {func(r *impl.Replica) { r.Done = nil }, false},
				"Done of another":   {func(r *impl.Replica) { r.Done[0] = dot("7.9") }, false},
				"Done twice":        {func(r *impl.Replica) { r.Done[0] = r.Done[1] }, false},
				"not Sure":          {func(r *impl.Replica) { r.Recs[len(r.Recs)-1].Sure = false }, false},
				"no Recs":           {func(r *impl.Replica) { r.Recs = nil }, n == 1},
				"less Recs":         {func(r *impl.Replica) { r.Recs = r.Recs[:len(r.Recs)-1] }, n == 1},
				"Recs turned":       {func(r *impl.Replica) { slices.Reverse(r.Recs) }, n == 1},
				"a Rec twice":       {func(r *impl.Replica) { r.Recs = append(r.Recs, r.Recs[0]) }, n == 1},
				"another Kind":      {func(r *impl.Replica) { r.Recs[1].C.Kind = impl.CmdGet }, n == 1},
				"another Key":       {func(r *impl.Replica) { r.Recs[1].C.Key = "z" }, n == 1},
				"another Val":       {func(r *impl.Replica) { r.Recs[1].C.Val = "z" }, n == 1},
				"more Deps":         {func(r *impl.Replica) { r.Recs[1].Deps = append(r.Recs[1].Deps, dot("7.9")) }, n == 1},
				"another Dep":       {func(r *impl.Replica) { r.Recs[0].Deps = dots("7.9") }, n == 1},
				"no Map":            {func(r *impl.Replica) { r.Map = nil }, n == 1},
				"less in Map":       {func(r *impl.Replica) { r.Map = r.Map[1:] }, n == 1},
				"more in Map":       {func(r *impl.Replica) { r.Map = append(r.Map, impl.Pair{Key: "z"}) }, n == 1},
				"Map turned":        {func(r *impl.Replica) { slices.Reverse(r.Map) }, n == 1},
				"Gone in Map":       {func(r *impl.Replica) { r.Map[0].Gone = true }, n == 1},
				"a key in Map":      {func(r *impl.Replica) { r.Map[0].Key = "" }, n == 1},
				"a value in Map":    {func(r *impl.Replica) { r.Map[len(r.Map)-1].Val = "9" }, n == 1},
				"empty, not none":   {func(r *impl.Replica) { r.Recs[0].Deps = append([]impl.Dot{}, r.Recs[0].Deps...) }, true},
				"a replica of zero": {func(r *impl.Replica) { *r = impl.Replica{} }, n == 1},
			} {
				w := ownCluster(start)
				c.bend(&w.Reps[i])
				if got := mustBeLevelAsTold(t, what, w); got != c.level {
					t.Error(n, i, what, got)
				}
			}
		}
	}
}

func TestFinal(t *testing.T) {
	for what, w := range map[string]impl.Cluster{"none": {}, "a word": {Net: []impl.Msg{{}}}, "new": impl.ClusterNew(3), "busy": busyCluster(3), "at the second alone": clusterOf(3, "2: 2.1 put k=1 sure")} {
		if l := impl.Final(w); len(l) != 0 {
			t.Error(what, l)
		}
	}
	w := clusterOf(3, "1: 1.1 put k=1 sure", "1: 2.1 put b= sure", "1: 1.2 del k :1.1 sure", "1: 3.1 put a=7 sure", "2: 2.1 put b=9 sure")
	if l := impl.Final(w); !same(l, []impl.Pair{{Key: "a", Val: "7"}, {Key: "b"}}) {
		t.Error(l)
	}
	// Of any cluster: the Map as it is.
	w.Reps[0] = impl.Replica{Map: []impl.Pair{{Key: "z", Val: "1", Gone: true}, {}, {Key: "a"}, {Key: "a"}}}
	w.Net = []impl.Msg{{}}
	if l := impl.Final(w); !same(l, w.Reps[0].Map) {
		t.Error(l)
	}
	w.Reps = w.Reps[1:]
	if l := impl.Final(w); !same(l, pairs("b=9")) {
		t.Error(l)
	}
}
