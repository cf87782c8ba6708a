package tests

import (
	"fmt"
	"math"
	"math/rand"
	"reflect"
	"slices"
	"testing"

	"loop.example/g00184/impl"
)

// ownReplica is r in memory of its own.
func ownReplica(r impl.Replica) impl.Replica {
	return copyValue(reflect.ValueOf(r), func(s reflect.Value) reflect.Value {
		return reflect.MakeSlice(s.Type(), s.Len(), s.Len())
	}).Interface().(impl.Replica)
}

// fullLife is right, and has something of all there is: own commands and
// others', Sure and not, done and waiting, held by some.
func fullLife() impl.Replica {
	r := replica("2/5", "1.1 put k=1 sure", "1.2 put k=2 :1.1,2.1", "2.1 get k :1.1 sure", "2.2 put l=5 sure", "2.3 put k=3 :1.1,1.2,2.1",
		"2.4 del l :2.2", "2.5 put k=6 :1.1,1.2,2.1,2.3 sure", "2.6 get l :2.2 sure", "3.1 put m=9 sure", "3.2 put k=4 :3.7 sure", "4.1 get m :3.1")
	r.Acks = []impl.Ack{{D: dot("2.3"), From: 2}, {D: dot("2.3"), From: 4}, {D: dot("2.4"), From: 2}}
	return r
}

func TestAFullLife(t *testing.T) {
	r := fullLife()
	mustStand(t, "full", r)
	want := "next 7; 1.1 put k=1 sure, 1.2 put k=2 :1.1,2.1, 2.1 get k :1.1 sure, 2.2 put l=5 sure, 2.3 put k=3 :1.1,1.2,2.1, 2.4 del l :2.2, " +
		"2.5 put k=6 :1.1,1.2,2.1,2.3 sure, 2.6 get l :2.2 sure, 3.1 put m=9 sure, 3.2 put k=4 :3.7 sure, 4.1 get m :3.1; " +
		"acks 2.3<2 2.3<4 2.4<2; done 1.1 2.1 2.2 2.6 3.1; map k=1 l=5 m=9; said 2.1=1 2.2- 2.6=5"
	if got := showReplica(r); got != want {
		t.Error(got)
	}
}

type change struct {
	why  string
	make func(r *impl.Replica)
}

func wrongSeats() []change {
	var out []change
	for _, id := range []int{math.MinInt, -1, 0, 1, 3, 5, 6, 7, 8, math.MaxInt} {
		out = append(out, change{fmt.Sprint("Id ", id), func(r *impl.Replica) { r.Id = id }})
	}
	for _, n := range []int{math.MinInt, -1, 0, 1, 8, 9, math.MaxInt} {
		out = append(out, change{fmt.Sprint("N ", n), func(r *impl.Replica) { r.N = n }})
	}
	for _, next := range []int{math.MinInt, -1, 0, 1, 2, 6, 8, 9, 12, 13, 14, 1000, math.MaxInt} {
		out = append(out, change{fmt.Sprint("Next ", next), func(r *impl.Replica) { r.Next = next }})
	}
	return out
}

func dropRec(d string) func(r *impl.Replica) {
	return func(r *impl.Replica) {
		r.Recs = slices.DeleteFunc(r.Recs, func(x impl.Rec) bool { return x.D == dot(d) })
		r.Acks = slices.DeleteFunc(r.Acks, func(a impl.Ack) bool { return a.D == dot(d) })
	}
}

// addRec has it in its place by less, right or not.
func addRec(r *impl.Replica, x impl.Rec) {
	at := slices.IndexFunc(r.Recs, func(y impl.Rec) bool { return slowDotLess(x.D, y.D) })
	if at < 0 {
		at = len(r.Recs)
	}
	r.Recs = slices.Insert(r.Recs, at, x)
}

func wrongOwnRecs() []change {
	var out []change
	for _, d := range []string{"2.3", "2.4", "2.5"} {
		out = append(out, change{"own Rec gone " + d, dropRec(d)})
	}
	for _, text := range []string{"2.7 get x", "2.8 get x", "2.999 put x=1", "2.7 get x sure"} {
		out = append(out, change{"own Rec more " + text, func(r *impl.Replica) { addRec(r, rec(text)) }})
	}
	return append(out,
		change{"own Rec gone and another one there", func(r *impl.Replica) {
			dropRec("2.4")(r)
			addRec(r, rec("2.7 get x"))
		}},
		change{"own Recs none", func(r *impl.Replica) { *r = impl.Replica{Id: 2, N: 5, Next: 7} }})
}

func wrongRecs() []change {
	out := []change{
		{"two Recs changed about", func(r *impl.Replica) { r.Recs[0], r.Recs[1] = r.Recs[1], r.Recs[0] }},
		{"the last Recs changed about", func(r *impl.Replica) { r.Recs[9], r.Recs[10] = r.Recs[10], r.Recs[9] }},
		{"Recs reversed", func(r *impl.Replica) { slices.Reverse(r.Recs) }},
		{"a Rec twice", func(r *impl.Replica) { r.Recs = slices.Insert(r.Recs, 1, r.Recs[1]) }},
		{"the last Rec twice", func(r *impl.Replica) { r.Recs = append(r.Recs, r.Recs[10]) }},
		{"91 Recs", func(r *impl.Replica) {
			for n := 1; len(r.Recs) < mostRecs+1; n++ {
				addRec(r, impl.Rec{D: impl.Dot{R: 5, N: n}, C: cmd("get x")})
			}
		}},
		{"far too many Recs", func(r *impl.Replica) { r.Recs = slices.Repeat(r.Recs, 500) }},
		{"a Sure one is not", func(r *impl.Replica) { r.Recs[0].Sure = false }},
		{"an own Sure one is not", func(r *impl.Replica) { r.Recs[3].Sure = false }},
		{"one is Sure that is not, and could be done", func(r *impl.Replica) { r.Recs[10].Sure = true }},
		{"an own one is Sure that is held", func(r *impl.Replica) { r.Recs[5].Sure = true }},
	}
	for _, d := range wrongDots() {
		out = append(out, change{fmt.Sprint("Rec of ", d), func(r *impl.Replica) { addRec(r, impl.Rec{D: d, C: cmd("get x")}) }})
	}
	for why, c := range wrongCmds() {
		out = append(out,
			change{"Cmd of one not Sure: " + why, func(r *impl.Replica) { r.Recs[10].C = c }},
			change{"Cmd of one Sure that waits: " + why, func(r *impl.Replica) { r.Recs[9].C = c }},
			change{"Cmd of an own one: " + why, func(r *impl.Replica) { r.Recs[5].C = c }})
	}
	return out
}

// wrongDeps are told of one that is not Sure, of one that waits, and of an own one.
func wrongDeps() []change {
	var out []change
	for why, it := range wrongItems() {
		for _, at := range []int{10, 9, 5} {
			if len(it.Deps) == 0 {
				continue
			}
			out = append(out, change{fmt.Sprint("Deps of Rec ", at, ": ", why), func(r *impl.Replica) {
				r.Recs[at].Deps = slices.Clone(it.Deps)
				for i, d := range it.Deps {
					if d == it.D {
						r.Recs[at].Deps[i] = r.Recs[at].D
					}
				}
			}})
		}
	}
	return slices.DeleteFunc(out, func(c change) bool {
		r := ownReplica(fullLife())
		c.make(&r)
		return slowReplicaOk(r)
	})
}

func wrongAcks() []change {
	list := func(text string) func(r *impl.Replica) {
		return func(r *impl.Replica) {
			r.Acks = nil
			for _, d := range dots(text) {
				// Read as From, behind the Dot's R and N.
				r.Acks = append(r.Acks, impl.Ack{D: impl.Dot{R: d.R, N: d.N / 10}, From: d.N % 10})
			}
		}
	}
	var out []change
	for why, text := range map[string]string{
		"of another's": "1.21 2.32 2.42", "of another's, alone": "4.14", "of what is not known": "2.32 2.42 2.72", "of an own one that is Sure": "2.12 2.32 2.42",
		"of an own one that is Sure and waits": "2.32 2.42 2.52", "From 0": "2.30 2.32 2.42", "From above N": "2.32 2.36 2.42", "From far above N": "2.32 2.42 2.49",
		"not by D": "2.42 2.32", "not by From": "2.34 2.32 2.42", "twice": "2.32 2.32 2.42", "twice at the end": "2.32 2.42 2.42", "once more at the end": "2.32 2.42 2.32",
		"of no Dot": "0.2 2.32 2.42", "by From, not by D": "2.32 2.42 2.34",
	} {
		out = append(out, change{"Acks " + why, list(text)})
	}
	return append(out, change{"Acks From below 0", func(r *impl.Replica) { r.Acks = append([]impl.Ack{{D: dot("2.3"), From: -1}}, r.Acks...) }},
		change{"Acks far too many", func(r *impl.Replica) { r.Acks = slices.Repeat(r.Acks, 1000) }})
}

func wrongDone() []change {
	out := []change{
		{"Done none", func(r *impl.Replica) { r.Done = nil }},
		{"Done far too many", func(r *impl.Replica) { r.Done = slices.Repeat(r.Done, 1000) }},
		{"Done in another order, Said not", func(r *impl.Replica) { slices.Reverse(r.Done) }},
	}
	for i := range 5 {
		out = append(out,
			change{fmt.Sprint("Done lacks ", i), func(r *impl.Replica) { r.Done = slices.Delete(r.Done, i, i+1) }},
			change{fmt.Sprint("Done twice ", i), func(r *impl.Replica) { r.Done = append(r.Done, r.Done[i]) }},
			change{fmt.Sprint("Done in the place of another ", i), func(r *impl.Replica) { r.Done[i] = r.Done[(i+1)%5] }})
	}
	for _, d := range append(dots("1.2 2.3 2.4 2.5 3.2 3.7 4.1 2.7 5.5"), wrongDots()...) {
		out = append(out, change{fmt.Sprint("Done, too: ", d), func(r *impl.Replica) { r.Done = append(r.Done, d) }},
			change{fmt.Sprint("Done instead: ", d), func(r *impl.Replica) { r.Done[4] = d }})
	}
	return out
}

func wrongMapsAndSaid() []change {
	var out []change
	for _, text := range []string{"", "k=1 l=5", "k=1 m=9", "l=5 m=9", "k=2 l=5 m=9", "k= l=5 m=9", "k=1 l=5 m=9 x=1", "a=1 k=1 l=5 m=9", "k=1 l=5 m=9 x-", "k=1 l=5 m=9 m=9",
		"k=1 k=1 l=5 m=9", "l=5 k=1 m=9", "m=9 l=5 k=1", "k=1 l=5 m-", "K=1 l=5 m=9", "=1 k=1 l=5 m=9"} {
		out = append(out, change{"Map " + text, func(r *impl.Replica) { r.Map = pairs(text) }})
	}
	out = append(out, change{"Map of what is Gone, with a Val", func(r *impl.Replica) { r.Map[0].Gone = true }})
	said := fullLife().Said
	for why, list := range map[string][]impl.Answer{
		"none": nil, "lacks the first": said[1:], "lacks the last": said[:2], "lacks one": {said[0], said[2]},
		"in another order": {said[1], said[0], said[2]}, "twice": append(slices.Clone(said), said[2]), "of another's": append([]impl.Answer{{D: dot("1.1")}}, said...),
		"of one not done": append(slices.Clone(said), impl.Answer{D: dot("2.3"), Val: "1", Has: true}),
		"another Val":     {{D: dot("2.1"), Val: "2", Has: true}, said[1], said[2]}, "a Val, and nothing there": {{D: dot("2.1"), Val: "1"}, said[1], said[2]},
		"nothing there": {{D: dot("2.1")}, said[1], said[2]}, "something there": {said[0], {D: dot("2.2"), Has: true}, said[2]},
		"another Dot": {said[0], said[1], {D: dot("2.4"), Val: "5", Has: true}}, "what it makes": {said[0], {D: dot("2.2"), Val: "5", Has: true}, said[2]},
		"the last again": append(slices.Clone(said[1:]), said[0]),
	} {
		out = append(out, change{"Said " + why, func(r *impl.Replica) { r.Said = slices.Clone(list) }})
	}
	return out
}

// wrongReplicas are not as told, each for one reason.
func wrongReplicas() map[string]impl.Replica {
	out := map[string]impl.Replica{"nothing": {}, "nothing but Next": {Next: 1}, "no N": {Id: 1, Next: 1}, "no Id": {N: 1, Next: 1}, "no Next": {Id: 1, N: 1}}
	for _, c := range slices.Concat(wrongSeats(), wrongOwnRecs(), wrongRecs(), wrongDeps(), wrongAcks(), wrongDone(), wrongMapsAndSaid()) {
		r := ownReplica(fullLife())
		c.make(&r)
		out[c.why] = r
	}
	return out
}

func TestWrongReplicas(t *testing.T) {
	all := wrongReplicas()
	if len(all) < 200 {
		t.Error("only", len(all))
	}
	for why, r := range all {
		mustBeNoReplica(t, why, r)
	}
}

// Where a replica is new but for one thing, nothing else can be what is wrong.
func TestNewReplicasWithOneThingWrong(t *testing.T) {
	for n := 1; n <= 7; n++ {
		for id := 1; id <= n; id++ {
			r := impl.ReplicaNew(id, n)
			mustStand(t, "new", r)
			for why, make := range map[string]func(r *impl.Replica){
				"Next 0": func(r *impl.Replica) { r.Next = 0 }, "Next 2": func(r *impl.Replica) { r.Next = 2 },
				"Acks": func(r *impl.Replica) { r.Acks = []impl.Ack{{D: impl.Dot{R: id, N: 1}, From: id}} },
				"Done": func(r *impl.Replica) { r.Done = []impl.Dot{{R: id, N: 1}} },
				"Map":  func(r *impl.Replica) { r.Map = pairs("k=1") }, "Map of what is Gone": func(r *impl.Replica) { r.Map = pairs("k-") },
				"Said":    func(r *impl.Replica) { r.Said = []impl.Answer{{D: impl.Dot{R: id, N: 1}}} },
				"own Rec": func(r *impl.Replica) { r.Recs = []impl.Rec{{D: impl.Dot{R: id, N: 1}, C: cmd("get k")}} },
			} {
				bent := r
				make(&bent)
				mustBeNoReplica(t, why, bent)
			}
		}
	}
}

// Right, though no words from a new replica lead there: the chapter names nothing against them.
func TestOddReplicasThatAreRight(t *testing.T) {
	for why, make := range map[string]func(r *impl.Replica){
		"held by nobody":     func(r *impl.Replica) { r.Acks = nil },
		"not held by itself": func(r *impl.Replica) { r.Acks = []impl.Ack{{D: dot("2.3"), From: 4}} },
		"held by all": func(r *impl.Replica) {
			r.Acks = nil
			for id := range 5 {
				r.Acks = append(r.Acks, impl.Ack{D: dot("2.4"), From: id + 1})
			}
		},
		"a Rec of a Dot above N": func(r *impl.Replica) { addRec(r, rec("7.1 put x=1 sure")); *r = redone(*r, "1.1 2.1 2.2 2.6 3.1 7.1") },
		"Deps above N":           func(r *impl.Replica) { r.Recs[10].Deps = dots("3.1 6.1 7.999") },
		"Done in another order":  func(r *impl.Replica) { *r = redone(*r, "3.1 2.2 2.6 1.1 2.1") },
		"Done against its Deps":  func(r *impl.Replica) { *r = redone(*r, "2.6 2.1 2.2 1.1 3.1") },
	} {
		r := ownReplica(fullLife())
		make(&r)
		mustBeReplicaAsTold(t, why, r)
		if !impl.ReplicaOk(r) {
			t.Error(why, showReplica(r))
		}
	}
	// More own commands than may be asked for.
	r := impl.ReplicaNew(2, 3)
	for n := 1; n <= 20; n++ {
		r.Recs, r.Next = append(r.Recs, impl.Rec{D: impl.Dot{R: 2, N: n}, C: cmd("get k")}), n+1
		mustBeReplicaAsTold(t, "many of its own", r)
	}
	// Alone, and yet not Sure: nobody is left to ask, others are done still.
	r = impl.Replica{Id: 1, N: 1, Next: 2, Recs: []impl.Rec{rec("1.1 put k=1")}, Acks: []impl.Ack{{D: dot("1.1"), From: 1}}}
	mustBeReplicaAsTold(t, "alone", r)
	next, _, _ := mustSubmit(t, "alone", r, cmd("put l=1"))
	if got := showReplica(next); got != "next 3; 1.1 put k=1, 1.2 put l=1 sure; acks 1.1<1; done 1.2; map l=1; said 1.2-" {
		t.Error(got)
	}
	next, _, _ = mustSubmit(t, "alone", r, cmd("get k"))
	if got := showReplica(next); got != "next 3; 1.1 put k=1, 1.2 get k :1.1 sure; acks 1.1<1" {
		t.Error(got)
	}
}

// redone did these in this order, with what they make and say then.
func redone(r impl.Replica, done string) impl.Replica {
	p := plainReplicaOf(r)
	acks := r.Acks
	p.r.Done = dots(done)
	r = p.replica()
	r.Acks = acks
	return r
}

// wrongWords are not right for fullLife, each for one reason.
func wrongWords() map[string]impl.Msg {
	out := map[string]impl.Msg{"nothing": {}, "nothing but a Kind": {Kind: impl.MsgAck}}
	right := rightWords()
	for i, text := range []string{
		// To another one, from itself, from none of N.
		"ask 1>3 1.9 put k=1", "ask 1>1 1.9 put k=1", "ask 2>2 2.3 put k=3", "ask 2>2 2.9 put k=3", "tell 2>2 2.3 put k=3", "ack 2>2 2.3", "tell 1>3 1.9 put k=1", "ack 1>3 2.3", "ack 4>3 2.3",
		"ask 0>2 1.9 put k=1", "ask 6>2 6.9 put k=1", "tell 6>2 6.9 put k=1", "tell 0>2 1.9 put k=1", "ack 0>2 2.3", "ack 6>2 2.3", "ack 7>2 2.3", "ask 1>0 1.9 put k=1", "ask 1>6 1.9 put k=1",
		// Not from the Dot's own R, not to it.
		"ask 1>2 3.9 put k=1", "ask 3>2 1.9 put k=1", "ask 1>2 2.3 put k=3", "tell 1>2 3.1 put m=9", "tell 5>2 1.1 put k=1", "tell 4>2 2.3 put k=3", "tell 1>2 2.9 put k=3",
		"ack 1>2 1.1", "ack 3>2 1.1", "ack 4>2 4.1", "ack 3>2 3.2",
		// None that it has.
		"ack 1>2 2.7", "ack 1>2 2.999", "ack 1>2 2.8",
		// With a Cmd.
		"ack 1>2 2.3 put k=3", "ack 1>2 2.3 get k", "ack 1>2 2.1 get k",
		// Deps of none of N, itself among them.
		"ask 1>2 1.9 put k=1 :6.1", "ask 1>2 1.9 put k=1 :2.1,7.999", "tell 1>2 1.9 put k=1 :6.1", "ack 1>2 2.3 :6.1", "ack 1>2 2.3 :1.1,2.1,7.1",
		"ask 1>2 1.9 put k=1 :1.9", "tell 1>2 1.9 put k=1 :1.8,1.9,2.1", "ack 1>2 2.3 :2.3", "ask 1>2 1.1 put k=1 :1.1",
	} {
		out[fmt.Sprint(i, " ", text)] = msg(text)
	}
	for what, m := range right {
		for _, kind := range []int{math.MinInt, -1, 0, 4, 5, math.MaxInt} {
			out[fmt.Sprint(what, " Kind ", kind)] = impl.Msg{Kind: kind, From: m.From, To: m.To, D: m.D, C: m.C, Deps: m.Deps}
		}
		for _, id := range []int{math.MinInt, -1, 0, 2, 6, 7, 8, math.MaxInt} {
			out[fmt.Sprint(what, " From ", id)] = impl.Msg{Kind: m.Kind, From: id, To: m.To, D: m.D, C: m.C, Deps: m.Deps}
			if id != 2 {
				out[fmt.Sprint(what, " To ", id)] = impl.Msg{Kind: m.Kind, From: m.From, To: id, D: m.D, C: m.C, Deps: m.Deps}
			}
		}
		for _, d := range wrongDots() {
			out[fmt.Sprint(what, " of ", d)] = impl.Msg{Kind: m.Kind, From: m.From, To: m.To, D: d, C: m.C, Deps: m.Deps}
			if m.Kind != impl.MsgAck {
				// From who is no other one, but the Dot's own R.
				out[fmt.Sprint(what, " of and from ", d)] = impl.Msg{Kind: m.Kind, From: d.R, To: m.To, D: d, C: m.C, Deps: m.Deps}
			}
		}
		for why, c := range wrongCmds() {
			if m.Kind != impl.MsgAck || c != (impl.Cmd{}) {
				out[fmt.Sprint(what, " Cmd ", why)] = impl.Msg{Kind: m.Kind, From: m.From, To: m.To, D: m.D, C: c, Deps: m.Deps}
			}
		}
		for why, it := range wrongItems() {
			if len(it.Deps) > 0 && slowDotsOk([]impl.Dot{it.D}, 1) && !slices.Contains(it.Deps, it.D) {
				out[fmt.Sprint(what, " Deps ", why)] = impl.Msg{Kind: m.Kind, From: m.From, To: m.To, D: m.D, C: m.C, Deps: it.Deps}
			}
		}
	}
	return out
}

// rightWords are right for fullLife.
func rightWords() map[string]impl.Msg {
	out := map[string]impl.Msg{}
	for _, text := range []string{
		"ask 1>2 1.9 put k=1 :1.1,5.5", "ask 1>2 1.2 put k=2", "ask 1>2 1.1 put k=1", "ask 5>2 5.999 get zz", "ask 4>2 4.1 get m",
		"tell 1>2 1.9 put k=1 :1.1,5.5", "tell 1>2 1.2 put k=2", "tell 1>2 1.1 put k=1", "tell 3>2 3.7 del k", "tell 4>2 4.1 get m :3.1",
		"ack 1>2 2.3 :1.1,5.5", "ack 4>2 2.3", "ack 5>2 2.3 :1.2", "ack 3>2 2.4 :2.2", "ack 1>2 2.1", "ack 3>2 2.5 :4.4",
	} {
		out[text] = msg(text)
	}
	return out
}

func TestRightWords(t *testing.T) {
	r := fullLife()
	for what, m := range rightWords() {
		if !impl.MsgOk(r, m) {
			t.Error(what)
		}
		next, _ := mustHear(t, what, r, m)
		mustStand(t, what, next)
	}
}

func TestWrongWords(t *testing.T) {
	r := fullLife()
	all := wrongWords()
	if len(all) < 500 {
		t.Error("only", len(all))
	}
	for why, m := range all {
		if impl.MsgOk(r, m) || slowMsgOk(r, m) {
			t.Errorf("%s: right: %v", why, m)
		}
		if next, said := impl.Hear(r, m); !same(next, r) || len(said) != 0 {
			t.Errorf("%s: Hear of %v: %s, %q", why, m, showReplica(next), showMsgs(said))
		}
	}
}

// A word that is right for one is right for no other one.
func TestWordsForAnother(t *testing.T) {
	w := newTalk(t, 7)
	for id := 1; id <= 7; id++ {
		next, said, _ := mustSubmit(t, "asked", w.at(id), cmd("put k=1"))
		w.reps[id-1] = next
		for _, m := range said {
			for _, r := range w.reps {
				if impl.MsgOk(r, m) != (r.Id == m.To) {
					t.Error(showMsg(m), r.Id)
				}
				mustHear(t, "asked", r, m)
			}
		}
	}
}

// Whether a word is right hangs on the replica's Id, N and what it has: what is
// wrong elsewhere changes nothing.
func TestWordsForWrongReplicas(t *testing.T) {
	right, wrong := rightWords(), wrongWords()
	alike, others := 0, 0
	for why, r := range wrongReplicas() {
		if !asksAlike(r, fullLife()) {
			others++
			mustFitAsTold(t, why, r, right)
			mustFitAsTold(t, why, r, wrong)
			continue
		}
		alike++
		for what, m := range right {
			if !impl.MsgOk(r, m) {
				t.Errorf("%s: no right word: %s", why, what)
			}
			mustNotBeHeard(t, why, r, m)
		}
		for what, m := range wrong {
			if impl.MsgOk(r, m) {
				t.Errorf("%s: a right word: %s", why, what)
			}
		}
	}
	if alike < 150 || others < 20 {
		t.Error("alike:", alike, "others:", others)
	}
}

// asksAlike is of two that are alike in all that a word must fit.
func asksAlike(a impl.Replica, b impl.Replica) bool {
	return a.Id == b.Id && a.N == b.N && slices.Equal(ownDotsOf(a), ownDotsOf(b))
}

// ownDotsOf are those that a MsgAck may be of, ascending, each once.
func ownDotsOf(r impl.Replica) []impl.Dot {
	var out []impl.Dot
	for _, x := range r.Recs {
		if x.D.R == r.Id {
			out = append(out, x.D)
		}
	}
	return slices.Compact(sortDots(out))
}

func mustFitAsTold(t *testing.T, why string, r impl.Replica, words map[string]impl.Msg) {
	t.Helper()
	for what, m := range words {
		if ok := impl.MsgOk(r, m); ok != slowMsgOk(r, m) {
			t.Errorf("%s: MsgOk of %s: %v", why, what, ok)
		}
	}
}

// Each word is asked of a replica that is not right, for the reason named.
func TestWordsForWrongReplicasByHand(t *testing.T) {
	own := []impl.Rec{rec("1.1 put k=1")}
	seat := func(id int, n int, recs ...string) impl.Replica {
		r := impl.Replica{Id: id, N: n, Next: 500}
		for _, text := range recs {
			r.Recs = append(r.Recs, rec(text))
		}
		return r
	}
	for _, c := range []struct {
		why  string
		r    impl.Replica
		m    string
		want bool
	}{
		{"Next, and no Recs", impl.Replica{Id: 1, N: 2, Next: 2}, "ask 2>1 2.1 put b=1", true},
		{"Next, and no Recs", impl.Replica{Id: 1, N: 2, Next: 2}, "tell 2>1 2.1 put b=1", true},
		{"Next, and no Recs", impl.Replica{Id: 1, N: 2, Next: 2}, "ack 2>1 1.1", false},
		{"Next", impl.Replica{Id: 1, N: 2, Recs: own}, "ack 2>1 1.1", true},
		{"Map", impl.Replica{Id: 1, N: 2, Next: 2, Recs: own, Map: pairs("z=1")}, "ack 2>1 1.1", true},
		{"Acks", impl.Replica{Id: 1, N: 2, Next: 2, Recs: own, Acks: []impl.Ack{{D: dot("1.2"), From: 1}}}, "ack 2>1 1.1", true},
		{"Said", impl.Replica{Id: 1, N: 2, Next: 2, Recs: own, Said: []impl.Answer{{D: dot("1.1")}}}, "ack 2>1 1.1 :2.1", true},
		{"Sure and not Done", seat(1, 2, "1.1 put k=1 sure"), "ack 2>1 1.1", true},
		{"not ascending, first", seat(1, 2, "1.3 get k", "1.2 get k", "1.1 get k"), "ack 2>1 1.3", true},
		{"not ascending, between", seat(1, 2, "1.3 get k", "1.2 get k", "1.1 get k"), "ack 2>1 1.2", true},
		{"not ascending, last", seat(1, 2, "1.3 get k", "1.2 get k", "1.1 get k"), "ack 2>1 1.1", true},
		{"not ascending, not there", seat(1, 2, "1.3 get k", "1.2 get k", "1.1 get k"), "ack 2>1 1.4", false},
		{"twice", seat(1, 2, "2.1 get k", "2.1 get k", "1.1 get k", "1.1 get k"), "ack 2>1 1.1", true},
		{"no Cmd", impl.Replica{Id: 1, N: 2, Recs: []impl.Rec{{D: dot("1.1")}}}, "ack 2>1 1.1", true},
		// The Id is none of N: no Dot of its own is.
		{"Id above N", seat(5, 2, "5.1 get k"), "ask 2>5 2.1 put k=1 :1.1", true},
		{"Id above N", seat(5, 2, "5.1 get k"), "tell 1>5 1.1 put k=1 :2.1", true},
		{"Id above N", seat(5, 2, "5.1 get k"), "ack 2>5 5.1", false},
		{"Id above N", seat(5, 2, "5.1 get k"), "ask 3>5 3.1 put k=1", false},
		{"Id above N, with Deps of its own", seat(5, 2, "5.1 get k"), "ask 2>5 2.1 put k=1 :5.1", false},
		{"Id 0", seat(0, 2), "ask 2>0 2.1 put k=1", true},
		{"Id 0", impl.Replica{N: 2, Recs: []impl.Rec{{D: impl.Dot{N: 1}, C: cmd("get k")}}}, "ack 2>0 0.1", false},
		// All of N 9 are others, but Dots of 8 and 9 are not right.
		{"N 9", seat(1, 9, "1.1 get k"), "ack 9>1 1.1 :7.999", true},
		{"N 9", seat(1, 9, "1.1 get k"), "ack 10>1 1.1", false},
		{"N 9", seat(1, 9, "1.1 get k"), "ask 7>1 7.1 get k", true},
		{"N 9", seat(1, 9, "1.1 get k"), "ask 8>1 8.1 get k", false},
		{"N 9", seat(1, 9, "1.1 get k"), "ack 2>1 1.1 :8.1", false},
		{"N 9, Id 8", seat(8, 9, "8.1 get k"), "ack 2>8 8.1", false},
		{"N 0", seat(1, 0, "1.1 get k"), "ask 2>1 2.1 get k", false},
		{"N 0", seat(1, 0, "1.1 get k"), "ack 2>1 1.1", false},
		{"N 1", seat(1, 1, "1.1 get k"), "ack 1>1 1.1", false},
		{"a Dot that is not right", impl.Replica{Id: 1, N: 2, Recs: []impl.Rec{{D: impl.Dot{R: 1, N: 1000}}}}, "ack 2>1 1.1000", false},
		{"itself among Deps", impl.Replica{Id: 1, N: 2, Recs: own}, "ack 2>1 1.1 :1.1", false},
		{"with a Cmd", impl.Replica{Id: 1, N: 2, Recs: own}, "ack 2>1 1.1 put k=1", false},
	} {
		what := c.why + ": " + c.m
		if impl.ReplicaOk(c.r) {
			t.Error(what, "at a right replica")
		}
		if ok := impl.MsgOk(c.r, msg(c.m)); ok != c.want {
			t.Error(what, ok)
		}
		mustNotBeHeard(t, what, c.r, msg(c.m))
	}
}

// bentMsg is a word of which one thing is changed.
func bentMsg(r *rand.Rand, m impl.Msg) impl.Msg {
	odd := append(wrongDots(), dots("1.1 1.2 2.1 3.3 6.1 7.999")...)
	switch r.Intn(7) {
	case 0:
		m.Kind = r.Intn(6) - 1
	case 1:
		m.From = r.Intn(10) - 1
	case 2:
		m.To = r.Intn(10) - 1
	case 3:
		m.D = odd[r.Intn(len(odd))]
	case 4:
		m.C = impl.Cmd{Kind: r.Intn(6) - 1, Key: []string{"", "k", long + "x"}[r.Intn(3)], Val: []string{"", "v", long + "x"}[r.Intn(3)]}
	case 5:
		m.Deps = append(slices.Clone(m.Deps), odd[r.Intn(len(odd))])
	case 6:
		m.Deps = append(slices.Clone(m.Deps), m.Deps...)
	}
	return m
}

// bentReplica is one of which one thing is changed.
func bentReplica(r *rand.Rand, x impl.Replica) impl.Replica {
	x = ownReplica(x)
	d := impl.Dot{R: 1 + r.Intn(7), N: 1 + r.Intn(5)}
	switch k := r.Intn(14); {
	case k == 0:
		x.Id = r.Intn(10) - 1
	case k == 1:
		x.N = r.Intn(10) - 1
	case k == 2:
		x.Next += r.Intn(3) - 1
	case k == 3:
		addRec(&x, impl.Rec{D: d, C: someCmd(r), Sure: r.Intn(2) == 0})
	case k == 4:
		x.Acks = append(x.Acks, impl.Ack{D: d, From: r.Intn(9)})
	case k == 5:
		x.Done = append(x.Done, d)
	case k == 6 && len(x.Done) > 1:
		i := r.Intn(len(x.Done) - 1)
		x.Done[i], x.Done[i+1] = x.Done[i+1], x.Done[i]
	case k == 7 && len(x.Map) > 0:
		x.Map[r.Intn(len(x.Map))].Val = fmt.Sprint(r.Intn(5))
	case k == 8 && len(x.Said) > 0:
		x.Said[r.Intn(len(x.Said))].Val = fmt.Sprint(r.Intn(5))
	case k == 9 && len(x.Recs) > 0:
		x.Recs[r.Intn(len(x.Recs))].Sure = r.Intn(2) == 0
	case k == 10 && len(x.Recs) > 0:
		i := r.Intn(len(x.Recs))
		x.Recs[i].Deps = append(x.Recs[i].Deps, d)
	case k == 11 && len(x.Recs) > 0:
		x.Recs[r.Intn(len(x.Recs))].C = someCmd(r)
	case k == 12 && len(x.Recs) > 0:
		i := r.Intn(len(x.Recs))
		x.Recs = slices.Delete(x.Recs, i, i+1)
	case k == 13 && len(x.Acks) > 0:
		i := r.Intn(len(x.Acks))
		x.Acks = slices.Delete(x.Acks, i, i+1)
	}
	return x
}

func TestBentReplicas(t *testing.T) {
	r := rand.New(rand.NewSource(92))
	right, wrong := 0, 0
	for i := range 40 {
		w := newWalk(t, r, []int{1, 2, 3, 5, 7}[i%5])
		for range 60 {
			w.stroll()
		}
		for _, x := range w.reps {
			for range 25 {
				bent := bentReplica(r, x)
				if slowReplicaOk(bent) {
					right++
				} else {
					wrong++
				}
				mustBeReplicaAsTold(t, "bent", bent)
			}
		}
		if t.Failed() {
			return
		}
	}
	if right < 500 || wrong < 500 {
		t.Error("right:", right, "wrong:", wrong)
	}
}

func replicasForMemory() map[string]impl.Replica {
	out := map[string]impl.Replica{
		"nothing": {}, "new": impl.ReplicaNew(1, 3), "alone": impl.ReplicaNew(1, 1), "full": fullLife(),
		"empty lists": {Id: 1, N: 3, Next: 1, Recs: []impl.Rec{}, Acks: []impl.Ack{}, Done: []impl.Dot{}, Map: []impl.Pair{}, Said: []impl.Answer{}},
		"many":        knowing(60, "put k=1"), "most": knowing(mostRecs, "put k=1"), "too many": knowing(mostRecs+1, "get k"),
		"waiting": replica("2/3", "1.1 put k=1 :1.2,1.3 sure", "1.2 put k=2 :1.1,1.3 sure", "2.1 get k :1.1,1.2,1.3 sure", "2.2 get k :1.1"),
		"one own": replica("1/1", "1.1 put k=1 sure", "1.2 get k :1.1 sure"),
	}
	for _, c := range []change{wrongSeats()[0], wrongRecs()[0], wrongAcks()[0], wrongDone()[0], wrongMapsAndSaid()[0]} {
		r := ownReplica(fullLife())
		c.make(&r)
		out[c.why] = r
	}
	return out
}

func TestMemoryOfReplicas(t *testing.T) {
	for why, r := range replicasForMemory() {
		checkMemory(t, why+" Again", []any{r}, func(args []any) []any { return []any{impl.Again(args[0].(impl.Replica))} })
		checkMemory(t, why+" Reboot", []any{r}, func(args []any) []any { return []any{impl.Reboot(args[0].(impl.Replica))} })
		for _, c := range []impl.Cmd{cmd("put k=1"), cmd("get k"), cmd("del zz"), {}} {
			checkMemory(t, fmt.Sprint(why, " Submit of ", c), []any{r}, func(args []any) []any {
				next, said, _ := impl.Submit(args[0].(impl.Replica), c)
				return []any{next, said, impl.ReplicaOk(args[0].(impl.Replica))}
			})
		}
		words := wordsFor(r)
		for _, m := range rightWords() {
			words = append(words, m)
		}
		for _, text := range []string{"tell 1>2 1.3 put k=5 :1.1,1.2", "ask 1>2 1.3 put k=5 :1.1,1.2", "ack 1>2 2.2 :1.1,3.3", "ack 3>1 1.1 :2.2", "ask 2>1 2.200 put k=5 :1.1,1.2"} {
			words = append(words, msg(text))
		}
		for _, m := range words {
			checkMemory(t, why+" Hear of "+showMsg(m), []any{r, m}, func(args []any) []any {
				next, said := impl.Hear(args[0].(impl.Replica), args[1].(impl.Msg))
				return []any{next, said, impl.MsgOk(args[0].(impl.Replica), args[1].(impl.Msg))}
			})
		}
	}
}

// Where lists of the arguments share memory, those of the answer share none.
func TestReplicasOfListsThatAreHandedInTwice(t *testing.T) {
	deps := dots("3.1 3.2")
	r := impl.ReplicaNew(1, 5)
	for _, text := range []string{"2.1 put k=1", "2.2 put l=1", "2.3 put m=1 sure"} {
		x := rec(text)
		x.Deps = deps
		r.Recs = append(r.Recs, x)
	}
	r, _, _ = impl.Submit(r, cmd("put zz=1"))
	for i := range r.Recs {
		r.Recs[i].Deps = deps
	}
	for _, m := range []impl.Msg{msg("ask 2>1 2.4 get k"), msg("ask 2>1 2.1 put k=1"), msg("tell 2>1 2.4 get k"), msg("tell 2>1 2.2 put l=1"), msg("ack 2>1 1.1"), msg("ack 2>1 2.1")} {
		m.Deps = deps
		next, said := impl.Hear(r, m)
		again := impl.Again(r)
		back := impl.Reboot(r)
		spans := slices.Concat(spansOf(reflect.ValueOf(next), "Hear"), spansOf(reflect.ValueOf(said), "said"), spansOf(reflect.ValueOf(again), "Again"),
			spansOf(reflect.ValueOf(back), "Reboot"), spansOf(reflect.ValueOf(deps), "Deps"))
		for i, a := range spans {
			for _, b := range spans[i+1:] {
				if a.from < b.to && b.from < a.to {
					t.Errorf("%s: %s shares memory with %s", showMsg(m), a.name, b.name)
				}
			}
		}
	}
}

// What lies behind the length of a list is no part of a replica, nor of a word.
func TestReplicasBehindTheLength(t *testing.T) {
	r := fullLife()
	r.Recs = append(r.Recs, rec("1.1 put k=1"))[:len(r.Recs)]
	r.Acks = append(r.Acks, impl.Ack{})[:len(r.Acks)]
	r.Done = append(r.Done, dot("1.1"))[:len(r.Done)]
	r.Map = append(r.Map, impl.Pair{})[:len(r.Map)]
	r.Said = append(r.Said, impl.Answer{})[:len(r.Said)]
	mustBeReplicaAsTold(t, "behind", r)
	m := msg("tell 1>2 1.9 put x=1 :1.1,1.9")
	m.Deps = m.Deps[:1]
	if next, _ := mustHear(t, "behind", r, m); len(next.Done) != 6 {
		t.Error(showReplica(next))
	}
}

// Nothing is kept from one call to another.
func TestReplicasOneBehindTheOther(t *testing.T) {
	r := fullLife()
	type answer struct {
		next impl.Replica
		said []impl.Msg
	}
	first := map[string]answer{}
	for range 3 {
		for what, m := range rightWords() {
			next, said := impl.Hear(r, m)
			if was, met := first[what]; met && (!same(was.next, next) || !same(was.said, said)) {
				t.Error(what, "is another one the second time")
			}
			first[what] = answer{next, said}
		}
		for _, m := range wrongWords() {
			impl.Hear(r, m)
		}
	}
	if !same(r, fullLife()) {
		t.Error(showReplica(r))
	}
}
