package tests

import (
	"fmt"
	"slices"
	"strings"
	"testing"

	"loop.example/g00184/impl"
)

const (
	mostRecs   = 90
	mostSubmit = 12
)

var cmdKinds = map[string]int{"put": impl.CmdPut, "del": impl.CmdDel, "get": impl.CmdGet}

var msgKinds = map[string]int{"ask": impl.MsgAsk, "ack": impl.MsgAck, "tell": impl.MsgTell}

// cmd reads "put k=1", "del k" or "get k".
func cmd(text string) impl.Cmd {
	kind, rest, _ := strings.Cut(text, " ")
	key, val, _ := strings.Cut(rest, "=")
	return impl.Cmd{Kind: cmdKinds[kind], Key: key, Val: val}
}

// rec reads "1.1 put k=1 :2.1,3.1 sure": the Deps as they stand.
func rec(text string) impl.Rec {
	text, sure := strings.CutSuffix(text, " sure")
	text, deps, _ := strings.Cut(text, " :")
	d, c, _ := strings.Cut(text, " ")
	return impl.Rec{D: dot(d), C: cmd(c), Deps: dots(deps), Sure: sure}
}

// msg reads "ask 1>2 1.1 put k=1 :2.1,3.1" or "ack 2>1 1.1 :2.1".
func msg(text string) impl.Msg {
	kind, rest, _ := strings.Cut(text, " ")
	way, rest, _ := strings.Cut(rest, " ")
	from, to, _ := strings.Cut(way, ">")
	x := rec(rest)
	return impl.Msg{Kind: msgKinds[kind], From: numberOf(from), To: numberOf(to), D: x.D, C: x.C, Deps: x.Deps}
}

// replica reads "1/3", and a Rec a text, in any order: a right replica that
// alone holds what is its own and not Sure, and did all as one graph tells it.
func replica(seat string, recs ...string) impl.Replica {
	id, n, _ := strings.Cut(seat, "/")
	p := plainReplica{r: impl.Replica{Id: numberOf(id), N: numberOf(n), Next: 1}, recs: map[impl.Dot]impl.Rec{}, held: map[impl.Ack]bool{}}
	for _, text := range recs {
		p.takeIn(rec(text))
	}
	p.doAll()
	return p.replica()
}

func (p *plainReplica) takeIn(x impl.Rec) {
	p.recs[x.D] = x
	if x.D.R == p.r.Id {
		p.r.Next = max(p.r.Next, x.D.N+1)
		if !x.Sure {
			p.held[impl.Ack{D: x.D, From: p.r.Id}] = true
		}
	}
}

func showDot(d impl.Dot) string { return fmt.Sprint(d.R, ".", d.N) }

func showDots(list []impl.Dot, between string) string {
	var out []string
	for _, d := range list {
		out = append(out, showDot(d))
	}
	return strings.Join(out, between)
}

func showRec(x impl.Rec) string {
	out := showDot(x.D)
	for name, kind := range cmdKinds {
		if x.C.Kind == kind {
			out += " " + name + " " + x.C.Key
		}
	}
	if x.C.Kind == impl.CmdPut {
		out += "=" + x.C.Val
	}
	if len(x.Deps) > 0 {
		out += " :" + showDots(x.Deps, ",")
	}
	if x.Sure {
		out += " sure"
	}
	return out
}

func showMsg(m impl.Msg) string {
	for name, kind := range msgKinds {
		if m.Kind == kind {
			return fmt.Sprint(name, " ", m.From, ">", m.To, " ", showRec(impl.Rec{D: m.D, C: m.C, Deps: m.Deps}))
		}
	}
	return fmt.Sprint(m)
}

func showMsgs(list []impl.Msg) []string {
	var out []string
	for _, m := range list {
		out = append(out, showMsg(m))
	}
	return out
}

// showReplica tells the number of the next command, and of the lists those
// that have something: "next 2; 1.1 put k=1 sure, 2.1 get k :1.1; acks 1.2<1;
// done 1.1; map k=1; said 1.1-": a Said of what was there has its value.
func showReplica(r impl.Replica) string {
	parts := []string{fmt.Sprint("next ", r.Next)}
	add := func(name string, list []string, between string) {
		if len(list) > 0 {
			parts = append(parts, name+strings.Join(list, between))
		}
	}
	var recs, acks, pairs, said []string
	for _, x := range r.Recs {
		recs = append(recs, showRec(x))
	}
	for _, a := range r.Acks {
		acks = append(acks, fmt.Sprint(showDot(a.D), "<", a.From))
	}
	for _, p := range r.Map {
		pairs = append(pairs, p.Key+"="+p.Val)
	}
	for _, a := range r.Said {
		said = append(said, showDot(a.D)+map[bool]string{true: "=" + a.Val, false: "-"}[a.Has])
	}
	add("", recs, ", ")
	add("acks ", acks, " ")
	if len(r.Done) > 0 {
		parts = append(parts, "done "+showDots(r.Done, " "))
	}
	add("map ", pairs, " ")
	add("said ", said, " ")
	return strings.Join(parts, "; ")
}

func slowCmdOk(c impl.Cmd) bool {
	right := len(c.Key) >= 1 && len(c.Key) <= 20 && len(c.Val) <= 20
	return right && (c.Kind == 1 || (c.Kind == 2 || c.Kind == 3) && c.Val == "")
}

func slowMeet(a impl.Cmd, b impl.Cmd) bool {
	return a.Key == b.Key && (a.Kind != 3 || b.Kind != 3)
}

func slowDepsOk(d impl.Dot, deps []impl.Dot) bool {
	return slowDotsOk(deps, 60) && !slices.Contains(deps, d)
}

// slowMade tells what those that were done make, from nothing, and what the own ones say.
func slowMade(id int, done []impl.Dot, recs map[impl.Dot]impl.Rec) ([]impl.Pair, []impl.Answer) {
	made := map[string]string{}
	var said []impl.Answer
	for _, d := range done {
		c := recs[d].C
		val, has := made[c.Key]
		if d.R == id {
			said = append(said, impl.Answer{D: d, Val: val, Has: has})
		}
		switch c.Kind {
		case impl.CmdPut:
			made[c.Key] = c.Val
		case impl.CmdDel:
			delete(made, c.Key)
		}
	}
	var out []impl.Pair
	for key, val := range made {
		out = append(out, impl.Pair{Key: key, Val: val})
	}
	slices.SortFunc(out, func(a impl.Pair, b impl.Pair) int {
		if slowLess(a.Key, b.Key) {
			return -1
		}
		return 1
	})
	return out, said
}

func sortDots(list []impl.Dot) []impl.Dot {
	out := slices.Clone(list)
	slices.SortFunc(out, func(a impl.Dot, b impl.Dot) int {
		if slowDotLess(a, b) {
			return -1
		}
		if slowDotLess(b, a) {
			return 1
		}
		return 0
	})
	return out
}

func slowRecsOk(r impl.Replica) bool {
	var all []impl.Dot
	own := map[int]bool{}
	right := true
	for _, x := range r.Recs {
		all = append(all, x.D)
		right = right && slowCmdOk(x.C) && slowDepsOk(x.D, x.Deps)
		if x.D.R == r.Id {
			own[x.D.N] = true
			right = right && x.D.N < r.Next
		}
	}
	return right && slowDotsOk(all, mostRecs) && r.Next >= 1 && len(own) == r.Next-1
}

func slowAcksOk(r impl.Replica, recs map[impl.Dot]impl.Rec) bool {
	right := true
	for i, a := range r.Acks {
		x, known := recs[a.D]
		right = right && known && x.D.R == r.Id && !x.Sure && a.From >= 1 && a.From <= r.N
		for _, b := range r.Acks[i+1:] {
			right = right && (slowDotLess(a.D, b.D) || a.D == b.D && a.From < b.From)
		}
	}
	return right
}

func slowSureGraph(recs map[impl.Dot]impl.Rec) impl.Graph {
	var g impl.Graph
	for _, x := range recs {
		if x.Sure {
			g = withItem(g, impl.Item{D: x.D, Deps: x.Deps})
		}
	}
	return g
}

func slowReplicaOk(r impl.Replica) bool {
	if r.N < 1 || r.N > 7 || r.Id < 1 || r.Id > r.N || !slowRecsOk(r) {
		return false
	}
	recs := map[impl.Dot]impl.Rec{}
	for _, x := range r.Recs {
		recs[x.D] = x
	}
	made, said := slowMade(r.Id, r.Done, recs)
	return slowAcksOk(r, recs) && slices.Equal(sortDots(r.Done), sortDots(slowOrder(slowSureGraph(recs)))) &&
		slices.Equal(r.Map, made) && slices.Equal(r.Said, said)
}

// slowMsgOk asks of any replica, also of one that is not right.
func slowMsgOk(r impl.Replica, m impl.Msg) bool {
	if m.To != r.Id || m.From == r.Id || m.From < 1 || m.From > r.N {
		return false
	}
	if !slowDotsOk([]impl.Dot{m.D}, 1) || !slowDepsOk(m.D, m.Deps) {
		return false
	}
	for _, d := range append([]impl.Dot{m.D}, m.Deps...) {
		if d.R > r.N {
			return false
		}
	}
	if m.Kind == impl.MsgAck {
		has := slices.ContainsFunc(r.Recs, func(x impl.Rec) bool { return x.D == m.D })
		return m.D.R == r.Id && has && m.C == impl.Cmd{}
	}
	return (m.Kind == impl.MsgAsk || m.Kind == impl.MsgTell) && m.D.R == m.From && slowCmdOk(m.C)
}

// A plainReplica has what is known by Dots, and who holds what as a set.
type plainReplica struct {
	r    impl.Replica
	recs map[impl.Dot]impl.Rec
	held map[impl.Ack]bool
}

func plainReplicaOf(r impl.Replica) *plainReplica {
	p := &plainReplica{r: r, recs: map[impl.Dot]impl.Rec{}, held: map[impl.Ack]bool{}}
	for _, x := range r.Recs {
		p.recs[x.D] = x
	}
	for _, a := range r.Acks {
		p.held[a] = true
	}
	return p
}

func (p *plainReplica) replica() impl.Replica {
	out := impl.Replica{Id: p.r.Id, N: p.r.N, Next: p.r.Next, Done: p.r.Done}
	var known []impl.Dot
	for d := range p.recs {
		known = append(known, d)
	}
	for _, d := range sortDots(known) {
		out.Recs = append(out.Recs, p.recs[d])
		for id := 1; id <= p.r.N; id++ {
			if p.held[impl.Ack{D: d, From: id}] {
				out.Acks = append(out.Acks, impl.Ack{D: d, From: id})
			}
		}
	}
	out.Map, out.Said = slowMade(out.Id, out.Done, p.recs)
	return out
}

// joinDeps are both, and those that are known and Meet the command.
func (p *plainReplica) joinDeps(a []impl.Dot, b []impl.Dot, meeting *impl.Cmd) []impl.Dot {
	all := append(slices.Clone(a), b...)
	for d, x := range p.recs {
		if meeting != nil && slowMeet(x.C, *meeting) {
			all = append(all, d)
		}
	}
	return slices.Compact(sortDots(all))
}

func (p *plainReplica) doAll() {
	var more []impl.Dot
	for _, d := range slowOrder(slowSureGraph(p.recs)) {
		if !slices.Contains(p.r.Done, d) {
			more = append(more, d)
		}
	}
	p.r.Done = append(slices.Clone(p.r.Done), more...)
}

func (p *plainReplica) toOthers(kind int, d impl.Dot) []impl.Msg {
	var out []impl.Msg
	for id := 1; id <= p.r.N; id++ {
		if id != p.r.Id {
			out = append(out, impl.Msg{Kind: kind, From: p.r.Id, To: id, D: d, C: p.recs[d].C, Deps: p.recs[d].Deps})
		}
	}
	return out
}

func slowSubmit(r impl.Replica, c impl.Cmd) (impl.Replica, []impl.Msg, impl.Dot) {
	if !slowReplicaOk(r) || !slowCmdOk(c) || r.Next > mostSubmit || len(r.Recs) == mostRecs {
		return r, nil, impl.Dot{}
	}
	p := plainReplicaOf(r)
	x := impl.Rec{D: impl.Dot{R: r.Id, N: r.Next}, C: c, Deps: p.joinDeps(nil, nil, &c), Sure: r.N == 1}
	if len(x.Deps) > 60 {
		return r, nil, impl.Dot{}
	}
	p.takeIn(x)
	p.doAll()
	return p.replica(), p.toOthers(impl.MsgAsk, x.D), x.D
}

func slowHear(r impl.Replica, m impl.Msg) (impl.Replica, []impl.Msg) {
	if !slowReplicaOk(r) || !slowMsgOk(r, m) {
		return r, nil
	}
	p := plainReplicaOf(r)
	x, known := p.recs[m.D]
	var said []impl.Msg
	switch {
	case m.Kind == impl.MsgAsk && known:
		return r, []impl.Msg{{Kind: impl.MsgAck, From: r.Id, To: m.From, D: m.D, Deps: x.Deps}}
	case m.Kind == impl.MsgAsk:
		x = impl.Rec{D: m.D, C: m.C, Deps: p.joinDeps(m.Deps, nil, &m.C)}
		if len(r.Recs) == mostRecs || len(x.Deps) > 60 {
			return r, nil
		}
		said = []impl.Msg{{Kind: impl.MsgAck, From: r.Id, To: m.From, D: m.D, Deps: x.Deps}}
	case x.Sure:
		return r, nil
	case m.Kind == impl.MsgAck:
		x.Deps = p.joinDeps(x.Deps, m.Deps, nil)
		if len(x.Deps) > 60 {
			return r, nil
		}
		p.held[impl.Ack{D: m.D, From: m.From}] = true
		x.Sure = p.heldByMost(m.D)
	case known:
		x.Deps, x.Sure = m.Deps, true
	case len(r.Recs) == mostRecs:
		return r, nil
	default:
		x = impl.Rec{D: m.D, C: m.C, Deps: m.Deps, Sure: true}
	}
	p.recs[m.D] = x
	if m.Kind == impl.MsgAck && x.Sure {
		said = p.toOthers(impl.MsgTell, m.D)
	}
	p.doAll()
	return p.replica(), said
}

// heldByMost tells whether more than half hold it; from then on nobody is told to.
func (p *plainReplica) heldByMost(d impl.Dot) bool {
	var holders []impl.Ack
	for a := range p.held {
		if a.D == d {
			holders = append(holders, a)
		}
	}
	if len(holders) < p.r.N/2+1 {
		return false
	}
	for _, a := range holders {
		delete(p.held, a)
	}
	return true
}

func slowAgain(r impl.Replica) []impl.Msg {
	if !slowReplicaOk(r) {
		return nil
	}
	p := plainReplicaOf(r)
	var out []impl.Msg
	for n := 1; n < r.Next; n++ {
		kind, d := impl.MsgAsk, impl.Dot{R: r.Id, N: n}
		if p.recs[d].Sure {
			kind = impl.MsgTell
		}
		out = append(out, p.toOthers(kind, d)...)
	}
	return out
}

func slowReboot(r impl.Replica) impl.Replica {
	if !slowReplicaOk(r) {
		return r
	}
	p := plainReplicaOf(r)
	p.held = map[impl.Ack]bool{}
	for _, x := range p.recs {
		p.takeIn(x)
	}
	return p.replica()
}

// mustStand asks of a right replica whatever can be asked without a word.
func mustStand(t *testing.T, what string, r impl.Replica) {
	t.Helper()
	if !impl.ReplicaOk(r) || !slowReplicaOk(r) {
		t.Errorf("%s: not right: %d/%d %s", what, r.Id, r.N, showReplica(r))
	}
	if l, want := impl.Again(r), slowAgain(r); !same(l, want) {
		t.Errorf("%s: Again of %s: %q, not %q", what, showReplica(r), showMsgs(l), showMsgs(want))
	}
	back := impl.Reboot(r)
	if want := slowReboot(r); !same(back, want) || !impl.ReplicaOk(back) {
		t.Errorf("%s: Reboot of %s: %s, not %s", what, showReplica(r), showReplica(back), showReplica(want))
	}
}

// mustStayDone asks of a replica and of what became of it for the promise
// alone: it is right, and what was done, known and said stays so, in its order.
func mustStayDone(t *testing.T, what string, was impl.Replica, is impl.Replica) {
	t.Helper()
	if impl.ReplicaOk(was) && !impl.ReplicaOk(is) {
		t.Errorf("%s: not right any more: %s, then %s", what, showReplica(was), showReplica(is))
	}
	if len(is.Done) < len(was.Done) || !slices.Equal(is.Done[:len(was.Done)], was.Done) {
		t.Errorf("%s: what was done does not stay: %v, then %v", what, was.Done, is.Done)
	}
	if len(is.Said) < len(was.Said) || !slices.Equal(is.Said[:len(was.Said)], was.Said) {
		t.Errorf("%s: what was said does not stay: %v, then %v", what, was.Said, is.Said)
	}
	for _, x := range was.Recs {
		at := slices.IndexFunc(is.Recs, func(y impl.Rec) bool { return x.D == y.D })
		if at < 0 || is.Recs[at].C != x.C || x.Sure && !same(is.Recs[at], x) {
			t.Errorf("%s: %s does not stay in %s", what, showRec(x), showReplica(is))
		}
	}
}

func mustSubmit(t *testing.T, what string, r impl.Replica, c impl.Cmd) (impl.Replica, []impl.Msg, impl.Dot) {
	t.Helper()
	before := wholeCopy(r)
	got, said, d := impl.Submit(r, c)
	want, wantSaid, wantDot := slowSubmit(r, c)
	if !same(got, want) || !same(said, wantSaid) || d != wantDot {
		t.Errorf("%s: Submit of %v at %d/%d %s: %s, %q, %v, not %s, %q, %v", what, c, r.Id, r.N, showReplica(r),
			showReplica(got), showMsgs(said), d, showReplica(want), showMsgs(wantSaid), wantDot)
	}
	if !same(wholeCopy(r), before) {
		t.Errorf("%s: Submit of %v wrote into %s", what, c, showReplica(r))
	}
	mustStayDone(t, what, r, got)
	return got, said, d
}

func mustHear(t *testing.T, what string, r impl.Replica, m impl.Msg) (impl.Replica, []impl.Msg) {
	t.Helper()
	before, word := wholeCopy(r), wholeCopy(m)
	if ok := impl.MsgOk(r, m); ok != slowMsgOk(r, m) {
		t.Errorf("%s: MsgOk of %s (%v) for %d/%d %s: %v", what, showMsg(m), m, r.Id, r.N, showReplica(r), ok)
	}
	got, said := impl.Hear(r, m)
	want, wantSaid := slowHear(r, m)
	if !same(got, want) || !same(said, wantSaid) {
		t.Errorf("%s: Hear of %s at %d/%d %s: %s, %q, not %s, %q", what, showMsg(m), r.Id, r.N, showReplica(r),
			showReplica(got), showMsgs(said), showReplica(want), showMsgs(wantSaid))
	}
	if !same(wholeCopy(r), before) || !same(wholeCopy(m), word) {
		t.Errorf("%s: Hear of %s wrote into it or %s", what, showMsg(m), showReplica(r))
	}
	mustStayDone(t, what, r, got)
	return got, said
}

// mustBeNoReplica asks all of a replica that is not right.
func mustBeNoReplica(t *testing.T, what string, r impl.Replica) {
	t.Helper()
	if impl.ReplicaOk(r) || slowReplicaOk(r) {
		t.Errorf("%s: right: %d/%d %s", what, r.Id, r.N, showReplica(r))
	}
	for _, c := range []impl.Cmd{cmd("put k=1"), cmd("get x"), {}} {
		if got, said, d := impl.Submit(r, c); !same(got, r) || len(said) != 0 || d != (impl.Dot{}) {
			t.Errorf("%s: Submit of %v at %v: %v, %v, %v", what, c, r, got, said, d)
		}
	}
	for _, m := range wordsFor(r) {
		mustNotBeHeard(t, what, r, m)
	}
	if l := impl.Again(r); len(l) != 0 {
		t.Errorf("%s: Again of %v: %v", what, r, l)
	}
	if got := impl.Reboot(r); !same(got, r) {
		t.Errorf("%s: Reboot of %v: %v", what, r, got)
	}
}

// mustNotBeHeard has a word be right or not for a replica that is not, and
// nothing come of it.
func mustNotBeHeard(t *testing.T, what string, r impl.Replica, m impl.Msg) {
	t.Helper()
	if ok := impl.MsgOk(r, m); ok != slowMsgOk(r, m) {
		t.Errorf("%s: MsgOk of %v at %v: %v", what, m, r, ok)
	}
	if got, said := impl.Hear(r, m); !same(got, r) || len(said) != 0 {
		t.Errorf("%s: Hear of %v at %v: %v, %v", what, m, r, got, said)
	}
}

// wordsFor are words of each kind to a replica: of what is not known, and of
// some that it knows.
func wordsFor(r impl.Replica) []impl.Msg {
	from := 1
	if r.Id == 1 {
		from = 2
	}
	c := cmd("put k=7")
	fresh := impl.Dot{R: from, N: 900}
	out := []impl.Msg{
		{Kind: impl.MsgAsk, From: from, To: r.Id, D: fresh, C: c},
		{Kind: impl.MsgTell, From: from, To: r.Id, D: fresh, C: c},
		{Kind: impl.MsgAck, From: from, To: r.Id, D: impl.Dot{R: r.Id, N: 1}},
	}
	for _, x := range r.Recs[:min(len(r.Recs), 5)] {
		out = append(out, impl.Msg{Kind: impl.MsgAck, From: from, To: r.Id, D: x.D, Deps: []impl.Dot{fresh}},
			impl.Msg{Kind: impl.MsgAsk, From: x.D.R, To: r.Id, D: x.D, C: x.C, Deps: x.Deps},
			impl.Msg{Kind: impl.MsgTell, From: x.D.R, To: r.Id, D: x.D, C: x.C, Deps: x.Deps})
	}
	return out
}

func mustBeReplicaAsTold(t *testing.T, what string, r impl.Replica) {
	t.Helper()
	if !slowReplicaOk(r) {
		mustBeNoReplica(t, what, r)
		return
	}
	mustStand(t, what, r)
	for _, m := range wordsFor(r) {
		next, _ := mustHear(t, what, r, m)
		mustStand(t, what, next)
	}
	mustSubmit(t, what, r, cmd("put k=1"))
}

// A talk is some replicas, all new at first, that are moved by hand.
type talk struct {
	t    *testing.T
	reps []impl.Replica
}

func newTalk(t *testing.T, n int) *talk {
	w := &talk{t: t}
	for id := 1; id <= n; id++ {
		w.reps = append(w.reps, impl.ReplicaNew(id, n))
	}
	return w
}

func (w *talk) at(id int) impl.Replica { return w.reps[id-1] }

func (w *talk) mustSay(what string, said []impl.Msg, want []string) {
	w.t.Helper()
	if l := showMsgs(said); !slices.Equal(l, want) {
		w.t.Errorf("%s: said %q, not %q", what, l, want)
	}
}

func (w *talk) submit(id int, c string, want ...string) {
	w.t.Helper()
	next, said, _ := mustSubmit(w.t, c, w.at(id), cmd(c))
	w.mustSay(c, said, want)
	w.reps[id-1] = next
	mustStand(w.t, c, next)
}

func (w *talk) hear(text string, want ...string) {
	w.t.Helper()
	m := msg(text)
	next, said := mustHear(w.t, text, w.at(m.To), m)
	w.mustSay(text, said, want)
	w.reps[m.To-1] = next
	mustStand(w.t, text, next)
}

// hearAgain is a word that changes nothing, whatever is said to it.
func (w *talk) hearAgain(text string, want ...string) {
	w.t.Helper()
	was := w.at(msg(text).To)
	w.hear(text, want...)
	if is := w.at(msg(text).To); !same(is, was) {
		w.t.Errorf("%s changes %s: %s", text, showReplica(was), showReplica(is))
	}
}

func (w *talk) reboot(id int) { w.reps[id-1] = impl.Reboot(w.at(id)) }

func (w *talk) is(id int, want string) {
	w.t.Helper()
	if got := showReplica(w.at(id)); got != want {
		w.t.Errorf("replica %d: %q, not %q", id, got, want)
	}
}
