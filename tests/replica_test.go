package tests

import (
	"fmt"
	"math"
	"slices"
	"strings"
	"testing"

	"loop.example/g00184/impl"
)

var (
	_ func(impl.Cmd) bool                                               = impl.CmdOk
	_ func(impl.Cmd, impl.Cmd) bool                                     = impl.Meet
	_ func(int, int) impl.Replica                                       = impl.ReplicaNew
	_ func(impl.Replica) bool                                           = impl.ReplicaOk
	_ func(impl.Replica, impl.Cmd) (impl.Replica, []impl.Msg, impl.Dot) = impl.Submit
	_ func(impl.Replica, impl.Msg) (impl.Replica, []impl.Msg)           = impl.Hear
	_ func(impl.Replica, impl.Msg) bool                                 = impl.MsgOk
	_ func(impl.Replica) []impl.Msg                                     = impl.Again
	_ func(impl.Replica) impl.Replica                                   = impl.Reboot
	_                                                                   = impl.Answer{D: impl.Dot{R: 1, N: 1}, Val: "v", Has: true}
	_                                                                   = impl.Ack{D: impl.Dot{R: 1, N: 1}, From: 2}
	_                                                                   = impl.Msg{Kind: impl.MsgAsk, From: 1, To: 2, D: impl.Dot{R: 1, N: 1}, C: impl.Cmd{Kind: impl.CmdPut, Key: "k", Val: "v"}, Deps: []impl.Dot{}}
	_                                                                   = impl.Replica{Id: 1, N: 1, Next: 1, Recs: []impl.Rec{}, Acks: []impl.Ack{}, Done: []impl.Dot{}, Map: []impl.Pair{}, Said: []impl.Answer{}}
)

func TestReplicaConstants(t *testing.T) {
	if impl.CmdPut != 1 || impl.CmdDel != 2 || impl.CmdGet != 3 || impl.MsgAsk != 1 || impl.MsgAck != 2 || impl.MsgTell != 3 {
		t.Error("constants")
	}
}

func TestCmdOk(t *testing.T) {
	texts := map[string]bool{"": true, "k": true, "\x00": true, "\xff\xfe": true, " ": true, "a\nb": true, long[:19]: true, long: true, long + "x": false, long + long: false}
	for _, kind := range []int{math.MinInt, -1, 0, 1, 2, 3, 4, 5, math.MaxInt} {
		for key, keyFits := range texts {
			for val, valFits := range texts {
				c := impl.Cmd{Kind: kind, Key: key, Val: val}
				want := kind >= 1 && kind <= 3 && keyFits && key != "" && valFits && (kind == impl.CmdPut || val == "")
				if impl.CmdOk(c) != want {
					t.Errorf("%+v: %v", c, !want)
				}
			}
		}
	}
}

func TestMeet(t *testing.T) {
	for _, x := range []struct {
		a, b string
		want bool
	}{
		{"put k=1", "put k=1", true}, {"put k=1", "put k=2", true}, {"put k=1", "del k", true}, {"put k=1", "get k", true},
		{"del k", "del k", true}, {"del k", "get k", true}, {"get k", "get k", false},
		{"put k=1", "put l=1", false}, {"put k=1", "del l", false}, {"put k=1", "get l", false}, {"del k", "del l", false}, {"get k", "get l", false},
		{"put k=1", "put kk=1", false}, {"del k", "del K", false}, {"put k=k", "get 1", false},
	} {
		a, b := cmd(x.a), cmd(x.b)
		if impl.Meet(a, b) != x.want || impl.Meet(b, a) != x.want {
			t.Error(x.a, x.b, impl.Meet(a, b), impl.Meet(b, a))
		}
	}
	// Asked of any two, right or not: by their keys and kinds alone.
	for a := range 6 {
		for b := range 6 {
			for _, keys := range []string{"kk", "kl", "lk"} {
				x, y := impl.Cmd{Kind: a - 1, Key: keys[:1], Val: "1"}, impl.Cmd{Kind: b - 1, Key: keys[1:], Val: long + "2"}
				if impl.Meet(x, y) != slowMeet(x, y) {
					t.Error(x, y)
				}
			}
		}
	}
}

func TestReplicaNew(t *testing.T) {
	for _, id := range []int{math.MinInt, -1, 0, 1, 2, 3, 4, 5, 6, 7, 8, 9, math.MaxInt} {
		for _, n := range []int{math.MinInt, -1, 0, 1, 2, 3, 4, 5, 6, 7, 8, 9, math.MaxInt} {
			r := impl.ReplicaNew(id, n)
			right := n >= 1 && n <= 7 && id >= 1 && id <= n
			want := impl.Replica{}
			if right {
				want = impl.Replica{Id: id, N: n, Next: 1}
			}
			if !same(r, want) || impl.ReplicaOk(r) != right {
				t.Error(id, n, r)
			}
			mustBeReplicaAsTold(t, "new", r)
			mustBeReplicaAsTold(t, "by hand", impl.Replica{Id: id, N: n, Next: 1})
		}
	}
}

// A whole exchange: asked, acked, told, done.
func TestAnExchangeOfThree(t *testing.T) {
	w := newTalk(t, 3)
	w.submit(1, "put k=1", "ask 1>2 1.1 put k=1", "ask 1>3 1.1 put k=1")
	w.is(1, "next 2; 1.1 put k=1; acks 1.1<1")
	w.hear("ask 1>2 1.1 put k=1", "ack 2>1 1.1")
	w.is(2, "next 1; 1.1 put k=1")
	w.hear("ack 2>1 1.1", "tell 1>2 1.1 put k=1", "tell 1>3 1.1 put k=1")
	w.is(1, "next 2; 1.1 put k=1 sure; done 1.1; map k=1; said 1.1-")
	w.hear("ask 1>3 1.1 put k=1", "ack 3>1 1.1")
	w.is(3, "next 1; 1.1 put k=1")
	w.hear("tell 1>2 1.1 put k=1")
	w.is(2, "next 1; 1.1 put k=1 sure; done 1.1; map k=1")
	w.hear("tell 1>3 1.1 put k=1")
	w.is(3, "next 1; 1.1 put k=1 sure; done 1.1; map k=1")
	w.hear("ack 3>1 1.1")
	w.is(1, "next 2; 1.1 put k=1 sure; done 1.1; map k=1; said 1.1-")

	w.submit(3, "get k", "ask 3>1 3.1 get k :1.1", "ask 3>2 3.1 get k :1.1")
	w.is(3, "next 2; 1.1 put k=1 sure, 3.1 get k :1.1; acks 3.1<3; done 1.1; map k=1")
	w.hear("ask 3>1 3.1 get k :1.1", "ack 1>3 3.1 :1.1")
	w.hear("ack 1>3 3.1 :1.1", "tell 3>1 3.1 get k :1.1", "tell 3>2 3.1 get k :1.1")
	w.is(3, "next 2; 1.1 put k=1 sure, 3.1 get k :1.1 sure; done 1.1 3.1; map k=1; said 3.1=1")
	w.hear("tell 3>1 3.1 get k :1.1")
	w.is(1, "next 2; 1.1 put k=1 sure, 3.1 get k :1.1 sure; done 1.1 3.1; map k=1; said 1.1-")
}

func TestExchangesOfOneAndTwo(t *testing.T) {
	w := newTalk(t, 1)
	w.submit(1, "put k=1")
	w.is(1, "next 2; 1.1 put k=1 sure; done 1.1; map k=1; said 1.1-")
	w.submit(1, "get k")
	w.submit(1, "put k=")
	w.submit(1, "get k")
	w.submit(1, "put a=9")
	w.submit(1, "del k")
	w.submit(1, "del k")
	w.submit(1, "get k")
	w.is(1, "next 9; 1.1 put k=1 sure, 1.2 get k :1.1 sure, 1.3 put k= :1.1,1.2 sure, 1.4 get k :1.1,1.3 sure, 1.5 put a=9 sure, "+
		"1.6 del k :1.1,1.2,1.3,1.4 sure, 1.7 del k :1.1,1.2,1.3,1.4,1.6 sure, 1.8 get k :1.1,1.3,1.6,1.7 sure; "+
		"done 1.1 1.2 1.3 1.4 1.5 1.6 1.7 1.8; map a=9; said 1.1- 1.2=1 1.3=1 1.4= 1.5- 1.6= 1.7- 1.8-")

	w = newTalk(t, 2)
	w.submit(2, "del k", "ask 2>1 2.1 del k")
	w.is(2, "next 2; 2.1 del k; acks 2.1<2")
	w.hear("ask 2>1 2.1 del k", "ack 1>2 2.1")
	w.hear("ack 1>2 2.1", "tell 2>1 2.1 del k")
	w.is(2, "next 2; 2.1 del k sure; done 2.1; said 2.1-")
	w.hear("tell 2>1 2.1 del k")
	w.is(1, "next 1; 2.1 del k sure; done 2.1")
}

// Two that meet, asked for at two replicas at once: each is told of the other.
func TestTwoThatMeet(t *testing.T) {
	w := newTalk(t, 3)
	w.submit(1, "put k=1", "ask 1>2 1.1 put k=1", "ask 1>3 1.1 put k=1")
	w.submit(2, "put k=2", "ask 2>1 2.1 put k=2", "ask 2>3 2.1 put k=2")
	w.hear("ask 1>2 1.1 put k=1", "ack 2>1 1.1 :2.1")
	w.is(2, "next 2; 1.1 put k=1 :2.1, 2.1 put k=2; acks 2.1<2")
	w.hear("ask 2>1 2.1 put k=2", "ack 1>2 2.1 :1.1")
	w.is(1, "next 2; 1.1 put k=1, 2.1 put k=2 :1.1; acks 1.1<1")
	w.hear("ack 2>1 1.1 :2.1", "tell 1>2 1.1 put k=1 :2.1", "tell 1>3 1.1 put k=1 :2.1")
	w.is(1, "next 2; 1.1 put k=1 :2.1 sure, 2.1 put k=2 :1.1")
	w.hear("ack 1>2 2.1 :1.1", "tell 2>1 2.1 put k=2 :1.1", "tell 2>3 2.1 put k=2 :1.1")
	w.is(2, "next 2; 1.1 put k=1 :2.1, 2.1 put k=2 :1.1 sure")
	w.hear("tell 1>3 1.1 put k=1 :2.1")
	w.is(3, "next 1; 1.1 put k=1 :2.1 sure")
	w.hear("tell 2>3 2.1 put k=2 :1.1")
	w.is(3, "next 1; 1.1 put k=1 :2.1 sure, 2.1 put k=2 :1.1 sure; done 1.1 2.1; map k=2")
	w.hear("tell 1>2 1.1 put k=1 :2.1")
	w.is(2, "next 2; 1.1 put k=1 :2.1 sure, 2.1 put k=2 :1.1 sure; done 1.1 2.1; map k=2; said 2.1=1")
	w.hear("tell 2>1 2.1 put k=2 :1.1")
	w.is(1, "next 2; 1.1 put k=1 :2.1 sure, 2.1 put k=2 :1.1 sure; done 1.1 2.1; map k=2; said 1.1-")
}

// Two that do not meet: neither waits for the other, and each replica has them as they came.
func TestTwoThatDoNotMeet(t *testing.T) {
	for _, x := range []struct{ a, b, both string }{
		{"put k=1", "put l=2", "; map k=1 l=2"},
		{"put l=1", "del k", "; map l=1"},
		{"get k", "get k", ""},
		{"get k", "put l=2", "; map l=2"},
	} {
		w := newTalk(t, 3)
		w.submit(1, x.a, "ask 1>2 1.1 "+x.a, "ask 1>3 1.1 "+x.a)
		w.submit(2, x.b, "ask 2>1 2.1 "+x.b, "ask 2>3 2.1 "+x.b)
		w.hear("ask 2>3 2.1 "+x.b, "ack 3>2 2.1")
		w.hear("ask 1>3 1.1 "+x.a, "ack 3>1 1.1")
		w.hear("ask 1>2 1.1 "+x.a, "ack 2>1 1.1")
		w.hear("ack 3>2 2.1", "tell 2>1 2.1 "+x.b, "tell 2>3 2.1 "+x.b)
		w.hear("tell 2>1 2.1 " + x.b)
		w.hear("ack 2>1 1.1", "tell 1>2 1.1 "+x.a, "tell 1>3 1.1 "+x.a)
		w.is(1, "next 2; 1.1 "+x.a+" sure, 2.1 "+x.b+" sure; done 2.1 1.1"+x.both+"; said 1.1-")
		w.hear("tell 1>3 1.1 " + x.a)
		w.hear("tell 2>3 2.1 " + x.b)
		w.is(3, "next 1; 1.1 "+x.a+" sure, 2.1 "+x.b+" sure; done 1.1 2.1"+x.both)
	}
}

// Three at once, each at another replica: what an ack adds is told to all.
func TestThreeThatMeet(t *testing.T) {
	w := newTalk(t, 5)
	w.submit(1, "put k=1", "ask 1>2 1.1 put k=1", "ask 1>3 1.1 put k=1", "ask 1>4 1.1 put k=1", "ask 1>5 1.1 put k=1")
	w.submit(3, "get k", "ask 3>1 3.1 get k", "ask 3>2 3.1 get k", "ask 3>4 3.1 get k", "ask 3>5 3.1 get k")
	w.submit(5, "del k", "ask 5>1 5.1 del k", "ask 5>2 5.1 del k", "ask 5>3 5.1 del k", "ask 5>4 5.1 del k")
	w.hear("ask 1>5 1.1 put k=1", "ack 5>1 1.1 :5.1")
	w.hear("ack 5>1 1.1 :5.1")
	w.is(1, "next 2; 1.1 put k=1 :5.1; acks 1.1<1 1.1<5")
	w.hear("ask 3>4 3.1 get k", "ack 4>3 3.1")
	w.hear("ask 1>4 1.1 put k=1", "ack 4>1 1.1 :3.1")
	w.hear("ack 4>1 1.1 :3.1", "tell 1>2 1.1 put k=1 :3.1,5.1", "tell 1>3 1.1 put k=1 :3.1,5.1", "tell 1>4 1.1 put k=1 :3.1,5.1", "tell 1>5 1.1 put k=1 :3.1,5.1")
	w.is(1, "next 2; 1.1 put k=1 :3.1,5.1 sure")
	w.hear("tell 1>3 1.1 put k=1 :3.1,5.1")
	w.is(3, "next 2; 1.1 put k=1 :3.1,5.1 sure, 3.1 get k; acks 3.1<3")
	w.hear("ask 3>5 3.1 get k", "ack 5>3 3.1 :1.1,5.1")
	w.hear("ack 5>3 3.1 :1.1,5.1")
	w.hear("ask 5>3 5.1 del k", "ack 3>5 5.1 :1.1,3.1")
	w.hear("ask 5>2 5.1 del k", "ack 2>5 5.1")
	w.hear("ack 2>5 5.1")
	w.hear("ack 3>5 5.1 :1.1,3.1", "tell 5>1 5.1 del k :1.1,3.1", "tell 5>2 5.1 del k :1.1,3.1", "tell 5>3 5.1 del k :1.1,3.1", "tell 5>4 5.1 del k :1.1,3.1")
	w.hear("tell 5>3 5.1 del k :1.1,3.1")
	w.is(3, "next 2; 1.1 put k=1 :3.1,5.1 sure, 3.1 get k :1.1,5.1, 5.1 del k :1.1,3.1 sure; acks 3.1<3 3.1<5")
	w.hear("ack 4>3 3.1", "tell 3>1 3.1 get k :1.1,5.1", "tell 3>2 3.1 get k :1.1,5.1", "tell 3>4 3.1 get k :1.1,5.1", "tell 3>5 3.1 get k :1.1,5.1")
	w.is(3, "next 2; 1.1 put k=1 :3.1,5.1 sure, 3.1 get k :1.1,5.1 sure, 5.1 del k :1.1,3.1 sure; done 1.1 3.1 5.1; said 3.1=1")
}

// What is asked for later comes behind what is known, its own and others', Sure or not.
func TestOwnCommandsOneBehindTheOther(t *testing.T) {
	w := newTalk(t, 3)
	w.submit(2, "put k=1", "ask 2>1 2.1 put k=1", "ask 2>3 2.1 put k=1")
	w.submit(2, "put k=2", "ask 2>1 2.2 put k=2 :2.1", "ask 2>3 2.2 put k=2 :2.1")
	w.submit(2, "get l", "ask 2>1 2.3 get l", "ask 2>3 2.3 get l")
	w.submit(2, "get k", "ask 2>1 2.4 get k :2.1,2.2", "ask 2>3 2.4 get k :2.1,2.2")
	w.submit(2, "get k", "ask 2>1 2.5 get k :2.1,2.2", "ask 2>3 2.5 get k :2.1,2.2")
	w.is(2, "next 6; 2.1 put k=1, 2.2 put k=2 :2.1, 2.3 get l, 2.4 get k :2.1,2.2, 2.5 get k :2.1,2.2; acks 2.1<2 2.2<2 2.3<2 2.4<2 2.5<2")
	w.hear("ask 2>1 2.4 get k :2.1,2.2", "ack 1>2 2.4 :2.1,2.2")
	w.hear("ack 1>2 2.4 :2.1,2.2", "tell 2>1 2.4 get k :2.1,2.2", "tell 2>3 2.4 get k :2.1,2.2")
	// Asked for ahead of 2.4, yet heard of behind it.
	w.hear("ask 2>1 2.1 put k=1", "ack 1>2 2.1 :2.4")
	w.hear("ack 1>2 2.1 :2.4", "tell 2>1 2.1 put k=1 :2.4", "tell 2>3 2.1 put k=1 :2.4")
	w.is(2, "next 6; 2.1 put k=1 :2.4 sure, 2.2 put k=2 :2.1, 2.3 get l, 2.4 get k :2.1,2.2 sure, 2.5 get k :2.1,2.2; acks 2.2<2 2.3<2 2.5<2")
	w.hear("ask 2>3 2.3 get l", "ack 3>2 2.3")
	w.hear("ack 3>2 2.3", "tell 2>1 2.3 get l", "tell 2>3 2.3 get l")
	w.hear("ask 2>3 2.2 put k=2 :2.1", "ack 3>2 2.2 :2.1")
	w.hear("ack 3>2 2.2 :2.1", "tell 2>1 2.2 put k=2 :2.1", "tell 2>3 2.2 put k=2 :2.1")
	w.is(2, "next 6; 2.1 put k=1 :2.4 sure, 2.2 put k=2 :2.1 sure, 2.3 get l sure, 2.4 get k :2.1,2.2 sure, 2.5 get k :2.1,2.2; "+
		"acks 2.5<2; done 2.3 2.1 2.2 2.4; map k=2; said 2.3- 2.1- 2.2=1 2.4=2")
}

func TestAgainAndRebootByHand(t *testing.T) {
	w := newTalk(t, 5)
	mustRepeat := func(id int, want ...string) {
		t.Helper()
		w.mustSay("again", impl.Again(w.at(id)), want)
	}
	mustRepeat(1)
	w.reboot(1)
	w.is(1, "next 1")
	w.submit(1, "put k=1", "ask 1>2 1.1 put k=1", "ask 1>3 1.1 put k=1", "ask 1>4 1.1 put k=1", "ask 1>5 1.1 put k=1")
	w.submit(1, "get l", "ask 1>2 1.2 get l", "ask 1>3 1.2 get l", "ask 1>4 1.2 get l", "ask 1>5 1.2 get l")
	w.reboot(1)
	w.is(1, "next 3; 1.1 put k=1, 1.2 get l; acks 1.1<1 1.2<1")
	w.hear("ask 4>1 4.1 del l", "ack 1>4 4.1 :1.2")
	mustRepeat(1, "ask 1>2 1.1 put k=1", "ask 1>3 1.1 put k=1", "ask 1>4 1.1 put k=1", "ask 1>5 1.1 put k=1",
		"ask 1>2 1.2 get l", "ask 1>3 1.2 get l", "ask 1>4 1.2 get l", "ask 1>5 1.2 get l")
	w.hear("ack 3>1 1.1 :3.1")
	w.hear("ack 5>1 1.2")
	w.is(1, "next 3; 1.1 put k=1 :3.1, 1.2 get l, 4.1 del l :1.2; acks 1.1<1 1.1<3 1.2<1 1.2<5")
	// What was gathered is asked for from then on.
	mustRepeat(1, "ask 1>2 1.1 put k=1 :3.1", "ask 1>3 1.1 put k=1 :3.1", "ask 1>4 1.1 put k=1 :3.1", "ask 1>5 1.1 put k=1 :3.1",
		"ask 1>2 1.2 get l", "ask 1>3 1.2 get l", "ask 1>4 1.2 get l", "ask 1>5 1.2 get l")
	// Behind a Reboot the Deps stay, who held them is forgotten.
	w.reboot(1)
	w.is(1, "next 3; 1.1 put k=1 :3.1, 1.2 get l, 4.1 del l :1.2; acks 1.1<1 1.2<1")
	w.hear("ack 2>1 1.1 :4.2")
	w.hear("ack 4>1 1.1", "tell 1>2 1.1 put k=1 :3.1,4.2", "tell 1>3 1.1 put k=1 :3.1,4.2", "tell 1>4 1.1 put k=1 :3.1,4.2", "tell 1>5 1.1 put k=1 :3.1,4.2")
	mustRepeat(1, "tell 1>2 1.1 put k=1 :3.1,4.2", "tell 1>3 1.1 put k=1 :3.1,4.2", "tell 1>4 1.1 put k=1 :3.1,4.2", "tell 1>5 1.1 put k=1 :3.1,4.2",
		"ask 1>2 1.2 get l", "ask 1>3 1.2 get l", "ask 1>4 1.2 get l", "ask 1>5 1.2 get l")
	w.reboot(1)
	w.is(1, "next 3; 1.1 put k=1 :3.1,4.2 sure, 1.2 get l, 4.1 del l :1.2; acks 1.2<1")
	w.hear("tell 4>1 4.2 get k")
	w.hear("tell 3>1 3.1 put k=7")
	w.reboot(1)
	w.is(1, "next 3; 1.1 put k=1 :3.1,4.2 sure, 1.2 get l, 3.1 put k=7 sure, 4.1 del l :1.2, 4.2 get k sure; acks 1.2<1; done 4.2 3.1 1.1; map k=1; said 1.1=7")
	// Others' commands are not its own to repeat.
	mustRepeat(4)
	w.hear("ask 1>4 1.2 get l", "ack 4>1 1.2")
	mustRepeat(4)
	w.reboot(4)
	w.is(4, "next 1; 1.2 get l")
}

func TestAgainOfEachSeat(t *testing.T) {
	for n := 1; n <= 7; n++ {
		for id := 1; id <= n; id++ {
			r := impl.ReplicaNew(id, n)
			for _, text := range []string{"put a=1", "get b", "del a"} {
				r, _, _ = mustSubmit(t, "seat", r, cmd(text))
			}
			var want []string
			for i, text := range []string{"put a=1", "get b", "del a"} {
				for other := 1; other <= n; other++ {
					deps := map[bool]string{true: fmt.Sprint(" :", id, ".1")}[i == 2]
					if other != id {
						want = append(want, fmt.Sprint("ask ", id, ">", other, " ", id, ".", i+1, " ", text, deps))
					}
				}
			}
			if l := showMsgs(impl.Again(r)); !slices.Equal(l, want) {
				t.Error(id, n, l)
			}
		}
	}
}

// More than half of N: 1 of 1, 2 of 2, 2 of 3, 3 of 4, 3 of 5, 4 of 6, 4 of 7, the replica itself among them.
func TestHowManyMustHoldIt(t *testing.T) {
	for n, want := range map[int]int{1: 1, 2: 2, 3: 2, 4: 3, 5: 3, 6: 4, 7: 4} {
		for id := 1; id <= n; id++ {
			for _, down := range []bool{false, true} {
				mustGather(t, id, n, want, down)
			}
		}
	}
}

// mustGather has a command acked by one after the other, each twice, upwards or downwards.
func mustGather(t *testing.T, id int, n int, want int, down bool) {
	t.Helper()
	what := fmt.Sprint(id, " of ", n)
	r, _, d := mustSubmit(t, what, impl.ReplicaNew(id, n), cmd("put k=1"))
	others := slices.DeleteFunc(numbersFrom(1, n+1), func(other int) bool { return other == id })
	if down {
		slices.Reverse(others)
	}
	holders := []int{id}
	for _, other := range others {
		if r.Recs[0].Sure != (len(holders) >= want) {
			t.Fatalf("%s: held by %v: %s", what, holders, showReplica(r))
		}
		holders = append(holders, other)
		ack := impl.Msg{Kind: impl.MsgAck, From: other, To: id, D: d}
		next, said := mustHear(t, what, r, ack)
		if tells := len(holders) == want; (len(said) == n-1) != tells || !tells && len(said) > 0 {
			t.Fatalf("%s: held by %v: said %q", what, holders, showMsgs(said))
		}
		r = next
		if next, said := mustHear(t, what, r, ack); !same(next, r) || len(said) != 0 {
			t.Fatalf("%s: counted twice: %s", what, showReplica(next))
		}
		if len(holders) < want {
			var acks []impl.Ack
			slices.Sort(holders)
			for _, h := range holders {
				acks = append(acks, impl.Ack{D: d, From: h})
			}
			if !slices.Equal(r.Acks, acks) {
				t.Fatalf("%s: held by %v: %v", what, holders, r.Acks)
			}
		}
	}
	if !r.Recs[0].Sure || len(r.Acks) != 0 || !slices.Equal(r.Done, []impl.Dot{d}) {
		t.Errorf("%s: held by all: %s", what, showReplica(r))
	}
}

// What one command gathers counts for it alone.
func TestWhoHoldsWhat(t *testing.T) {
	w := newTalk(t, 5)
	for _, text := range []string{"put a=1", "put b=2", "put c=3"} {
		r, _, _ := mustSubmit(t, text, w.at(3), cmd(text))
		w.reps[2] = r
	}
	w.hear("ack 5>3 3.2")
	w.hear("ack 1>3 3.3")
	w.hear("ack 2>3 3.1")
	w.is(3, "next 4; 3.1 put a=1, 3.2 put b=2, 3.3 put c=3; acks 3.1<2 3.1<3 3.2<3 3.2<5 3.3<1 3.3<3")
	w.hear("ack 1>3 3.2", "tell 3>1 3.2 put b=2", "tell 3>2 3.2 put b=2", "tell 3>4 3.2 put b=2", "tell 3>5 3.2 put b=2")
	w.is(3, "next 4; 3.1 put a=1, 3.2 put b=2 sure, 3.3 put c=3; acks 3.1<2 3.1<3 3.3<1 3.3<3; done 3.2; map b=2; said 3.2-")
	w.reboot(3)
	w.is(3, "next 4; 3.1 put a=1, 3.2 put b=2 sure, 3.3 put c=3; acks 3.1<3 3.3<3; done 3.2; map b=2; said 3.2-")
	w.hear("ack 1>3 3.3")
	w.hear("ack 2>3 3.3", "tell 3>1 3.3 put c=3", "tell 3>2 3.3 put c=3", "tell 3>4 3.3 put c=3", "tell 3>5 3.3 put c=3")
	w.is(3, "next 4; 3.1 put a=1, 3.2 put b=2 sure, 3.3 put c=3 sure; acks 3.1<3; done 3.2 3.3; map b=2 c=3; said 3.2- 3.3-")
}

// toldIn has tells heard at replica 1 of 7, in this order.
func toldIn(t *testing.T, texts []string) impl.Replica {
	t.Helper()
	r := impl.ReplicaNew(1, 7)
	for _, text := range texts {
		m := msg("tell " + text[:1] + ">1 " + text)
		next, said := mustHear(t, text, r, m)
		if len(said) != 0 {
			t.Errorf("%s: said %q", text, showMsgs(said))
		}
		mustStand(t, text, next)
		r = next
	}
	return r
}

func TestChainsOfDeps(t *testing.T) {
	chain := []string{"2.1 put k=a", "3.1 put k=b :2.1", "4.1 get k :2.1,3.1", "5.1 del k :2.1,3.1,4.1", "6.1 put k=c :2.1,3.1,4.1,5.1", "7.1 put l=d"}
	for i := range 720 {
		order := permuted(chain, i)
		r := toldIn(t, order)
		if len(r.Done) != 6 || !same(r.Map, pairs("k=c l=d")) {
			t.Errorf("%q: %s", order, showReplica(r))
		}
		var chained []impl.Dot
		for _, d := range r.Done {
			if d.R != 7 {
				chained = append(chained, d)
			}
		}
		if !slices.Equal(chained, dots("2.1 3.1 4.1 5.1 6.1")) {
			t.Errorf("%q: %v", order, r.Done)
		}
	}
	back := slices.Clone(chain)
	slices.Reverse(back)
	for i, want := range []string{"7.1", "7.1", "7.1", "7.1", "7.1", "7.1 2.1 3.1 4.1 5.1 6.1"} {
		if r := toldIn(t, back[:i+1]); showDots(r.Done, " ") != want {
			t.Error(i, r.Done)
		}
	}
}

// permuted is the n-th order of a list.
func permuted(list []string, n int) []string {
	left := slices.Clone(list)
	var out []string
	for len(left) > 0 {
		at := n % len(left)
		n /= len(left)
		out = append(out, left[at])
		left = slices.Delete(left, at, at+1)
	}
	return out
}

func TestRingsOfDeps(t *testing.T) {
	// A ring of three, one that depends on it, one that it depends on.
	list := []string{"2.1 put k=a :3.1", "3.1 put k=b :4.1,6.1", "4.1 put k=c :2.1", "5.1 get k :2.1", "6.1 put x=y"}
	for i := range 120 {
		order := permuted(list, i)
		r := toldIn(t, order)
		if showDots(r.Done, " ") != "6.1 2.1 3.1 4.1 5.1" || !same(r.Map, pairs("k=c x=y")) {
			t.Errorf("%q: %s", order, showReplica(r))
		}
	}
	// Two rings that do not touch come as they become whole.
	list = []string{"2.1 put k=a :3.1", "3.1 put k=b :2.1", "4.1 put l=a :5.1", "5.1 put l=b :4.1"}
	for i := range 24 {
		order := permuted(list, i)
		r := toldIn(t, order)
		want := "2.1 3.1 4.1 5.1"
		if last := order[3][0]; last == '2' || last == '3' {
			want = "4.1 5.1 2.1 3.1"
		}
		if showDots(r.Done, " ") != want || !same(r.Map, pairs("k=b l=b")) {
			t.Errorf("%q: %s", order, showReplica(r))
		}
	}
}

// One that is known, but not Sure, is waited for as one that is not known.
func TestWaitingForWhatIsNotSure(t *testing.T) {
	w := newTalk(t, 3)
	w.hear("ask 2>1 2.1 put k=1", "ack 1>2 2.1")
	w.hear("tell 3>1 3.1 get k :2.1")
	w.is(1, "next 1; 2.1 put k=1, 3.1 get k :2.1 sure")
	w.hear("tell 3>1 3.2 put l=5")
	w.hear("tell 3>1 3.3 put k=3 :2.1,3.1,3.4")
	w.is(1, "next 1; 2.1 put k=1, 3.1 get k :2.1 sure, 3.2 put l=5 sure, 3.3 put k=3 :2.1,3.1,3.4 sure; done 3.2; map l=5")
	w.hear("tell 2>1 2.1 put k=1")
	w.is(1, "next 1; 2.1 put k=1 sure, 3.1 get k :2.1 sure, 3.2 put l=5 sure, 3.3 put k=3 :2.1,3.1,3.4 sure; done 3.2 2.1 3.1; map k=1 l=5")
	w.hear("tell 3>1 3.4 del l :3.2,3.3")
	w.is(1, "next 1; 2.1 put k=1 sure, 3.1 get k :2.1 sure, 3.2 put l=5 sure, 3.3 put k=3 :2.1,3.1,3.4 sure, 3.4 del l :3.2,3.3 sure; done 3.2 2.1 3.1 3.3 3.4; map k=3")
	// An own one that is not Sure holds others up, too.
	w.submit(1, "put m=1", "ask 1>2 1.1 put m=1", "ask 1>3 1.1 put m=1")
	w.hear("tell 2>1 2.2 get m :1.1")
	w.hear("ack 3>1 1.1 :2.2", "tell 1>2 1.1 put m=1 :2.2", "tell 1>3 1.1 put m=1 :2.2")
	w.is(1, "next 2; 1.1 put m=1 :2.2 sure, 2.1 put k=1 sure, 2.2 get m :1.1 sure, 3.1 get k :2.1 sure, 3.2 put l=5 sure, 3.3 put k=3 :2.1,3.1,3.4 sure, "+
		"3.4 del l :3.2,3.3 sure; done 3.2 2.1 3.1 3.3 3.4 1.1 2.2; map k=3 m=1; said 1.1-")
}

// Said has the own ones alone, each with what was there ahead of it.
func TestWhatIsSaid(t *testing.T) {
	w := newTalk(t, 3)
	w.hear("tell 2>1 2.1 put k=1")
	for i, x := range []struct{ text, said string }{
		{"get k", "=1"}, {"put k=2", "=1"}, {"put k=", "=2"}, {"get k", "="}, {"del k", "="}, {"del k", "-"}, {"get k", "-"}, {"put k=3", "-"}, {"get l", "-"}, {"put k=3", "=3"},
	} {
		r, _, d := mustSubmit(t, x.text, w.at(1), cmd(x.text))
		r, _ = mustHear(t, x.text, r, impl.Msg{Kind: impl.MsgAck, From: 3, To: 1, D: d})
		w.reps[0] = r
		said := r.Said[len(r.Said)-1]
		got := map[bool]string{true: "=" + said.Val, false: "-" + said.Val}[said.Has]
		if len(r.Said) != i+1 || said.D != d || got != x.said {
			t.Errorf("%s: %v", x.text, r.Said)
		}
		mustStand(t, x.text, r)
	}
	w.hear("tell 2>1 2.2 get k")
	w.hear("tell 3>1 3.1 del k")
	if r := w.at(1); len(r.Said) != 10 || len(r.Done) != 13 || len(r.Map) != 0 {
		t.Error(showReplica(r))
	}
}

func TestMapsOfOddKeys(t *testing.T) {
	r := impl.ReplicaNew(1, 7)
	for i, key := range oddKeys {
		if key == "" || len(key) > 20 {
			continue
		}
		m := impl.Msg{Kind: impl.MsgTell, From: 2 + i%6, To: 1, D: impl.Dot{R: 2 + i%6, N: 900 - i}, C: impl.Cmd{Kind: impl.CmdPut, Key: key, Val: key}}
		r, _ = mustHear(t, "odd keys", r, m)
	}
	mustStand(t, "odd keys", r)
	if len(r.Map) != len(r.Recs) || len(r.Map) < 20 {
		t.Error(len(r.Map), len(r.Recs))
	}
	for i, p := range r.Map {
		if p.Val != p.Key || p.Gone || i > 0 && r.Map[i-1].Key >= p.Key {
			t.Errorf("%+v", p)
		}
	}
}

func TestKeysAndValuesAtTheirLimits(t *testing.T) {
	for _, n := range []int{1, 3} {
		r := impl.ReplicaNew(1, n)
		for _, c := range []impl.Cmd{
			{Kind: impl.CmdPut, Key: long, Val: long}, {Kind: impl.CmdPut, Key: "k"}, {Kind: impl.CmdDel, Key: long}, {Kind: impl.CmdGet, Key: long}, {Kind: impl.CmdPut, Key: "\xff", Val: "\x00"},
		} {
			next, _, d := mustSubmit(t, "right", r, c)
			if d != (impl.Dot{R: 1, N: len(r.Recs) + 1}) {
				t.Errorf("%+v: %v", c, d)
			}
			r = next
		}
		for why, c := range wrongCmds() {
			if next, said, d := mustSubmit(t, why, r, c); !same(next, r) || len(said) != 0 || d != (impl.Dot{}) {
				t.Errorf("%s: %v", why, d)
			}
		}
	}
}

// wrongCmds are not as told, each for one reason.
func wrongCmds() map[string]impl.Cmd {
	return map[string]impl.Cmd{
		"nothing": {}, "no Kind": {Key: "k"}, "Kind below": {Kind: -1, Key: "k"}, "Kind above": {Kind: 4, Key: "k"}, "Kind far above": {Kind: math.MaxInt, Key: "k"},
		"put without a Key": {Kind: impl.CmdPut, Val: "v"}, "del without a Key": {Kind: impl.CmdDel}, "get without a Key": {Kind: impl.CmdGet},
		"put of a long Key": {Kind: impl.CmdPut, Key: long + "y", Val: "v"}, "del of a long Key": {Kind: impl.CmdDel, Key: long + "y"}, "get of a long Key": {Kind: impl.CmdGet, Key: long + "y"},
		"put of a long Val": {Kind: impl.CmdPut, Key: "k", Val: long + "y"}, "del with a Val": {Kind: impl.CmdDel, Key: "k", Val: "v"}, "get with a Val": {Kind: impl.CmdGet, Key: "k", Val: "v"},
		"far too long": {Kind: impl.CmdPut, Key: strings.Repeat("k", 5000), Val: strings.Repeat("v", 5000)},
	}
}
