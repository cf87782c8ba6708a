package tests

import (
	"fmt"
	"slices"
	"strings"
	"testing"

	"loop.example/g00184/impl"
)

// A told case is a right cluster of three, and whether what is asked holds.
type toldCase struct {
	what  string
	holds bool
	texts string
}

func mustHoldAsTold(t *testing.T, name string, ask func(impl.Cluster) bool, cases []toldCase) {
	t.Helper()
	for _, c := range cases {
		w := clusterOf(3, strings.Split(c.texts, "; ")...)
		mustBeRightCluster(t, c.what, w)
		if got := ask(w); got != c.holds {
			t.Errorf("%s: %s: %v: %s", name, c.what, got, showCluster(w))
		}
		mustBeFound(t, c.what, w)
	}
}

func TestOrdered(t *testing.T) {
	mustHoldAsTold(t, "Ordered", impl.Ordered, []toldCase{
		{"nothing", true, ""},
		{"one alone", true, "1: 1.1 put k=1 sure"},
		{"neither among the other's", false, "1: 1.1 put k=1 sure; 1: 2.1 put k=2 sure"},
		{"the first among the second's", true, "1: 1.1 put k=1 sure; 1: 2.1 put k=2 :1.1 sure"},
		{"the second among the first's", true, "1: 1.1 put k=1 :2.1 sure; 1: 2.1 put k=2 sure"},
		{"each among the other's", true, "1: 1.1 put k=1 :2.1 sure; 1: 2.1 put k=2 :1.1 sure"},
		{"another one among both", false, "1: 1.1 put k=1 :3.1 sure; 1: 2.1 put k=2 :3.1 sure"},
		{"over another one alone", false, "2: 1.1 put k=1 sure; 2: 2.1 get z :1.1 sure; 2: 3.1 put k=3 :2.1 sure"},
		{"the same number of another replica", false, "1: 1.1 put k=1 sure; 1: 2.2 put k=2 :1.2,2.1 sure"},

		{"a put and a get", false, "1: 1.1 put k=1 sure; 1: 2.1 get k sure"},
		{"a put ahead of a get", true, "1: 1.1 put k=1 sure; 1: 2.1 get k :1.1 sure"},
		{"a del and a put", false, "1: 1.1 del k sure; 1: 2.1 put k=1 sure"},
		{"two dels", false, "1: 1.1 del k sure; 1: 2.1 del k sure"},
		{"a get and a del", false, "1: 1.1 get k sure; 1: 2.1 del k sure"},
		{"two gets", true, "1: 1.1 get k sure; 1: 2.1 get k sure"},
		{"two gets, each at another one", true, "1: 1.1 get k sure; 2: 2.1 get k sure"},
		{"other keys", true, "1: 1.1 put k=1 sure; 1: 2.1 put l=1 sure"},
		{"keys of which one is the other's beginning", true, "1: 1.1 put k=1 sure; 1: 2.1 put kk=1 sure"},
		{"other keys, one among the other's", true, "1: 1.1 put k=1 sure; 1: 2.1 put l=1 :1.1 sure"},

		{"each at another one, neither", false, "1: 1.1 put k=1 sure; 2: 2.1 put k=2 sure"},
		{"each at another one, in order", true, "1: 1.1 put k=1 sure; 2: 2.1 put k=2 :1.1 sure"},
		{"each at another one than its own", false, "2: 1.1 put k=1 sure; 3: 2.1 put k=2 sure"},
		{"the last two, each at another one", false, "2: 2.1 put k=1 sure; 3: 3.1 put k=2 sure"},
		{"one at two, the other one at the third", false, "1: 1.1 put k=1 sure; 2: 1.1 put k=1 sure; 3: 3.1 put k=2 sure"},
		{"one at two, the other one at the third, in order", true, "1: 1.1 put k=1 sure; 2: 1.1 put k=1 sure; 3: 3.1 put k=2 :1.1 sure"},
		{"one at two, both at one of these", true, "1: 1.1 put k=1 sure; 2: 1.1 put k=1 sure; 2: 2.1 put k=2 :1.1 sure"},

		{"one is not Sure", true, "1: 1.1 put k=1 sure; 1: 2.1 put k=2"},
		{"neither is Sure", true, "1: 1.1 put k=1; 1: 2.1 put k=2"},
		{"one is Sure nowhere", true, "1: 1.1 put k=1 sure; 2: 2.1 put k=2; 3: 2.1 put k=2"},
		{"one is Sure elsewhere alone", false, "1: 1.1 put k=1 sure; 1: 2.1 put k=2; 2: 2.1 put k=2 sure"},
		{"in order only where one is not Sure", false, "1: 1.1 put k=1 sure; 1: 2.1 put k=2 :1.1; 2: 2.1 put k=2 sure"},

		{"the same Deps at two", true, "1: 1.1 put k=1 :2.5 sure; 2: 1.1 put k=1 :2.5 sure"},
		{"no Deps at three", true, "1: 1.1 put k=1 sure; 2: 1.1 put k=1 sure; 3: 1.1 put k=1 sure"},
		{"one more Dep at the second", false, "1: 1.1 put k=1 sure; 2: 1.1 put k=1 :2.5 sure"},
		{"one less Dep at the second", false, "1: 1.1 put k=1 :2.5,3.5 sure; 2: 1.1 put k=1 :2.5 sure"},
		{"another Dep at the second", false, "1: 1.1 put k=1 :2.5 sure; 2: 1.1 put k=1 :3.5 sure"},
		{"another Dep at the third", false, "1: 1.1 put k=1 :2.5 sure; 2: 1.1 put k=1 :2.5 sure; 3: 1.1 put k=1 :2.6 sure"},
		{"a get with other Deps", false, "2: 1.1 get k sure; 3: 1.1 get k :2.5 sure"},
		{"other Deps where it is not Sure", true, "1: 1.1 put k=1 :2.5 sure; 2: 1.1 put k=1 :3.5; 3: 1.1 put k=1"},
		{"other Deps where it is not Sure, twice", true, "1: 1.1 put k=1 :2.5; 2: 1.1 put k=1 :3.5; 3: 1.1 put k=1 sure"},
		{"in order at one alone, other Deps at the other", false, "1: 1.1 put k=1 sure; 1: 2.1 put k=2 :1.1 sure; 2: 1.1 put k=1 sure; 2: 2.1 put k=2 :1.1,3.1 sure"},
	})
}

// Three that meet, of which one pair or none is not in order; spread over the replicas in each way.
func TestOrderedOfThree(t *testing.T) {
	names := []string{"1.1", "2.1", "3.1"}
	for lacking := range 4 {
		for spread := range 27 {
			var texts []string
			for i, d := range names {
				var deps []string
				for j := range i {
					// The pairs are 0 and 1, 0 and 2, 1 and 2.
					if i+j-1 != lacking {
						deps = append(deps, names[j])
					}
				}
				at := 1 + spread/[]int{1, 3, 9}[i]%3
				texts = append(texts, fmt.Sprint(at, ": ", d, " put k=1 :", strings.Join(deps, ","), " sure"))
			}
			w := clusterOf(3, texts...)
			mustBeRightCluster(t, "three", w)
			if got := impl.Ordered(w); got != (lacking == 3) {
				t.Error(texts, got)
			}
			mustBeFound(t, "three", w)
		}
	}
}

func TestAgreed(t *testing.T) {
	puts := "1: 1.1 put k=1 sure; 1: 2.1 put k=2 sure; 1: 3.1 del k sure; 2: 1.1 put k=1 sure; 2: 2.1 put k=2 sure; 2: 3.1 del k sure"
	keys := "1: 1.1 put k=1 sure; 1: 1.2 put l=1 sure; 1: 2.1 put k=2 sure; 1: 2.2 put l=2 sure; 3: 1.1 put k=1 sure; 3: 1.2 put l=1 sure; 3: 2.1 put k=2 sure; 3: 2.2 put l=2 sure"
	gets := "1: 1.1 put k=1 sure; 1: 2.1 get k sure; 1: 2.2 put k=2 sure; 2: 1.1 put k=1 sure; 2: 2.1 get k sure; 2: 2.2 put k=2 sure"
	mustHoldAsTold(t, "Agreed", impl.Agreed, []toldCase{
		{"nothing", true, ""},
		{"one replica has some", true, "2: 1.1 put k=1 sure; 2: 2.1 put k=2 sure"},
		{"the same", true, "1: 1.1 put k=1 sure; 2: 1.1 put k=1 sure; 3: 1.1 put k=1 sure"},
		{"each another one", false, "1: 1.1 put k=1 sure; 2: 2.1 put k=2 sure"},
		{"the last two each another one", false, "2: 1.1 put k=1 sure; 3: 2.1 put k=2 sure"},
		{"each another one, that make the same", false, "1: 1.1 put k=1 sure; 2: 2.1 put k=1 sure"},
		{"each another del", false, "1: 1.1 del k sure; 3: 2.1 del k sure"},
		{"a put and a del", false, "1: 1.1 put k=1 sure; 3: 2.1 del k sure"},
		{"each another one of another key", true, "1: 1.1 put k=1 sure; 2: 2.1 put l=2 sure"},
		{"each another one that is not Sure", true, "1: 1.1 put k=1; 2: 2.1 put k=2"},
		{"Sure at two, and done at one of them", true, "1: 1.1 put k=1 sure; 2: 1.1 put k=1 :3.9 sure; 2: 2.1 get k sure"},

		{"a beginning", true, "1: 1.1 put k=1 sure; 1: 2.1 put k=2 sure; 2: 1.1 put k=1 sure"},
		{"a beginning at the first", true, "2: 1.1 put k=1 sure; 2: 2.1 put k=2 sure; 1: 1.1 put k=1 sure"},
		{"a beginning of a beginning", true, "1: 1.1 put k=1 sure; 2: 1.1 put k=1 sure; 2: 2.1 put k=2 sure; 3: 1.1 put k=1 sure; 3: 2.1 put k=2 sure; 3: 3.1 put k=3 sure"},
		{"an end is no beginning", false, "1: 1.1 put k=1 sure; 1: 2.1 put k=2 sure; 3: 2.1 put k=2 sure"},
		{"two of which one begins a third", false, "1: 1.1 put k=1 sure; 2: 1.1 put k=1 sure; 2: 2.1 put k=2 sure; 3: 1.1 put k=1 sure; 3: 3.1 put k=2 sure"},

		{"three, the same", true, puts},
		{"three, turned at both", true, puts + "; 1 done 3.1 1.1 2.1; 2 done 3.1 1.1 2.1"},
		{"three, the last two turned", false, puts + "; 2 done 1.1 3.1 2.1"},
		{"three, the first two turned", false, puts + "; 1 done 2.1 1.1 3.1"},
		{"three, the first is the last", false, puts + "; 1 done 2.1 3.1 1.1"},
		{"three, parted from the third replica", false, puts + "; 3: 2.1 put k=2 sure"},
		{"three, the third replica has the first", true, puts + "; 3: 1.1 put k=1 sure"},

		{"two keys, one among the other", true, keys},
		{"two keys, one behind the other", true, keys + "; 3 done 1.2 2.2 1.1 2.1"},
		{"two keys, one turned", false, keys + "; 3 done 2.1 1.1 1.2 2.2"},
		{"two keys, the other one turned", false, keys + "; 1 done 2.2 1.1 1.2 2.1"},
		{"two keys, both turned at both", true, keys + "; 1 done 2.2 2.1 1.2 1.1; 3 done 2.1 2.2 1.1 1.2"},
		{"two keys, each a beginning elsewhere", true, "1: 1.1 put k=1 sure; 1: 2.1 put k=2 sure; 1: 1.2 put l=1 sure; 2: 1.1 put k=1 sure; 2: 1.2 put l=1 sure; 2: 3.1 put l=2 sure"},

		{"gets among them", true, gets},
		{"gets turned", true, gets + "; 2 done 2.1 1.1 2.2"},
		{"gets turned at the end", true, gets + "; 2 done 1.1 2.2 2.1"},
		{"gets among puts that are turned", false, gets + "; 2 done 2.2 2.1 1.1"},
		{"each another get", true, "1: 1.1 get k sure; 2: 2.1 get k sure; 3: 3.1 get k sure"},
		{"a get ahead of a put", true, "1: 1.1 get k sure; 1: 2.1 put k=2 sure; 2: 2.1 put k=2 sure"},
	})
	alone := clusterOf(1, "1: 1.1 put k=1 sure", "1: 1.2 put k=2 sure", "1 done 1.2 1.1")
	mustBeRightCluster(t, "alone", alone)
	if !impl.Agreed(alone) || impl.Safe(alone) != 2 {
		t.Error("alone", found(alone))
	}
}

// Seven that agree, but for any two of them.
func TestAgreedOfSeven(t *testing.T) {
	for one := range 7 {
		for other := range 7 {
			var texts []string
			for id := 1; id <= 7; id++ {
				texts = append(texts, fmt.Sprint(id, ": 1.1 put k=1 sure"))
			}
			// Each of these has another one behind the first; the rest has a beginning of both.
			texts = append(texts, fmt.Sprint(one+1, ": 2.1 put k=2 sure"))
			if one != other {
				texts = append(texts, fmt.Sprint(other+1, ": 3.1 put k=2 sure"))
			}
			w := clusterOf(7, texts...)
			if got := impl.Agreed(w); got != (one == other) {
				t.Error(one, other, got)
			}
			mustBeFound(t, "seven", w)
		}
	}
}

func TestTimely(t *testing.T) {
	put, later := "asked 1.1 put k=1", "asked 2.1 put k=2 <1.1"
	mustHoldAsTold(t, "Timely", impl.Timely, []toldCase{
		{"nothing", true, ""},
		{"nothing is known of it", true, put + "; " + later},
		{"Sure nowhere", true, put + "; " + later + "; 1: 2.1 put k=2; 2: 2.1 put k=2; 3: 2.1 put k=2"},
		{"Sure at its own alone, without it", false, put + "; " + later + "; 2: 2.1 put k=2 sure"},
		{"Sure at its own alone, with it", true, put + "; " + later + "; 2: 2.1 put k=2 :1.1 sure"},
		{"Sure at another one alone, without it", false, put + "; " + later + "; 3: 2.1 put k=2 sure"},
		{"Sure at another one alone, with it", true, put + "; " + later + "; 3: 2.1 put k=2 :1.1 sure; 2: 2.1 put k=2"},
		{"Sure at the first alone, not Sure without it", true, put + "; " + later + "; 1: 2.1 put k=2 :1.1 sure; 3: 2.1 put k=2"},
		{"not Sure with it, Sure without it", false, put + "; " + later + "; 1: 2.1 put k=2 :1.1; 3: 2.1 put k=2 sure"},
		{"Sure at all, with it", true, put + "; " + later + "; 1: 2.1 put k=2 :1.1 sure; 2: 2.1 put k=2 :1.1 sure; 3: 2.1 put k=2 :1.1 sure"},
		{"Sure at all, without it at the last", false, put + "; " + later + "; 1: 2.1 put k=2 :1.1 sure; 2: 2.1 put k=2 :1.1 sure; 3: 2.1 put k=2 sure"},
		{"Sure at all, without it at the first", false, put + "; " + later + "; 1: 2.1 put k=2 sure; 2: 2.1 put k=2 :1.1 sure; 3: 2.1 put k=2 :1.1 sure"},
		{"the other way about", false, put + "; " + later + "; 1: 1.1 put k=1 :2.1 sure; 2: 2.1 put k=2 sure"},
		{"another one among its Deps", false, put + "; " + later + "; 2: 2.1 put k=2 :3.1 sure"},

		{"Asked the other way about", false, later + "; " + put + "; 2: 2.1 put k=2 sure"},
		{"not answered ahead", true, put + "; asked 2.1 put k=2; 2: 2.1 put k=2 sure"},
		{"the first asked later", true, "asked 1.1 put k=1 <2.1; asked 2.1 put k=2; 2: 2.1 put k=2 sure"},
		{"the first asked later, Sure without it", false, "asked 1.1 put k=1 <2.1; asked 2.1 put k=2; 2: 1.1 put k=1 sure"},

		{"of another key", true, "asked 1.1 put l=1; " + later + "; 2: 2.1 put k=2 sure"},
		{"of a key that goes on", true, "asked 1.1 put kk=1; " + later + "; 2: 2.1 put k=2 sure"},
		{"a get ahead of a put", false, "asked 1.1 get k; " + later + "; 2: 2.1 put k=2 sure"},
		{"a put ahead of a get", false, put + "; asked 2.1 get k <1.1; 2: 2.1 get k sure"},
		{"a del ahead of a get", false, "asked 1.1 del k; asked 2.1 get k <1.1; 2: 2.1 get k sure"},
		{"a get ahead of a get", true, "asked 1.1 get k; asked 2.1 get k <1.1; 2: 2.1 get k sure"},

		{"several, the last is not there", false, "asked 1.1 put k=1; asked 1.2 put k=2; asked 1.3 get k; asked 2.1 del k <1.1,1.2,1.3; 3: 2.1 del k :1.1,1.2 sure"},
		{"several, the first is not there", false, "asked 1.1 put k=1; asked 1.2 put k=2; asked 1.3 get k; asked 2.1 del k <1.1,1.2,1.3; 3: 2.1 del k :1.2,1.3 sure"},
		{"several, all are there", true, "asked 1.1 put k=1; asked 1.2 put k=2; asked 1.3 get k; asked 2.1 del k <1.1,1.2,1.3; 3: 2.1 del k :1.1,1.2,1.3 sure"},
		{"several, those that meet are there", true, "asked 1.1 put k=1; asked 1.2 put l=2; asked 1.3 get k; asked 2.1 get k <1.1,1.2,1.3; 3: 2.1 get k :1.1 sure"},
		{"of two the second is late", false, put + "; " + later + "; asked 3.1 get k <1.1,2.1; 1: 2.1 put k=2 :1.1 sure; 1: 3.1 get k :1.1 sure"},
		{"of two the first is late", false, put + "; " + later + "; asked 3.1 get k <1.1,2.1; 1: 2.1 put k=2 sure; 1: 3.1 get k :1.1,2.1 sure"},

		{"of what was never asked for", true, later + "; 2: 2.1 put k=2 sure"},
		{"of what was never asked for, and is known", true, later + "; 2: 1.1 put k=1 :2.1 sure; 2: 2.1 put k=2 sure"},
		{"of what was never asked for, and among its Deps", true, later + "; 2: 2.1 put k=2 :1.1 sure"},
		{"of what was never asked for, and of what was", false, put + "; asked 2.1 put k=2 <1.1,3.3; 2: 2.1 put k=2 :3.3 sure"},
		{"not asked for, and Sure", true, put + "; 2: 2.1 put k=2 sure; 2: 3.1 put k=3 sure"},
		{"it itself", false, "asked 2.1 put k=2 <2.1; 2: 2.1 put k=2 sure"},
		{"it itself, a get", true, "asked 2.1 get k <2.1; 2: 2.1 get k sure"},

		// What was asked for counts, whatever is known of the Dot.
		{"known as another command", false, put + "; asked 2.1 put k=2 <1.1; 2: 2.1 put l=2 sure"},
		{"known as one that meets it", true, put + "; asked 2.1 put l=2 <1.1; 2: 2.1 put k=2 sure"},
		{"the one ahead known as one that meets it", true, "asked 1.1 put l=1; " + later + "; 2: 2.1 put k=2 sure; 2: 1.1 put k=1 :2.1 sure"},
		// Of several with one Dot the first tells what it is; each has its own Before.
		{"asked twice, the first meets", false, put + "; asked 1.1 put l=1; " + later + "; 2: 2.1 put k=2 sure"},
		{"asked twice, the second meets", true, "asked 1.1 put l=1; " + put + "; " + later + "; 2: 2.1 put k=2 sure"},
		{"the later one asked twice, the second is late", false, put + "; asked 2.1 put k=2; " + later + "; 2: 2.1 put k=2 sure"},
	})
}

func TestTold(t *testing.T) {
	mustHoldAsTold(t, "Told", impl.Told, []toldCase{
		{"nothing", true, ""},
		{"asked for, and not answered", true, "asked 1.1 put k=1; asked 2.1 get k"},
		{"asked for, known, and not answered", true, "asked 1.1 put k=1; 1: 1.1 put k=1; 2: 1.1 put k=1 sure"},
		{"answered", true, "asked 1.1 put k=1; 1: 1.1 put k=1 sure"},
		{"not asked for, and not answered", true, "2: 1.1 put k=1 sure; 1: 1.1 put k=1"},
		{"not asked for, and answered", false, "1: 1.1 put k=1 sure"},
		{"not asked for, and answered by the last", false, "asked 1.1 put k=1; 1: 1.1 put k=1 sure; 3: 3.1 get x sure"},
		{"another one was asked for", false, "asked 1.2 put k=1; asked 2.1 put k=1; 1: 1.1 put k=1 sure"},
		{"the second is not asked for", false, "asked 1.1 put k=1; 1: 1.1 put k=1 sure; 1: 1.2 put k=2 :1.1 sure"},
		{"the first is not asked for", false, "asked 1.2 put k=2; 1: 1.1 put k=1 sure; 1: 1.2 put k=2 :1.1 sure"},
		{"of each replica one", true, "asked 3.1 get k; asked 2.1 put k=2; asked 1.1 put k=1; 1: 1.1 put k=1 sure; 2: 2.1 put k=2 sure; 3: 3.1 get k sure"},
		{"asked for twice", true, "asked 1.1 put k=1; asked 1.1 put k=1; 1: 1.1 put k=1 sure"},
		{"asked for with another value", true, "asked 1.1 put k=7; 1: 1.1 put k=1 sure"},
		{"asked for of another key, nothing there", true, "asked 1.1 put l=1; 1: 1.1 put k=1 sure"},
		// The value is that of the key that was asked for.
		{"asked for of another key", false, "asked 1.1 put k=1; asked 1.2 get l; 1: 1.1 put k=1 sure; 1: 1.2 get k :1.1 sure"},
		{"asked for twice, the first counts", false, "asked 1.1 put k=1; asked 1.2 get l; asked 1.2 get k; 1: 1.1 put k=1 sure; 1: 1.2 get k :1.1 sure"},
		{"asked for twice, the second does not count", true, "asked 1.1 put k=1; asked 1.2 get k; asked 1.2 get l; 1: 1.1 put k=1 sure; 1: 1.2 get k :1.1 sure"},
	})
}

// A life that is answered in full: nothing there, a put, a put in its place, a get, a del, a get, a value that is empty.
const answeredLife = "asked 1.1 put k=1; asked 2.1 put k=2; asked 1.2 get k; asked 1.3 del k; asked 1.4 get k; asked 1.5 put k=; asked 1.6 get k; asked 1.7 get l; " +
	"1: 1.1 put k=1 sure; 1: 2.1 put k=2 :1.1 sure; 1: 1.2 get k :1.1,2.1 sure; 1: 1.3 del k :1.1,1.2,2.1 sure; 1: 1.4 get k :1.1,1.3,2.1 sure; 1: 1.5 put k= :1.1,1.2,1.3,1.4,2.1 sure; 1: 1.6 get k :1.1,1.3,1.5,2.1 sure; 1: 1.7 get l :1.6 sure"

// Clusters of which Said alone is other than it must be are not right: Told tells it all the same.
func TestToldOfWhatIsSaid(t *testing.T) {
	right := "1.1- 1.2=2 1.3=2 1.4- 1.5- 1.6= 1.7-"
	w := clusterOf(3, strings.Split(answeredLife, "; ")...)
	mustBeRightCluster(t, "life", w)
	if !impl.Told(w) || !same(w.Reps[0].Said, answers(right)) {
		t.Fatal(showCluster(w))
	}
	for said, holds := range map[string]bool{
		right: true, "": true,
		// In another order, or lacking one: each that is said is right, and said once.
		"1.7- 1.6= 1.5- 1.4- 1.3=2 1.2=2 1.1-": true, "1.2=2 1.3=2 1.4- 1.5- 1.6= 1.7-": true, "1.1- 1.2=2 1.3=2 1.4- 1.5- 1.6=": true, "1.4-": true, "1.6=": true,
		// Twice.
		right + " 1.7-": false, "1.1- " + right: false, "1.4- 1.4-": false, "1.1- 1.2=2 1.1-": false, right + " " + right: false,
		// With another value.
		"1.2=1": false, "1.2=": false, "1.2=22": false, "1.3=1": false, "1.6=2": false, "1.1- 1.2=2 1.3=2 1.4- 1.5- 1.6= 1.7=2": false,
		// Has turned.
		"1.2-": false, "1.1=": false, "1.4=": false, "1.6-": false, "1.1=1": false, "1.4=2": false, "1.5=": false,
		// Too many: what was not done, was not asked for, or is of another one.
		right + " 1.8-": false, right + " 1.8=": false, right + " 3.1-": false, right + " 2.2=": false, right + " 0.0-": false, "9.9-": false,
		// Another's, with the value that was there ahead of it here.
		right + " 2.1=1": true, right + " 2.1-": false, right + " 2.1=2": false,
	} {
		texts := append(strings.Split(answeredLife, "; "), "1 said "+said)
		x := clusterOf(3, texts...)
		if got := mustBeFound(t, said, x); got.told != holds || got.safe != map[bool]int{true: 0, false: 1}[said == right] {
			t.Errorf("%q: %+v", said, got)
		}
	}
	// A Val beside what was not there.
	x := clusterOf(3, strings.Split(answeredLife, "; ")...)
	x.Reps[0].Said[0].Val = "1"
	if got := mustBeFound(t, "Val", x); got.told || got.safe != 1 {
		t.Error(got)
	}
}

func TestToldAtTwo(t *testing.T) {
	both := "asked 1.1 put k=1; asked 2.1 get k; 1: 1.1 put k=1 sure; 2: 1.1 put k=1 sure; 2: 2.1 get k :1.1 sure"
	for what, c := range map[string]struct {
		texts string
		holds bool
	}{
		"each its own":                       {"", true},
		"the first's at both":                {"; 2 said 1.1- 2.1=1", false},
		"the first's at the second alone":    {"; 1 said ; 2 said 1.1-", true},
		"the second's at both":               {"; 1: 2.1 get k :1.1 sure; 1 said 1.1- 2.1=1", false},
		"the second's at the first alone":    {"; 1: 2.1 get k :1.1 sure; 1 said 1.1- 2.1=1; 2 said ", true},
		"the second's at the third, as well": {"; 3: 2.1 get k sure; 3 said 2.1-", false},
		// By what is done there, not elsewhere.
		"the second's at the third, by what is done there": {"; 2 said ; 3: 2.1 get k sure; 3 said 2.1-", true},
		"the second's at the third, as at the second":      {"; 2 said ; 3: 2.1 get k sure; 3 said 2.1=1", false},
		"not done there":                {"; 2 said ; 3 said 2.1=1", false},
		"not done there, nothing there": {"; 2 said ; 3 said 2.1-", false},
	} {
		w := clusterOf(3, strings.Split(both+c.texts, "; ")...)
		if got := mustBeFound(t, what, w); got.told != c.holds {
			t.Errorf("%s: %+v: %s", what, got, showCluster(w))
		}
	}
	// The order in which it was done tells the value.
	done := "asked 1.1 put k=1; asked 1.2 get k; asked 1.3 put k=3; 1: 1.1 put k=1 sure; 1: 1.2 get k sure; 1: 1.3 put k=3 sure; 1 done "
	for order, said := range map[string]string{
		"1.1 1.2 1.3": "1.1- 1.2=1 1.3=1", "1.2 1.1 1.3": "1.2- 1.1- 1.3=1", "1.1 1.3 1.2": "1.1- 1.3=1 1.2=3", "1.3 1.1 1.2": "1.3- 1.1=3 1.2=1", "1.2 1.3 1.1": "1.2- 1.3- 1.1=3", "1.3 1.2 1.1": "1.3- 1.2=3 1.1=3",
	} {
		w := clusterOf(3, strings.Split(done+order, "; ")...)
		mustBeRightCluster(t, order, w)
		if !same(w.Reps[0].Said, answers(said)) || !mustBeFound(t, order, w).told {
			t.Error(order, showCluster(w))
		}
		w.Reps[0].Done = dots("1.1 1.2 1.3")
		if got := mustBeFound(t, order, w); got.told != (order == "1.1 1.2 1.3") {
			t.Error(order, "turned", got)
		}
	}
}

// faults are what does not hold, one by one, none of which touches another.
func faults() []func(w *impl.Cluster) {
	return []func(w *impl.Cluster){
		func(w *impl.Cluster) { w.Net = append(w.Net, impl.Msg{}) },
		func(w *impl.Cluster) {
			w.Reps[2].Recs[slices.IndexFunc(w.Reps[2].Recs, isDot("3.1"))].Deps = dots("1.1 2.1")
		},
		func(w *impl.Cluster) { w.Reps[1] = redone(w.Reps[1], "2.2 2.1 1.1") },
		func(w *impl.Cluster) { w.Asked[0].Before = dots("2.2") },
		func(w *impl.Cluster) { w.Asked = slices.Delete(w.Asked, 1, 2) },
	}
}

func isDot(text string) func(x impl.Rec) bool {
	return func(x impl.Rec) bool { return x.D == dot(text) }
}

// For each number a cluster of which that is the first that does not hold, with each choice of later ones beside it.
func TestSafeNumbers(t *testing.T) {
	texts := strings.Split("1: 1.1 put k=1 sure; 1: 2.1 put k=2 :1.1 sure; 2: 1.1 put k=1 sure; 2: 2.1 put k=2 :1.1 sure; 2: 2.2 put k=3 :1.1,2.1 sure; 3: 1.1 put k=1 sure; 3: 3.1 get k :1.1,2.1,2.2 sure; "+
		"asked 1.1 put k=1; asked 2.1 put k=2 <1.1; asked 2.2 put k=3 <1.1,2.1; asked 3.1 get k <1.1,2.1", "; ")
	for choice := range 32 {
		w := clusterOf(3, texts...)
		want := finding{true, true, true, true, 0}
		flags := []*bool{new(bool), &want.ordered, &want.agreed, &want.timely, &want.told}
		for i := 4; i >= 0; i-- {
			if choice>>i&1 == 1 {
				faults()[i](&w)
				*flags[i], want.safe = false, i+1
			}
		}
		if impl.ClusterOk(w) != (choice&1 == 0) {
			t.Fatal(choice, showCluster(w))
		}
		if got := mustBeFound(t, fmt.Sprint(choice), w); got != want {
			t.Errorf("%d: %+v, not %+v: %s", choice, got, want, showCluster(w))
		}
	}
}

func TestSafeOfNewClusters(t *testing.T) {
	for n := 1; n <= 7; n++ {
		mustBeSafe(t, "new", impl.ClusterNew(n))
	}
	for _, n := range []int{-1, 0, 8} {
		if got := mustBeFound(t, "none", impl.ClusterNew(n)); got != (finding{true, true, true, true, 1}) {
			t.Error(n, got)
		}
	}
}
