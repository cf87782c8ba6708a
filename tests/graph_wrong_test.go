package tests

import (
	"fmt"
	"math"
	"math/rand"
	"reflect"
	"slices"
	"testing"

	"loop.example/g00184/impl"
)

func wrongDots() []impl.Dot {
	return []impl.Dot{{}, {R: 0, N: 1}, {R: 8, N: 1}, {R: -1, N: 1}, {R: 9, N: 999}, {R: math.MinInt, N: 1}, {R: math.MaxInt, N: 1},
		{R: 1, N: 0}, {R: 7, N: 0}, {R: 1, N: 1000}, {R: 7, N: 1000}, {R: 3, N: -1}, {R: 3, N: math.MinInt}, {R: 3, N: math.MaxInt}, {R: 8, N: 1000}, {R: -1, N: -1}}
}

// wrongItems are not as told, each for one reason.
func wrongItems() map[string]impl.Item {
	out := map[string]impl.Item{
		"too many Deps":           {D: dot("7.999"), Deps: dotNos(numbersFrom(0, mostDeps+1)...)},
		"far too many Deps":       {D: dot("7.999"), Deps: dotNos(numbersFrom(0, 118)...)},
		"too many, and all alike": {D: dot("7.999"), Deps: slices.Repeat(dots("1.1"), 3000)},
	}
	for _, text := range []string{
		"4.4:4.4", "4.4:1.1,4.4", "4.4:4.4,5.5", "4.4:1.1,4.4,5.5",
		"4.4:1.2,1.1", "4.4:2.1,1.2", "4.4:1.1,1.3,1.2", "4.4:1.2,1.1,1.3", "4.4:7.1,1.1,2.1,3.1", "4.4:1.10,1.9",
		"4.4:1.1,1.1", "4.4:1.1,1.2,1.2", "4.4:1.1,1.1,1.2", "4.4:1.1,1.2,1.1",
	} {
		out[text] = item(text)
	}
	for _, d := range wrongDots() {
		out[fmt.Sprint("D ", d)] = impl.Item{D: d}
		out[fmt.Sprint("D with Deps ", d)] = impl.Item{D: d, Deps: dots("1.1 1.2")}
		out[fmt.Sprint("one Dep ", d)] = impl.Item{D: dot("4.4"), Deps: []impl.Dot{d}}
		// In its place by less, so that nothing else is wrong.
		deps := append(dots("1.1 3.3 6.6"), d)
		slices.SortFunc(deps, func(a impl.Dot, b impl.Dot) int {
			if slowDotLess(a, b) {
				return -1
			}
			return 1
		})
		out[fmt.Sprint("of several Deps ", d)] = impl.Item{D: dot("4.4"), Deps: deps}
	}
	return out
}

// withItem has it in its place by less, right or not.
func withItem(g impl.Graph, it impl.Item) impl.Graph {
	at := slices.IndexFunc(g.Items, func(x impl.Item) bool { return slowDotLess(it.D, x.D) })
	if at < 0 {
		at = len(g.Items)
	}
	return impl.Graph{Items: slices.Insert(slices.Clone(g.Items), at, it)}
}

// wrongGraphs are not as told, each for one reason.
func wrongGraphs() map[string]impl.Graph {
	out := map[string]impl.Graph{
		"one too many":            manyItems(mostItems+1, func(int) []int { return nil }),
		"one too many, in a ring": manyItems(mostItems+1, func(i int) []int { return []int{(i + 1) % (mostItems + 1)} }),
		"more than bits":          manyItems(130, func(i int) []int { return nil }),
		"far too many":            {Items: slices.Repeat(graph("1.1 1.2 1.3").Items, 1000)},
	}
	for _, text := range []string{
		"1.1 1.1", "1.1 1.1:1.2", "1.1:1.2 1.1 1.2", "1.1 1.2 1.2", "1.1 1.2 1.2 1.3", "1.1 1.2 1.1",
		"1.2 1.1", "2.1 1.1", "2.1 1.2", "1.10 1.9", "1.1 1.3 1.2", "1.2 1.1 1.3", "1.1 1.2 2.1 1.3 2.2", "7.1 1.1 2.1 3.1", "1.2:1.1 1.1:1.2",
	} {
		out[text] = graph(text)
	}
	for why, it := range wrongItems() {
		out["alone: "+why] = impl.Graph{Items: []impl.Item{it}}
		out["among others: "+why] = withItem(graph("1.1 1.2:1.1 5.5:1.2,6.6 6.6:5.5"), it)
		out["what others reach: "+why] = withItem(graph("1.1 1.2:4.4 5.5:1.2,6.6 6.6:5.5"), it)
	}
	return out
}

func TestWrongGraphs(t *testing.T) {
	for why, g := range wrongGraphs() {
		mustBeNoGraph(t, why, g)
	}
}

func TestGraphPutOfWrongItems(t *testing.T) {
	full := largeGraphs()["chain"]
	for why, it := range wrongItems() {
		for _, g := range []impl.Graph{{}, graph("1.1"), graph("1.1 1.2:1.1 5.5:1.2,6.6 6.6:5.5"), graph("4.4"), graph("7.999:1.1"), full} {
			mustNotPutItem(t, why, g, it)
		}
		for _, g := range wrongGraphs() {
			if len(g.Items) < 10 {
				mustNotPutItem(t, why, g, it)
			}
		}
	}
}

func TestGraphPutOfWhatIsThere(t *testing.T) {
	g := graph("1.1 1.2:1.1 5.5:1.2,6.6 6.6:5.5 7.7")
	for _, text := range []string{"1.1", "1.2:1.1", "1.2", "1.2:1.1,3.3", "5.5:1.2,6.6", "5.5", "6.6:5.5", "7.7", "7.7:1.1", "1.1:7.7"} {
		mustNotPutItem(t, text, g, item(text))
	}
	for _, it := range g.Items {
		mustNotPutItem(t, "alone", impl.Graph{Items: []impl.Item{it}}, it)
	}
}

// Right graphs of which one thing is changed now and then.
func TestBentGraphs(t *testing.T) {
	r := rand.New(rand.NewSource(83))
	odd := append(wrongDots(), dots("1.1 1.2 2.1 4.4 7.999")...)
	right := 0
	for range 6000 {
		g := someGraph(r, dotNos(numbersFrom(0, 1+r.Intn(9))...), 3)
		for i := range g.Items {
			it := &g.Items[i]
			switch r.Intn(12) {
			case 0:
				it.D = odd[r.Intn(len(odd))]
			case 1:
				it.Deps = append(it.Deps, odd[r.Intn(len(odd))])
			case 2:
				it.Deps = append(it.Deps, it.Deps...)
			}
		}
		if r.Intn(6) == 0 && len(g.Items) > 1 {
			i, j := r.Intn(len(g.Items)), r.Intn(len(g.Items))
			g.Items[i], g.Items[j] = g.Items[j], g.Items[i]
		}
		if slowGraphOk(g) {
			right++
		}
		mustBeAsTold(t, "bent", g)
	}
	if right < 1000 || right > 5000 {
		t.Error("right ones:", right)
	}
}

func graphsForMemory() map[string]impl.Graph {
	out := map[string]impl.Graph{
		"nothing": {}, "empty": {Items: []impl.Item{}}, "empty Deps": {Items: []impl.Item{{D: dot("1.1"), Deps: []impl.Dot{}}, {D: dot("1.2")}}},
		"chain": largeGraphs()["chain"], "ring": largeGraphs()["ring"], "all that come ahead": largeGraphs()["all that come ahead"],
	}
	for _, text := range []string{"1.1", "1.1 1.2:1.1", "1.1:1.2 1.2:1.1,3.3 2.1", "1.1:1.2 1.2:1.1 2.1:1.1,2.2 2.2", "1.1:6.6 2.2:1.1 4.4 6.6:7.7"} {
		out[text] = graph(text)
	}
	for why, g := range wrongGraphs() {
		if len(g.Items) < 10 {
			out[why] = g
		}
	}
	return out
}

func TestMemoryOfGraphs(t *testing.T) {
	items := []impl.Item{item("1.1"), item("1.9:1.1,7.7"), item("7.999"), item("4.4:4.4"), {D: dot("3.1"), Deps: []impl.Dot{}}}
	for why, g := range graphsForMemory() {
		checkMemory(t, why, []any{g}, func(args []any) []any {
			g := args[0].(impl.Graph)
			out := []any{impl.GraphOk(g), impl.Whole(g), impl.OrderOf(g)}
			for _, d := range dotsToAsk(g) {
				out = append(out, impl.Group(g, d))
			}
			return out
		})
		for _, it := range items {
			checkMemory(t, fmt.Sprint(why, " GraphPut of ", it), []any{g, it}, func(args []any) []any {
				next, _ := impl.GraphPut(args[0].(impl.Graph), args[1].(impl.Item))
				return []any{next}
			})
		}
	}
}

// Where lists of the arguments share memory, those of the answer share none.
func TestListsThatAreHandedInTwice(t *testing.T) {
	deps := dots("1.1 1.2")
	g := impl.Graph{Items: []impl.Item{{D: dot("2.1"), Deps: deps}, {D: dot("2.3"), Deps: deps}}}
	for _, it := range []impl.Item{{D: dot("2.2"), Deps: deps}, {D: dot("2.1"), Deps: deps}} {
		next, _ := impl.GraphPut(g, it)
		spans := append(spansOf(reflect.ValueOf(next), "answer"), spansOf(reflect.ValueOf(deps), "Deps")...)
		for i, a := range spans {
			for _, b := range spans[i+1:] {
				if a.from < b.to && b.from < a.to {
					t.Errorf("%v: %s shares memory with %s", it, a.name, b.name)
				}
			}
		}
	}
}

// What lies behind the length of a list is no item, and no Dep.
func TestItemsBehindTheLength(t *testing.T) {
	g := graph("1.1:1.2,5.5 1.2:1.1 1.3 0.0:1.1")
	g.Items[0].Deps = g.Items[0].Deps[:1]
	g.Items = g.Items[:2]
	mustBeOrdered(t, "two of four", g)
	if l := impl.OrderOf(g); !slices.Equal(l, dots("1.1 1.2")) {
		t.Error(l)
	}
	next := mustPutItem(t, "behind", g, item("1.3:1.1"))
	if l := g.Items[:4]; !same(l[2], item("1.3")) || !same(l[3], item("0.0:1.1")) || len(next.Items) != 3 {
		t.Error(l, next)
	}
	g.Items = g.Items[:0]
	mustBeOrdered(t, "none of four", g)
	it := item("4.4:1.1,1.1")
	it.Deps = it.Deps[:1]
	mustBeOrdered(t, "a Dep behind", mustPutItem(t, "a Dep behind", impl.Graph{}, it))
}

// Nothing is kept from one graph to another.
func TestGraphsOneBehindTheOther(t *testing.T) {
	graphs := largeGraphs()
	for why, g := range graphs {
		order, whole := impl.OrderOf(g), impl.Whole(g)
		for _, other := range graphs {
			impl.OrderOf(other)
			impl.Group(other, dotNo(0))
		}
		if !slices.Equal(impl.OrderOf(g), order) || !slices.Equal(impl.Whole(g), whole) {
			t.Error(why, "is another one the second time")
		}
	}
}
