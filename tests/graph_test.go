package tests

import (
	"fmt"
	"math"
	"math/rand"
	"slices"
	"testing"

	"loop.example/g00184/impl"
)

var (
	_ func(impl.Dot) bool                            = impl.DotOk
	_ func(impl.Dot, impl.Dot) bool                  = impl.DotLess
	_ func(impl.Graph) bool                          = impl.GraphOk
	_ func(impl.Graph, impl.Item) (impl.Graph, bool) = impl.GraphPut
	_ func(impl.Graph) []impl.Dot                    = impl.Whole
	_ func(impl.Graph, impl.Dot) []impl.Dot          = impl.Group
	_ func(impl.Graph) []impl.Dot                    = impl.OrderOf
	_                                                = impl.Graph{Items: []impl.Item{{D: impl.Dot{R: 1, N: 1}, Deps: []impl.Dot{{R: 1, N: 2}}}}}
)

const (
	mostItems = 100
	mostDeps  = 60
)

func TestDotOk(t *testing.T) {
	rs := map[int]bool{math.MinInt: false, -8: false, -1: false, 0: false, 1: true, 2: true, 3: true, 4: true, 5: true, 6: true, 7: true, 8: false, 9: false, 100: false, math.MaxInt: false}
	ns := map[int]bool{math.MinInt: false, -999: false, -1: false, 0: false, 1: true, 2: true, 500: true, 998: true, 999: true, 1000: false, 1001: false, math.MaxInt: false}
	for r, rightR := range rs {
		for n, rightN := range ns {
			if ok := impl.DotOk(impl.Dot{R: r, N: n}); ok != (rightR && rightN) {
				t.Error(r, n, ok)
			}
		}
	}
}

// Less is told of any two Dots, right or not.
func TestDotLess(t *testing.T) {
	ascending := []impl.Dot{{R: math.MinInt, N: math.MaxInt}, {R: -1, N: 5}, {R: 0, N: 0}, {R: 0, N: 1}, {R: 1, N: math.MinInt}, {R: 1, N: -1}, {R: 1, N: 0}, {R: 1, N: 1},
		{R: 1, N: 2}, {R: 1, N: 9}, {R: 1, N: 10}, {R: 1, N: 999}, {R: 1, N: 1000}, {R: 2, N: 1}, {R: 2, N: 2}, {R: 2, N: 999}, {R: 3, N: 1}, {R: 7, N: 1},
		{R: 7, N: 999}, {R: 8, N: 1}, {R: 10, N: 1}, {R: math.MaxInt, N: math.MinInt}, {R: math.MaxInt, N: math.MaxInt}}
	for i, a := range ascending {
		for j, b := range ascending {
			if impl.DotLess(a, b) != (i < j) {
				t.Error(a, b, impl.DotLess(a, b))
			}
		}
	}
}

func TestOrderByHand(t *testing.T) {
	for _, x := range []struct{ text, want string }{
		{"", ""},
		{"1.1", "1.1"},
		{"7.999", "7.999"},
		{"1.1 1.2", "1.1 | 1.2"},
		{"1.1 2.1", "1.1 | 2.1"},
		{"1.999 2.1", "1.999 | 2.1"},
		{"1.9 1.10", "1.9 | 1.10"},
		{"1.1 1.2:1.1", "1.1 | 1.2"},
		{"1.1:1.2 1.2", "1.2 | 1.1"},
		{"1.1:7.1 7.1", "7.1 | 1.1"},
		{"1.1 7.1:1.1", "1.1 | 7.1"},
		{"1.1:1.2 1.2:1.3 1.3:1.4 1.4", "1.4 | 1.3 | 1.2 | 1.1"},
		{"1.1 1.2:1.1 1.3:1.2 1.4:1.3", "1.1 | 1.2 | 1.3 | 1.4"},
		{"1.1:3.1 2.1:1.1 3.1:4.1 4.1", "4.1 | 3.1 | 1.1 | 2.1"},
		{"1.1:1.2,2.1,3.1 1.2 2.1 3.1", "1.2 | 2.1 | 3.1 | 1.1"},
		{"1.1:2.1,2.2 2.1:3.1 2.2:3.1 3.1", "3.1 | 2.1 | 2.2 | 1.1"},
		{"1.1:2.1,2.2 2.1:2.2,3.1 2.2:3.1 3.1", "3.1 | 2.2 | 2.1 | 1.1"},
		{"1.1:2.1,2.2 1.2:2.2,2.3 2.1 2.2 2.3", "2.1 | 2.2 | 1.1 | 2.3 | 1.2"},
	} {
		mustCome(t, x.text, x.want)
	}
}

func TestGroupsByHand(t *testing.T) {
	for _, x := range []struct{ text, want string }{
		{"1.1:1.2 1.2:1.1", "1.1 1.2"},
		{"1.5:7.1 7.1:1.5", "1.5 7.1"},
		{"1.1:2.1 2.1:3.1 3.1:1.1", "1.1 2.1 3.1"},
		{"1.1:3.1 2.1:1.1 3.1:2.1", "1.1 2.1 3.1"},
		{"1.1:1.2,1.3 1.2:1.1,1.3 1.3:1.1,1.2", "1.1 1.2 1.3"},
		{"1.1:2.2 1.2:3.1 2.1:1.1 2.2:1.2 3.1:2.1", "1.1 1.2 2.1 2.2 3.1"},
		// Two rings that share a command.
		{"1.1:1.2 1.2:1.1,1.3 1.3:1.2", "1.1 1.2 1.3"},
		{"1.1:1.2 1.2:1.3 1.3:1.1,2.1 2.1:2.2 2.2:1.3", "1.1 1.2 1.3 2.1 2.2"},
		// A ring that depends on another one, either way round.
		{"1.1:1.2,2.1 1.2:1.1 2.1:2.2 2.2:2.1", "2.1 2.2 | 1.1 1.2"},
		{"1.1:1.2 1.2:1.1 2.1:1.2,2.2 2.2:2.1", "1.1 1.2 | 2.1 2.2"},
		{"1.1:1.3 1.2:1.4 1.3:1.1,1.2 1.4:1.2", "1.2 1.4 | 1.1 1.3"},
		// Rings that do not touch.
		{"1.1:1.3 1.2:1.4 1.3:1.1 1.4:1.2", "1.1 1.3 | 1.2 1.4"},
		{"1.1:1.4 1.2:1.3 1.3:1.2 1.4:1.1", "1.1 1.4 | 1.2 1.3"},
		// What depends on a ring, and what it depends on.
		{"1.1:2.1 2.1:2.2,3.1 2.2:2.1 3.1", "3.1 | 2.1 2.2 | 1.1"},
		{"1.1 2.1:2.2 2.2:1.1,2.1 3.1:2.2", "1.1 | 2.1 2.2 | 3.1"},
		{"1.1:1.2,2.1 1.2:1.1,2.2 2.1 2.2 3.1:1.1 3.2:1.2,3.1", "2.1 | 2.2 | 1.1 1.2 | 3.1 | 3.2"},
		// One that depends on a ring and is what another ring depends on.
		{"1.1:1.2 1.2:1.1,2.1 2.1:3.1 3.1:3.2 3.2:3.1", "3.1 3.2 | 2.1 | 1.1 1.2"},
		// What is alone, beside a ring.
		{"1.1:1.3 1.2 1.3:1.1", "1.1 1.3 | 1.2"},
		{"1.1 1.2:1.3 1.3:1.2", "1.1 | 1.2 1.3"},
	} {
		mustCome(t, x.text, x.want)
	}
}

func TestWhatIsNotWhole(t *testing.T) {
	for _, x := range []struct{ text, want string }{
		{"1.1:1.2", ""},
		{"2.1:1.1", ""},
		{"2.1:7.999", ""},
		{"1.1:1.2,1.3 1.2", "1.2"},
		{"1.1:1.2,1.3 1.3", "1.3"},
		{"1.2:1.1,1.3 1.3", "1.3"},
		{"1.1:5.1 1.2", "1.2"},
		{"1.1 1.2:5.1", "1.1"},
		// Over several.
		{"1.1:2.1 2.1:3.1 3.1:4.1 5.1", "5.1"},
		{"1.1 1.2:1.1,1.3 1.3:1.1,1.4 1.4:1.1,1.5 1.6:1.1", "1.1 | 1.6"},
		{"1.1:1.2 1.2 1.3:1.2,7.7 1.4:1.1,1.3 1.5:1.1", "1.2 | 1.1 | 1.5"},
		// A ring of which one has a Dep that is not there, and what depends on it.
		{"1.1:1.2 1.2:1.1,6.1", ""},
		{"1.1:1.2 1.2:1.1,6.1 2.1", "2.1"},
		{"1.1:1.2 1.2:1.3 1.3:1.1,6.1 2.1:1.1 3.1:3.2 3.2:3.1", "3.1 3.2"},
		{"1.1:1.2,2.1 1.2:1.1,6.1 2.1:2.2 2.2:2.1", "2.1 2.2"},
		{"1.1:1.2,2.1 1.2:1.1 2.1:2.2 2.2:2.1,6.1", ""},
		{"1.1:1.2 1.2:1.1 2.1:1.1,6.1 2.2:1.1", "1.1 1.2 | 2.2"},
	} {
		mustCome(t, x.text, x.want)
	}
}

func TestWhichComesFirst(t *testing.T) {
	for _, x := range []struct{ text, want string }{
		{"1.1 1.2 2.1 7.1", "1.1 | 1.2 | 2.1 | 7.1"},
		{"1.1:2.1 1.2 2.1", "1.2 | 2.1 | 1.1"},
		// What becomes free by the one just taken comes ahead of what was free, if it is less.
		{"1.1:1.3 1.2:2.1 1.3 2.1", "1.3 | 1.1 | 2.1 | 1.2"},
		{"1.1 1.2 2.1:1.1", "1.1 | 1.2 | 2.1"},
		{"1.1:2.1 2.1:3.1 3.1 3.2", "3.1 | 2.1 | 1.1 | 3.2"},
		{"1.1:3.2 1.2 2.1:3.1 3.1 3.2", "1.2 | 3.1 | 2.1 | 3.2 | 1.1"},
		{"1.1:3.1 1.2:1.1 2.1 3.1", "2.1 | 3.1 | 1.1 | 1.2"},
		// A Group is as its least Dot, whatever else it has.
		{"1.1:7.1 1.2 7.1:1.1", "1.1 7.1 | 1.2"},
		{"1.5:3.1 2.1 3.1:1.5", "1.5 3.1 | 2.1"},
		{"1.1 1.5:3.1 2.1 3.1:1.5", "1.1 | 1.5 3.1 | 2.1"},
		{"1.1:3.3 2.1:2.9 2.2:2.3 2.3:2.2 2.9:2.1 3.3", "2.1 2.9 | 2.2 2.3 | 3.3 | 1.1"},
		{"2.1:2.2 2.2:2.1,7.1 3.1:3.2 3.2:3.1 7.1", "3.1 3.2 | 7.1 | 2.1 2.2"},
		{"1.1:4.1 1.2:4.1 3.1 4.1:4.2 4.2:4.1 5.1", "3.1 | 4.1 4.2 | 1.1 | 1.2 | 5.1"},
		// A ring is free when all of it is.
		{"1.1:1.2 1.2:1.1,2.2 2.1 2.2:2.3 2.3", "2.1 | 2.3 | 2.2 | 1.1 1.2"},
	} {
		mustCome(t, x.text, x.want)
	}
}

func TestGraphPutByHand(t *testing.T) {
	for _, x := range []struct{ text, put, want string }{
		{"", "1.1", "1.1"},
		{"", "7.999:1.1,7.998", "7.999:1.1,7.998"},
		{"1.2", "1.1:1.2", "1.1:1.2 1.2"},
		{"1.2", "1.3", "1.2 1.3"},
		{"2.1", "1.999", "1.999 2.1"},
		{"1.999", "2.1", "1.999 2.1"},
		{"1.2 1.4 1.6", "1.1", "1.1 1.2 1.4 1.6"},
		{"1.2 1.4 1.6", "1.3:1.6", "1.2 1.3:1.6 1.4 1.6"},
		{"1.2:1.4 1.4:1.2 1.6", "1.5:1.2,1.4,5.5", "1.2:1.4 1.4:1.2 1.5:1.2,1.4,5.5 1.6"},
		{"1.2 1.4 1.6", "1.7:1.1", "1.2 1.4 1.6 1.7:1.1"},
		{"1.1 2.1 3.1", "2.2", "1.1 2.1 2.2 3.1"},
		{"1.1 2.2 3.1", "2.1", "1.1 2.1 2.2 3.1"},
	} {
		if got := mustPutItem(t, x.text, graph(x.text), item(x.put)); !same(got, graph(x.want)) {
			t.Errorf("%q and %q: %v", x.text, x.put, got)
		}
	}
}

func TestGraphPutInAnyOrder(t *testing.T) {
	want := graph("1.1:2.1 1.2:1.1,3.3 2.1:1.1,7.7 2.2 3.3:1.2 7.7 7.999:1.1")
	r := rand.New(rand.NewSource(88))
	for range 200 {
		var g impl.Graph
		for _, i := range r.Perm(len(want.Items)) {
			g = mustPutItem(t, "any order", g, want.Items[i])
			mustBeOrdered(t, "any order", g)
		}
		if !same(g, want) {
			t.Fatal(g)
		}
		for _, it := range want.Items {
			mustNotPutItem(t, "there already", g, it)
		}
	}
}

// largeGraphs have as much as a graph takes, each in another shape.
func largeGraphs() map[string]impl.Graph {
	last := mostItems - 1
	return map[string]impl.Graph{
		"no Deps":      manyItems(mostItems, func(i int) []int { return nil }),
		"chain":        manyItems(mostItems, func(i int) []int { return numbersFrom(max(i-1, 0), i) }),
		"chain upward": manyItems(mostItems, func(i int) []int { return numbersFrom(i+1, min(i+2, mostItems)) }),
		"ring":         manyItems(mostItems, func(i int) []int { return []int{(i + 1) % mostItems} }),
		"ring back":    manyItems(mostItems, func(i int) []int { return []int{(i + last) % mostItems} }),
		"rings of two": manyItems(mostItems, func(i int) []int { return []int{last - i} }),
		"two rings":    manyItems(mostItems, func(i int) []int { return []int{(i + 2) % mostItems} }),
		"seven rings":  manyItems(98, func(i int) []int { return []int{(i + 7) % 98} }),
		"rings in the middle": manyItems(mostItems, func(i int) []int {
			if i == 63 || i == 64 {
				return []int{127 - i}
			}
			return nil
		}),
		"all that come ahead": manyItems(mostItems, func(i int) []int { return numbersFrom(max(0, i-mostDeps), i) }),
		"all that come later": manyItems(mostItems, func(i int) []int { return numbersFrom(i+1, min(mostItems, i+1+mostDeps)) }),
		"each of others": manyItems(mostDeps+1, func(i int) []int {
			return append(numbersFrom(0, i), numbersFrom(i+1, mostDeps+1)...)
		}),
		"not there, at the end": manyItems(mostItems, func(i int) []int {
			if i == last {
				return []int{mostItems}
			}
			return numbersFrom(max(0, i-1), i)
		}),
		"not there, at the beginning of a chain": manyItems(mostItems, func(i int) []int {
			if i == 0 {
				return []int{mostItems}
			}
			return []int{i - 1}
		}),
		"not there, in the middle of a ring": manyItems(mostItems, func(i int) []int {
			if i == 50 {
				return []int{51, 110}
			}
			return []int{(i + 1) % mostItems}
		}),
		"most Deps, none there": {Items: []impl.Item{{D: dotNo(0), Deps: dotNos(numbersFrom(1, mostDeps+1)...)}}},
		"most Deps, all there":  manyItems(mostDeps+1, func(i int) []int { return numbersFrom(1, 1+mostDeps*(1-min(i, 1))) }),
	}
}

func TestLargeGraphs(t *testing.T) {
	for why, g := range largeGraphs() {
		mustBeOrdered(t, why, g)
	}
	all := dotNos(numbersFrom(0, mostItems)...)
	reversed := slices.Clone(all)
	slices.Reverse(reversed)
	graphs := largeGraphs()
	for why, want := range map[string][]impl.Dot{
		"no Deps": all, "chain": all, "chain upward": reversed, "ring": all, "ring back": all, "all that come ahead": all, "all that come later": reversed,
		"not there, at the end": all[:mostItems-1], "not there, at the beginning of a chain": nil, "not there, in the middle of a ring": nil,
		"most Deps, none there": nil, "most Deps, all there": append(dotNos(numbersFrom(1, mostDeps+1)...), dotNo(0)),
	} {
		if l := impl.OrderOf(graphs[why]); !slices.Equal(l, want) {
			t.Errorf("%s: %v", why, l)
		}
	}
	for _, why := range []string{"ring", "ring back"} {
		for _, d := range all {
			if l := impl.Group(graphs[why], d); !slices.Equal(l, all) {
				t.Errorf("%s: Group of %v: %v", why, d, l)
			}
		}
	}
}

func TestMostItems(t *testing.T) {
	full := manyItems(mostItems, func(i int) []int { return numbersFrom(max(i-1, 0), i) })
	for _, i := range []int{0, 1, 50, 63, 64, 98, 99} {
		it := full.Items[i]
		less := impl.Graph{Items: append(slices.Clone(full.Items[:i]), full.Items[i+1:]...)}
		mustBeOrdered(t, "one less", less)
		if g := mustPutItem(t, "the last one", less, it); !same(g, full) {
			t.Error(i, g)
		}
		mustNotPutItem(t, "there already, and full", full, it)
	}
	for _, text := range []string{"1.2", "7.999", "3.2:1.1", "6.999:7.1"} {
		mustNotPutItem(t, "full", full, item(text))
	}
	mustNotPutItem(t, "full", full, impl.Item{D: dotNo(mostItems)})
	mustBeNoGraph(t, "one too many", manyItems(mostItems+1, func(int) []int { return nil }))
}

func TestMostDeps(t *testing.T) {
	deps := numbersFrom(1, mostDeps+2)
	for _, g := range []impl.Graph{{}, manyItems(1, func(int) []int { return nil }), graph("7.1 7.2:7.1")} {
		most := impl.Item{D: dot("6.999"), Deps: dotNos(deps[:mostDeps]...)}
		mustBeOrdered(t, "most Deps", mustPutItem(t, "most Deps", g, most))
		most.Deps = most.Deps[1:]
		mustBeOrdered(t, "one less", mustPutItem(t, "one less", g, most))
		mustNotPutItem(t, "one too many", g, impl.Item{D: dot("6.999"), Deps: dotNos(deps...)})
	}
	mustBeNoGraph(t, "one too many", impl.Graph{Items: []impl.Item{{D: dotNo(0), Deps: dotNos(deps...)}}})
	mustBeNoGraph(t, "one too many, all there", manyItems(mostDeps+2, func(i int) []int { return numbersFrom(1, 1+(mostDeps+1)*(1-min(i, 1))) }))
}

// chosen are the elements whose bits are there.
func chosen(list []impl.Dot, mask int) []impl.Dot {
	var out []impl.Dot
	for i, d := range list {
		if mask>>i&1 == 1 {
			out = append(out, d)
		}
	}
	return out
}

// All graphs of up to three items, with a Dot that is in none of them.
func TestAllGraphsOfThree(t *testing.T) {
	three, all := dots("1.2 2.1 2.2"), dots("1.2 2.1 2.2 3.1")
	for n := range 17 * 17 * 17 {
		var g impl.Graph
		for i, left := 0, n; i < len(three); i, left = i+1, left/17 {
			if mask := left % 17; mask < 16 {
				g.Items = append(g.Items, impl.Item{D: three[i], Deps: chosen(all, mask)})
			}
		}
		mustBeAsTold(t, fmt.Sprint("of three ", n), g)
	}
}

func TestAllGraphsOfFour(t *testing.T) {
	four := dots("1.1 1.3 2.1 3.2")
	for n := range 8 * 8 * 8 * 8 {
		var g impl.Graph
		for i, d := range four {
			others := slices.DeleteFunc(slices.Clone(four), func(o impl.Dot) bool { return o == d })
			g.Items = append(g.Items, impl.Item{D: d, Deps: chosen(others, n>>(3*i)&7)})
		}
		mustBeOrdered(t, fmt.Sprint("of four ", n), g)
	}
}

// someGraph is right: of these Dots now and then one, each with some Deps of them.
func someGraph(r *rand.Rand, names []impl.Dot, most int) impl.Graph {
	var g impl.Graph
	left := r.Intn(10)
	for _, d := range names {
		if r.Intn(10) < left || len(g.Items) == mostItems {
			continue
		}
		it := impl.Item{D: d}
		for range r.Intn(most + 1) {
			if dep := names[r.Intn(len(names))]; dep != d && !slices.Contains(it.Deps, dep) {
				it.Deps = append(it.Deps, dep)
			}
		}
		slices.SortFunc(it.Deps, func(a impl.Dot, b impl.Dot) int { return (a.R-b.R)*1000 + a.N - b.N })
		g.Items = append(g.Items, it)
	}
	return g
}

func TestSomeGraphs(t *testing.T) {
	r := rand.New(rand.NewSource(8))
	for range 3000 {
		names := dotNos(numbersFrom(0, 1+r.Intn(25))...)
		mustBeOrdered(t, "some", someGraph(r, names, 1+r.Intn(4)))
	}
	for range 40 {
		mustBeOrdered(t, "a large one", someGraph(r, dotNos(numbersFrom(0, 120)...), 1+r.Intn(3)))
	}
}

// reachedPart is what is reached from a Dot, and it itself.
func reachedPart(g impl.Graph, d impl.Dot) impl.Graph {
	reach := slowReach(g)[d]
	var out impl.Graph
	for _, it := range g.Items {
		if it.D == d || reach[it.D] {
			out.Items = append(out.Items, it)
		}
	}
	return out
}

// mustKeepTheOrder asks of each two whole ones of part of which one is among
// the other's Deps for the same order in both graphs.
func mustKeepTheOrder(t *testing.T, what string, g impl.Graph, part impl.Graph) {
	t.Helper()
	here, there := impl.OrderOf(g), impl.OrderOf(part)
	for _, d := range there {
		for _, dep := range depsOf(part, d) {
			if (slices.Index(here, d) < slices.Index(here, dep)) != (slices.Index(there, d) < slices.Index(there, dep)) {
				t.Errorf("%s: %v and %v in %v: %v; in %v: %v", what, d, dep, g, here, part, there)
			}
		}
	}
}

// In what is reached from a command alone, and in another graph that has that,
// the order of two of which one is among the other's Deps is the same.
func TestTheOrderIsTheSameInAnyOtherGraph(t *testing.T) {
	r := rand.New(rand.NewSource(81))
	for range 1500 {
		names := dotNos(numbersFrom(0, 2+r.Intn(14))...)
		g := someGraph(r, names, 3)
		for _, d := range impl.Whole(g) {
			part := reachedPart(g, d)
			if l := impl.Whole(part); len(l) != len(part.Items) {
				t.Fatalf("%v of %v: not whole by itself: %v", part, g, l)
			}
			mustKeepTheOrder(t, "what is reached", g, part)
			other := part
			for _, it := range someGraph(r, names, 4).Items {
				if next, ok := impl.GraphPut(other, it); ok {
					other = next
				}
			}
			mustKeepTheOrder(t, "another graph", other, part)
		}
	}
}

// As commands become known one by one, in any order, what was whole stays so,
// and two of which one is among the other's Deps stay as they were.
func TestTheOrderStaysAsAGraphGrows(t *testing.T) {
	r := rand.New(rand.NewSource(82))
	for range 300 {
		all := someGraph(r, dotNos(numbersFrom(0, 3+r.Intn(20))...), 3)
		var g impl.Graph
		for _, i := range r.Perm(len(all.Items)) {
			next := mustPutItem(t, "growing", g, all.Items[i])
			mustKeepTheOrder(t, "growing", next, g)
			for _, d := range impl.Whole(g) {
				if !slices.Equal(impl.Group(next, d), impl.Group(g, d)) {
					t.Errorf("Group of %v in %v: %v; in %v: %v", d, next, impl.Group(next, d), g, impl.Group(g, d))
				}
			}
			g = next
		}
	}
}

func FuzzGraph(f *testing.F) {
	f.Add([]byte{})
	f.Add([]byte{0, 1, 1, 0, 2, 1})
	f.Add([]byte{0, 1, 1, 2, 2, 13, 3, 3})
	f.Fuzz(func(t *testing.T, b []byte) {
		deps := map[int]map[int]bool{}
		for i := 1; i < len(b); i += 2 {
			d := int(b[i-1]) % 12
			if deps[d] == nil {
				deps[d] = map[int]bool{}
			}
			deps[d][int(b[i])%14] = true
		}
		var g impl.Graph
		for i := range 12 {
			if deps[i] == nil {
				continue
			}
			it := impl.Item{D: dotNo(i * 5)}
			for j := range 14 {
				if deps[i][j] {
					it.Deps = append(it.Deps, dotNo(j*5))
				}
			}
			g.Items = append(g.Items, it)
		}
		mustBeAsTold(t, "any", g)
	})
}
