package tests

import (
	"cmp"
	"fmt"
	"slices"
	"strings"
	"testing"

	"loop.example/g00184/impl"
)

// An op is one call that answers a store, and what is handed in beside it.
type op struct {
	call  string
	p     impl.Pair
	tower int
	level int
}

func (o op) String() string {
	switch o.call {
	case "Write":
		return fmt.Sprintf("Write(%q, %q, %v, %d)", o.p.Key, o.p.Val, o.p.Gone, o.tower)
	case "Press":
		return fmt.Sprint("Press ", o.level)
	}
	return o.call
}

func perform(s impl.Store, o op) (impl.Store, int) {
	switch o.call {
	case "Write":
		return impl.Write(s, o.p, o.tower)
	case "Make":
		return impl.Make(s)
	case "Flush":
		return impl.Flush(s)
	case "Press":
		return impl.Press(s, o.level)
	case "Settle":
		return impl.Settle(s)
	}
	return impl.Open(s.D)
}

// parseOps reads ops parted by blanks: a=1 writes, a- writes that it is Gone
// (a tower may stand behind: a=1/3), and the others by their names, as press2.
func parseOps(script string) []op {
	var out []op
	for _, w := range strings.Fields(script) {
		level, isPress := strings.CutPrefix(w, "press")
		switch {
		case isPress:
			out = append(out, op{call: "Press", level: numberOf(level)})
		case w == "make" || w == "flush" || w == "settle" || w == "open":
			out = append(out, op{call: strings.ToUpper(w[:1]) + w[1:]})
		default:
			word, tower, told := strings.Cut(w, "/")
			o := op{call: "Write", p: pairs(word)[0], tower: 1}
			if told {
				o.tower = numberOf(tower)
			}
			out = append(out, o)
		}
	}
	return out
}

// A plainStore does what the chapter says, a call of the disk at a time, and
// keeps the disk behind each of them.
type plainStore struct {
	s    impl.Store
	way  []impl.Disk
	code int
}

func (p *plainStore) take(s step) {
	if p.code != impl.StoreGood {
		return
	}
	d, code := take(p.s.D, s)
	if code != impl.DiskGood {
		p.code = impl.StoreFull
		return
	}
	p.s.D = d
	p.way = append(p.way, d)
}

func (p *plainStore) refuse(code int) {
	if p.code == impl.StoreGood {
		p.code = code
	}
}

// anew makes a file of these bytes under another name, and puts it in its place.
func (p *plainStore) anew(temp string, data string, name string) {
	if slices.Contains(impl.List(p.s.D), temp) {
		p.take(step{call: "Remove", name: temp})
	}
	p.take(step{call: "Create", name: temp})
	p.take(step{call: "Append", name: temp, data: []byte(data)})
	p.take(step{call: "Sync", name: temp})
	p.take(step{call: "Rename", name: temp, to: name})
	p.take(step{call: "SyncDir"})
}

func (p *plainStore) install(m impl.Manifest) {
	if !slowManOk(m) {
		p.refuse(impl.StoreFull)
	}
	p.anew("new", slowManText(m), "cur")
	p.s.Man = m
}

func slowLogName(m impl.Manifest) string { return fmt.Sprintf("log-%d", m.Log) }

func slowTableName(no int) string { return fmt.Sprintf("tab-%d", no) }

// slowRecord is what the log has of a pair.
func slowRecord(p impl.Pair, tower int) string {
	gone := "\x00"
	if p.Gone {
		gone = "\x01"
	}
	return text(p.Key) + gone + text(p.Val) + string([]byte{byte(tower)})
}

// slowPut is where a pair stands among nodes, and false when there is no room.
func slowPut(nodes []impl.Node, p impl.Pair, tower int) ([]impl.Node, bool) {
	if len(nodes) >= 60 {
		return nil, false
	}
	out := slices.Clone(nodes)
	for i, n := range out {
		if n.P.Key == p.Key {
			out[i].P = p
			return out, true
		}
	}
	out = append(out, impl.Node{P: p, Tower: tower})
	slices.SortFunc(out, func(a impl.Node, b impl.Node) int { return cmp.Compare(a.P.Key, b.P.Key) })
	return out, true
}

func slowPairOk(p impl.Pair) bool {
	return len(p.Key) >= 1 && len(p.Key) <= 20 && len(p.Val) <= 20 && (!p.Gone || p.Val == "")
}

func (p *plainStore) write(o op) {
	if !slowPairOk(o.p) || o.tower < 1 || o.tower > 4 {
		p.refuse(impl.StoreForm)
	}
	p.take(step{call: "Append", name: slowLogName(p.s.Man), data: []byte(slowFrame(slowRecord(o.p, o.tower)))})
	nodes, ok := slowPut(p.s.M.Nodes, o.p, o.tower)
	if !ok {
		p.refuse(impl.StoreFull)
	}
	p.s.M = impl.Mem{Nodes: nodes}
}

func (p *plainStore) make() {
	p.take(step{call: "Sync", name: slowLogName(p.s.Man)})
	p.take(step{call: "SyncDir"})
}

func (p *plainStore) addTable(m *impl.Manifest, level int, l []impl.Pair) {
	name := slowTableName(m.Next)
	p.take(step{call: "Create", name: name})
	p.take(step{call: "Append", name: name, data: slowBuilt(l, 4).bytes()})
	p.take(step{call: "Sync", name: name})
	m.Tables = append(slices.Clone(m.Tables), impl.Meta{No: m.Next, Level: level, Lo: l[0].Key, Hi: l[len(l)-1].Key})
	m.Next++
}

func nodePairs(nodes []impl.Node) []impl.Pair {
	var out []impl.Pair
	for _, n := range nodes {
		out = append(out, n.P)
	}
	return out
}

func (p *plainStore) flush() {
	if len(p.s.M.Nodes) == 0 {
		p.refuse(impl.StoreNone)
		return
	}
	m := p.s.Man
	old := slowLogName(m)
	p.addTable(&m, 0, nodePairs(p.s.M.Nodes))
	m.Log = m.Next
	m.Next++
	p.take(step{call: "Create", name: slowLogName(m)})
	p.install(m)
	p.take(step{call: "Remove", name: old})
	p.s.M = impl.Mem{}
}

// levelTables are those of a level, by their Nos.
func levelTables(m impl.Manifest, level int) []impl.Meta {
	return slices.DeleteFunc(slices.Clone(m.Tables), func(t impl.Meta) bool { return t.Level != level })
}

func slowTable(d impl.Disk, no int) []impl.Pair {
	b, _ := impl.Bytes(d, slowTableName(no))
	l, _ := impl.TablePairs(b)
	return l
}

func (p *plainStore) press(level int) {
	if level < 0 || level > 2 {
		p.refuse(impl.StoreForm)
		return
	}
	m := p.s.Man
	upper := levelTables(m, level)
	if len(upper) == 0 {
		p.refuse(impl.StoreNone)
		return
	}
	if level > 0 {
		upper = upper[:1]
	}
	slices.Reverse(upper)
	old := slices.Clone(upper)
	for _, low := range levelTables(m, level+1) {
		if touches(low, upper) {
			old = append(old, low)
		}
	}
	var lists [][]impl.Pair
	for _, t := range old {
		lists = append(lists, slowTable(p.s.D, t.No))
	}
	drop := !slices.ContainsFunc(m.Tables, func(t impl.Meta) bool { return t.Level >= level+2 })
	m.Tables = slices.DeleteFunc(slices.Clone(m.Tables), func(t impl.Meta) bool { return slices.Contains(old, t) })
	for all := slowMerge(lists, drop); len(all) > 0; all = all[min(6, len(all)):] {
		p.addTable(&m, level+1, all[:min(6, len(all))])
	}
	p.install(m)
	for _, t := range old {
		p.take(step{call: "Remove", name: slowTableName(t.No)})
	}
}

// touches: it has something of what lies between the first and the last key of these.
func touches(low impl.Meta, upper []impl.Meta) bool {
	lo, hi := upper[0].Lo, upper[0].Hi
	for _, t := range upper {
		if slowLess(t.Lo, lo) {
			lo = t.Lo
		}
		if slowLess(hi, t.Hi) {
			hi = t.Hi
		}
	}
	return slowCommon(low.Lo, low.Hi, lo, hi)
}

func (p *plainStore) settle() {
	for p.code == impl.StoreGood {
		due := slices.IndexFunc([]int{0, 1, 2}, func(level int) bool { return len(levelTables(p.s.Man, level)) >= 3 })
		switch {
		case len(p.s.M.Nodes) >= 8:
			p.flush()
		case due >= 0:
			p.press(due)
		default:
			return
		}
	}
}

func (p *plainStore) open() {
	b, there := impl.Bytes(p.s.D, "cur")
	m, ok := slowParse(string(b))
	log, logged := impl.Bytes(p.s.D, slowLogName(m))
	if !there || !ok || !logged || slices.ContainsFunc(m.Tables, func(x impl.Meta) bool { return !slowTableRight(p.s.D, x) }) {
		p.refuse(impl.StoreBad)
		return
	}
	bodies, end := slowRecords(log)
	if end < len(log) {
		p.anew("mend", string(log[:end]), slowLogName(m))
	}
	nodes, ok := slowNodes(bodies)
	if !ok {
		p.refuse(impl.StoreBad)
	}
	p.s.M, p.s.Man = impl.Mem{Nodes: nodes}, m
	for _, name := range impl.List(p.s.D) {
		isTable := slices.ContainsFunc(m.Tables, func(x impl.Meta) bool { return slowTableName(x.No) == name })
		if name != "cur" && name != slowLogName(m) && !isTable {
			p.take(step{call: "Remove", name: name})
		}
	}
	p.make()
}

func slowTableRight(d impl.Disk, x impl.Meta) bool {
	l := slowTable(d, x.No)
	return len(l) > 0 && l[0].Key == x.Lo && l[len(l)-1].Key == x.Hi
}

// slowNodes: what is a record is the record of some pair, told by trying to read it.
func slowNodes(bodies []string) ([]impl.Node, bool) {
	var nodes []impl.Node
	for _, body := range bodies {
		left := body
		key, ok := cutText(&left)
		if !ok || left == "" {
			return nil, false
		}
		gone := left[0] == 1
		left = left[1:]
		val, ok := cutText(&left)
		if !ok || len(left) != 1 {
			return nil, false
		}
		p, tower := impl.Pair{Key: key, Val: val, Gone: gone}, int(left[0])
		if !slowPairOk(p) || tower < 1 || tower > 4 || slowRecord(p, tower) != body {
			return nil, false
		}
		if nodes, ok = slowPut(nodes, p, tower); !ok {
			return nil, false
		}
	}
	return nodes, true
}

// plainly does an op on a right store (Open: on its disk) the plain way.
func plainly(s impl.Store, o op) (impl.Store, int, []impl.Disk) {
	p := &plainStore{s: s}
	was := s
	switch o.call {
	case "Write":
		p.write(o)
	case "Make":
		p.make()
	case "Flush":
		p.flush()
	case "Press":
		p.press(o.level)
	case "Settle":
		p.settle()
	default:
		p.s, was = impl.Store{D: s.D}, impl.Store{}
		p.open()
	}
	if p.code != impl.StoreGood {
		return was, p.code, p.way
	}
	return p.s, impl.StoreGood, p.way
}

// slowScan lays all that a store has in the order in which Read asks it.
func slowScan(s impl.Store) []impl.Pair {
	lists := [][]impl.Pair{nodePairs(s.M.Nodes)}
	for level := range 4 {
		tables := levelTables(s.Man, level)
		slices.Reverse(tables)
		for _, t := range tables {
			lists = append(lists, slowTable(s.D, t.No))
		}
	}
	return slowMerge(lists, true)
}

// mustHave asks for all that can be read of a store: just these pairs. Of many
// keys it reads some, others each time the store goes on.
func mustHave(t *testing.T, what string, s impl.Store, want []impl.Pair) {
	t.Helper()
	if !impl.StoreOk(s) {
		t.Fatalf("%s: not StoreOk: %v", what, s)
	}
	if got := impl.Scan(s); !slices.Equal(got, want) {
		t.Fatalf("%s: Scan: %v, not %v", what, got, want)
	}
	keys := []string{"", "a", "zz", "\xff", long, long + "x"}
	for _, n := range s.M.Nodes {
		keys = append(keys, n.P.Key)
	}
	for _, x := range s.Man.Tables {
		keys = append(keys, keysIn(slowTable(s.D, x.No))...)
	}
	slices.Sort(keys)
	keys = slices.Compact(keys)
	stride := 1 + len(keys)/25
	for i := s.D.Next % stride; i < len(keys); i += stride {
		key := keys[i]
		val, code := "", impl.StoreNone
		if at := slices.IndexFunc(want, func(p impl.Pair) bool { return p.Key == key }); at >= 0 {
			val, code = want[at].Val, impl.StoreGood
		}
		mustRead(t, what, s, key, val, code)
	}
}

func mustRead(t *testing.T, what string, s impl.Store, key string, val string, code int) {
	t.Helper()
	if v, c := impl.Read(s, key); v != val || c != code {
		t.Errorf("%s: Read of %q: %q %d, not %q %d", what, key, v, c, val, code)
	}
}

// mustDo does an op, asks that it is as the plain way has it, whether good or
// refused, and that it leaves the store that was handed in as it was.
func mustDo(t *testing.T, what string, s impl.Store, o op) (impl.Store, int) {
	t.Helper()
	before := wholeCopy(s)
	got, code := perform(s, o)
	want, wantCode, _ := plainly(s, o)
	if code != wantCode || !same(got, want) {
		t.Fatalf("%s: %v:\n %d %v, not\n %d %v", what, o, code, got, wantCode, want)
	}
	if !same(wholeCopy(s), before) {
		t.Fatalf("%s: %v wrote into its store", what, o)
	}
	if code == impl.StoreGood {
		mustHave(t, fmt.Sprint(what, ": ", o), got, slowScan(got))
	}
	return got, code
}

// mustDoAll does a script of ops that are all good; what it must have at last
// is told by pairs that are there, if it is told.
func mustDoAll(t *testing.T, s impl.Store, script string, want ...string) impl.Store {
	t.Helper()
	for i, o := range parseOps(script) {
		next, code := mustDo(t, fmt.Sprint(script, " [", i, "]"), s, o)
		if code != impl.StoreGood {
			t.Fatalf("%s: %v: %d", script, o, code)
		}
		s = next
	}
	for _, w := range want {
		mustHave(t, script, s, pairs(w))
	}
	return s
}

func storeOf(t *testing.T, script string, want ...string) impl.Store {
	t.Helper()
	return mustDoAll(t, impl.StoreNew(), script, want...)
}

func mustRefuseOp(t *testing.T, what string, s impl.Store, o op, code int) {
	t.Helper()
	before := wholeCopy(s)
	want := s
	if o.call == "Open" {
		want = impl.Store{}
	}
	got, c := perform(s, o)
	if c != code || !same(got, want) || !same(wholeCopy(s), before) {
		t.Errorf("%s: %v: %d, not %d and the store as it was", what, o, c, code)
	}
}

// tablesOf tells a manifest's tables as "2:0:a-b": No, level, first and last key.
func tablesOf(s impl.Store) string {
	var out []string
	for _, x := range s.Man.Tables {
		out = append(out, fmt.Sprintf("%d:%d:%s-%s", x.No, x.Level, x.Lo, x.Hi))
	}
	return strings.Join(out, " ")
}

func mustHaveTables(t *testing.T, what string, s impl.Store, want string) {
	t.Helper()
	if got := tablesOf(s); got != want {
		t.Errorf("%s: tables %q, not %q", what, got, want)
	}
}

// handStore is a store laid by hand: a line of pairs for each table of m, and nodes.
func handStore(t *testing.T, m impl.Manifest, lists [][]impl.Pair, nodes []impl.Node) impl.Store {
	t.Helper()
	p := &plainStore{s: impl.Store{D: impl.DiskNew(), M: impl.Mem{Nodes: nodes}}}
	p.take(step{call: "Create", name: slowLogName(m)})
	for _, n := range nodes {
		p.take(step{call: "Append", name: slowLogName(m), data: []byte(slowFrame(slowRecord(n.P, n.Tower)))})
	}
	for i, x := range m.Tables {
		p.take(step{call: "Create", name: slowTableName(x.No)})
		p.take(step{call: "Append", name: slowTableName(x.No), data: slowBuilt(lists[i], 4).bytes()})
		p.take(step{call: "Sync", name: slowTableName(x.No)})
	}
	p.install(m)
	if p.code != impl.StoreGood || !impl.StoreOk(p.s) {
		t.Fatal("no right store by hand", p.code, slowManText(m))
	}
	return p.s
}

// numbered are pairs with the keys from..to less one, as k007, each with its own value.
func numbered(from int, to int) []impl.Pair {
	var out []impl.Pair
	for i := from; i < to; i++ {
		out = append(out, impl.Pair{Key: fmt.Sprintf("k%03d", i), Val: fmt.Sprint(i)})
	}
	return out
}

// layered is a store by hand with a table for each list, at the level that is told of it.
func layered(t *testing.T, levels []int, lists ...[]impl.Pair) impl.Store {
	t.Helper()
	m := impl.Manifest{Next: len(lists) + 2, Log: len(lists) + 1}
	for i, l := range lists {
		m.Tables = append(m.Tables, impl.Meta{No: i + 1, Level: levels[i], Lo: l[0].Key, Hi: l[len(l)-1].Key})
	}
	return handStore(t, m, lists, nil)
}
