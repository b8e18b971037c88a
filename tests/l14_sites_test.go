package tests

import (
	"fmt"
	"math"
	"math/rand"
	"runtime"
	"slices"
	"sort"
	"strings"
	"sync"
	"testing"
	"time"

	"loop.example/g00020/impl"
)

// Short names for operations.
func siPut(site int64, key, data string) impl.SiteOp {
	return impl.SiteOp{Kind: impl.SiPut, Site: site, Key: key, Data: data}
}
func siDrop(site int64, key string) impl.SiteOp {
	return impl.SiteOp{Kind: impl.SiDrop, Site: site, Key: key}
}
func siClock(site, num int64) impl.SiteOp {
	return impl.SiteOp{Kind: impl.SiClock, Site: site, Num: num}
}
func siSend(site, to, num int64) impl.SiteOp {
	return impl.SiteOp{Kind: impl.SiSend, Site: site, To: to, Num: num}
}
func siBack(site, to, num int64) impl.SiteOp {
	return impl.SiteOp{Kind: impl.SiBack, Site: site, To: to, Num: num}
}
func siGet(site int64, key string) impl.SiteOp {
	return impl.SiteOp{Kind: impl.SiGet, Site: site, Key: key}
}

// siAll is a send of as much as one may send.
func siAll(site, to int64) impl.SiteOp {
	return siSend(site, to, impl.MaxEvents)
}

// putAt and goneAt are entries as a put and a drop at a site make them.
func putAt(site, time int64, key, data string) impl.SiteEntry {
	return impl.SiteEntry{Key: key, Time: time, Site: site, Data: data}
}
func goneAt(site, time int64, key string) impl.SiteEntry {
	return impl.SiteEntry{Key: key, Time: time, Site: site, Gone: true}
}

// plainSite has its entries in no order, as the document says nothing of one up to the end.
type plainSite struct {
	entries []impl.SiteEntry
	events  []impl.SiteEntry
	clock   int64
	sent    [8]int64
}

func (s *plainSite) find(key string) int {
	for i, e := range s.entries {
		if e.Key == key {
			return i
		}
	}
	return -1
}

func (s *plainSite) become(e impl.SiteEntry) {
	if i := s.find(e.Key); i >= 0 {
		s.entries[i] = e
	} else {
		s.entries = append(s.entries, e)
	}
	s.events = append(s.events, e)
}

// plainWinner is the document's sentence.
func plainWinner(a, b impl.SiteEntry) impl.SiteEntry {
	if a.Time > b.Time {
		return a
	}
	if b.Time > a.Time {
		return b
	}
	if a.Site > b.Site {
		return a
	}
	if b.Site > a.Site {
		return b
	}
	return a
}

// plainSites is the document's sentences for all operations.
type plainSites struct {
	list []*plainSite
}

func newPlainSites(count int64) *plainSites {
	p := &plainSites{}
	for range count {
		p.list = append(p.list, &plainSite{})
	}
	return p
}

func (p *plainSites) isNone(site int64) bool {
	return site < 0 || site > int64(len(p.list))-1
}

func siCode(code int64) impl.SiteOut {
	return impl.SiteOut{Code: code}
}

func (p *plainSites) put(op impl.SiteOp) impl.SiteOut {
	s := p.list[op.Site]
	if op.Key == "" || len(op.Key) > 200 {
		return siCode(impl.ErrForm)
	}
	e := impl.SiteEntry{Key: op.Key, Time: s.clock, Site: op.Site, Gone: true}
	if op.Kind == 1 {
		e.Gone, e.Data = false, op.Data
	}
	if len(e.Data) > 100000 {
		return siCode(impl.ErrSize)
	}
	if i := s.find(op.Key); i >= 0 && s.entries[i].Time >= e.Time {
		e.Time = s.entries[i].Time + 1
	}
	if len(s.events) == 1000 || e.Time > 4102444800 {
		return siCode(impl.ErrFull)
	}
	s.become(e)
	return impl.SiteOut{}
}

func (p *plainSites) clock(op impl.SiteOp) impl.SiteOut {
	s := p.list[op.Site]
	if op.Num < 0 || op.Num > 4102444800 || s.clock+op.Num > 4102444800 {
		return siCode(impl.ErrForm)
	}
	s.clock += op.Num
	return impl.SiteOut{}
}

func (p *plainSites) send(op impl.SiteOp) impl.SiteOut {
	if op.Num < 0 || op.Num > 1000 {
		return siCode(impl.ErrForm)
	}
	s, to := p.list[op.Site], p.list[op.To]
	var out impl.SiteOut
	for out.Moved < op.Num && s.sent[op.To] < int64(len(s.events)) && len(to.events) < 1000 {
		event := s.events[s.sent[op.To]]
		s.sent[op.To]++
		out.Moved++
		if i := to.find(event.Key); i < 0 || plainWinner(to.entries[i], event) != to.entries[i] {
			to.become(event)
			out.Taken++
		}
	}
	return out
}

func (p *plainSites) back(op impl.SiteOp) impl.SiteOut {
	sent := &p.list[op.Site].sent[op.To]
	if op.Num < 0 || op.Num > *sent {
		*sent = 0
	} else {
		*sent -= op.Num
	}
	return impl.SiteOut{}
}

func (p *plainSites) get(op impl.SiteOp) impl.SiteOut {
	s := p.list[op.Site]
	i := s.find(op.Key)
	if i < 0 || s.entries[i].Gone {
		return siCode(impl.ErrNone)
	}
	return impl.SiteOut{Data: s.entries[i].Data}
}

func (p *plainSites) do(op impl.SiteOp) impl.SiteOut {
	if op.Kind < 1 || op.Kind > 6 || p.isNone(op.Site) {
		return siCode(impl.ErrForm)
	}
	if (op.Kind == 4 || op.Kind == 5) && (p.isNone(op.To) || op.To == op.Site) {
		return siCode(impl.ErrForm)
	}
	return []func(impl.SiteOp) impl.SiteOut{nil, p.put, p.put, p.clock, p.send, p.back, p.get}[op.Kind](op)
}

func (p *plainSites) states() []impl.SiteState {
	var states []impl.SiteState
	for _, s := range p.list {
		entries := slices.Clone(s.entries)
		sort.Slice(entries, func(i, j int) bool { return entries[i].Key < entries[j].Key })
		states = append(states, impl.SiteState{Entries: entries, Events: slices.Clone(s.events)})
	}
	return states
}

// isSettled tells whether each site has sent each other one all that it has.
func (p *plainSites) isSettled() bool {
	for i, s := range p.list {
		for j := range p.list {
			if j != i && s.sent[j] < int64(len(s.events)) {
				return false
			}
		}
	}
	return true
}

// isRoomy tells whether no site is full.
func (p *plainSites) isRoomy() bool {
	return !slices.ContainsFunc(p.list, func(s *plainSite) bool { return len(s.events) >= 1000 })
}

func plainSitesRun(sites int64, ops []impl.SiteOp) (impl.SitesRun, *plainSites) {
	if sites < 1 || sites > 8 || len(ops) > 2000 {
		return impl.SitesRun{}, newPlainSites(0)
	}
	p := newPlainSites(sites)
	var run impl.SitesRun
	for _, op := range ops {
		run.Outs = append(run.Outs, p.do(op))
	}
	run.Sites = p.states()
	return run, p
}

func sameState(a, b impl.SiteState) bool {
	return slices.Equal(a.Entries, b.Entries) && slices.Equal(a.Events, b.Events)
}

func sameStates(a, b []impl.SiteState) bool {
	return slices.EqualFunc(a, b, sameState)
}

func sameSites(a, b impl.SitesRun) bool {
	return slices.Equal(a.Outs, b.Outs) && sameStates(a.Sites, b.Sites)
}

func isNoSites(r impl.SitesRun) bool {
	return len(r.Outs) == 0 && len(r.Sites) == 0
}

// shortly is a thing as a message tells it.
func shortly(thing any) string {
	return fmt.Sprintf("%.300v", fmt.Sprintf("%+v", thing))
}

// checkSites holds a run against the plain one, and to what the promise says of it.
func checkSites(t *testing.T, what string, sites int64, ops []impl.SiteOp) impl.SitesRun {
	t.Helper()
	got := impl.RunSites(sites, ops)
	want, plain := plainSitesRun(sites, ops)
	if len(got.Outs) != len(ops) || len(got.Sites) != int(sites) {
		t.Fatalf("%s: %d outs and %d sites, not %d and %d", what, len(got.Outs), len(got.Sites), len(ops), sites)
	}
	for i, op := range ops {
		if got.Outs[i] != want.Outs[i] {
			t.Fatalf("%s: operation %d, %s:\n%s, not\n%s", what, i, shortly(op), shortly(got.Outs[i]), shortly(want.Outs[i]))
		}
	}
	for i := range got.Sites {
		if !sameState(got.Sites[i], want.Sites[i]) {
			t.Fatalf("%s: site %d has\n%s, not\n%s", what, i, shortly(got.Sites[i]), shortly(want.Sites[i]))
		}
		checkState(t, what, got.Sites[i])
	}
	if plain.isSettled() && plain.isRoomy() {
		checkAgreed(t, what, got.Sites)
	}
	checkQuietSites(t, what, sites, ops, got)
	return got
}

// checkState holds a site to what is so at each, whatever came to it: one entry of a key, by rising keys, each the
// winner of the key's events there, and the events of a key by rising winners.
func checkState(t *testing.T, what string, s impl.SiteState) {
	t.Helper()
	for i, e := range s.Entries {
		if i > 0 && s.Entries[i-1].Key >= e.Key {
			t.Fatalf("%s: %q stands behind %q", what, e.Key, s.Entries[i-1].Key)
		}
	}
	last := map[string]impl.SiteEntry{}
	for _, e := range s.Events {
		if had, there := last[e.Key]; there && (had == e || plainWinner(had, e) != e) {
			t.Fatalf("%s: %s came behind %s", what, shortly(e), shortly(had))
		}
		last[e.Key] = e
	}
	for _, e := range s.Entries {
		if last[e.Key] != e {
			t.Fatalf("%s: %s is not what came last, %s", what, shortly(e), shortly(last[e.Key]))
		}
	}
	if len(last) != len(s.Entries) {
		t.Fatalf("%s: %d entries of %d keys", what, len(s.Entries), len(last))
	}
}

// winners are those of all that was put at any site, as the sites themselves tell it, by rising keys.
func winners(states []impl.SiteState) []impl.SiteEntry {
	best := map[string]impl.SiteEntry{}
	for i, s := range states {
		for _, e := range s.Events {
			if e.Site != int64(i) {
				continue
			}
			if had, there := best[e.Key]; there {
				e = plainWinner(e, had)
			}
			best[e.Key] = e
		}
	}
	var list []impl.SiteEntry
	for _, e := range best {
		list = append(list, e)
	}
	sort.Slice(list, func(i, j int) bool { return list[i].Key < list[j].Key })
	return list
}

// checkAgreed is the promise.
func checkAgreed(t *testing.T, what string, states []impl.SiteState) {
	t.Helper()
	want := winners(states)
	for i, s := range states {
		if !slices.Equal(s.Entries, want) {
			t.Fatalf("%s: site %d has\n%s, but the winners are\n%s", what, i, shortly(s.Entries), shortly(want))
		}
	}
}

// checkQuietSites leaves out all operations that had a code: what the others answer, and the sites, is the same without
// them.
func checkQuietSites(t *testing.T, what string, sites int64, ops []impl.SiteOp, got impl.SitesRun) {
	t.Helper()
	var rest []impl.SiteOp
	want := impl.SitesRun{Sites: got.Sites}
	for i, out := range got.Outs {
		if out.Code == impl.OK {
			rest = append(rest, ops[i])
			want.Outs = append(want.Outs, out)
		} else if out != siCode(out.Code) {
			t.Fatalf("%s: operation %d: with a code more is told: %s", what, i, shortly(out))
		}
	}
	if len(rest) < len(ops) && !sameSites(impl.RunSites(sites, rest), want) {
		t.Fatalf("%s: an operation with a code changed something", what)
	}
}

// checkSitesBehindEach looks at the sites behind each operation.
func checkSitesBehindEach(t *testing.T, what string, sites int64, ops []impl.SiteOp) impl.SitesRun {
	t.Helper()
	got := checkSites(t, what, sites, ops)
	plain := newPlainSites(sites)
	for i, op := range ops {
		plain.do(op)
		step := impl.RunSites(sites, ops[:i+1])
		if !slices.Equal(step.Outs, got.Outs[:i+1]) || !sameStates(step.Sites, plain.states()) {
			t.Fatalf("%s: behind operation %d, %s, the sites are others", what, i, shortly(op))
		}
	}
	return got
}

// siStep is an operation with what it is to answer.
type siStep struct {
	op  impl.SiteOp
	out impl.SiteOut
}

// checkSteps is checkSites with the answer of each operation.
func checkSteps(t *testing.T, what string, sites int64, steps []siStep) impl.SitesRun {
	t.Helper()
	var ops []impl.SiteOp
	for _, step := range steps {
		ops = append(ops, step.op)
	}
	run := checkSites(t, what, sites, ops)
	for i, step := range steps {
		if run.Outs[i] != step.out {
			t.Errorf("%s: operation %d, %s: %s, not %s", what, i, shortly(step.op), shortly(run.Outs[i]), shortly(step.out))
		}
	}
	return run
}

// done, told and went are what an operation answers that has no code.
func done() impl.SiteOut            { return impl.SiteOut{} }
func told(data string) impl.SiteOut { return impl.SiteOut{Data: data} }
func went(moved, taken int64) impl.SiteOut {
	return impl.SiteOut{Moved: moved, Taken: taken}
}

// siProbes are operations that tell all that sites have: each clock, by a new key, and how much each was sent, one by
// one.
func siProbes(sites int64) []impl.SiteOp {
	var ops []impl.SiteOp
	for i := range sites {
		ops = append(ops, siPut(i, "a new one", "x"))
		for j := range sites {
			if j != i {
				ops = append(ops, siAll(i, j))
			}
		}
	}
	return ops
}

// checkRefusedAtSites does one operation more than a run: it answers a code, and the sites are as they were.
func checkRefusedAtSites(t *testing.T, what string, sites int64, ops []impl.SiteOp, op impl.SiteOp, code int64) {
	t.Helper()
	ahead := impl.RunSites(sites, ops)
	got := checkSites(t, what, sites, append(slices.Clone(ops), op))
	if out := got.Outs[len(ops)]; out != siCode(code) {
		t.Errorf("%s: %s: %s, not code %d", what, shortly(op), shortly(out), code)
	}
	if !sameStates(got.Sites, ahead.Sites) {
		t.Errorf("%s: %s: the sites are others", what, shortly(op))
	}
	tell := siProbes(sites)
	was := impl.RunSites(sites, append(slices.Clone(ops), tell...))
	now := impl.RunSites(sites, append(append(slices.Clone(ops), op), tell...))
	if len(was.Outs) == 0 || !slices.Equal(was.Outs[len(ops):], now.Outs[len(ops)+1:]) || !sameStates(was.Sites, now.Sites) {
		t.Errorf("%s: %s: the sites have become others", what, shortly(op))
	}
}

// settle are sends behind which each site has sent each other one all that it has, and gets of each key everywhere.
func settle(sites int64, ops []impl.SiteOp) []impl.SiteOp {
	_, plain := plainSitesRun(sites, ops)
	ops = slices.Clone(ops)
	for plain.isRoomy() && !plain.isSettled() {
		for i := range sites {
			for j := range sites {
				if j != i {
					ops = append(ops, siAll(i, j))
					plain.do(siAll(i, j))
				}
			}
		}
	}
	return ops
}

// siteKeys are few, so that sites often put the same one.
var siteKeys = []string{"a", "b", "c", "a\x00", "\x00", "\xff", "ab", times("k", impl.MaxKey)}

// siteRuns draws operations.
type siteRuns struct {
	chance *rand.Rand
}

func newSiteRuns(seed int64) siteRuns {
	return siteRuns{rand.New(rand.NewSource(seed))}
}

func (x siteRuns) key() string {
	return siteKeys[x.chance.Intn(len(siteKeys))]
}

func (x siteRuns) data() string {
	return []string{"", "x", "y", "\x00", "\xff\xfe", fmt.Sprint(x.chance.Intn(1000))}[x.chance.Intn(6)]
}

// num is mostly small, so that events are sent in pieces.
func (x siteRuns) num() int64 {
	return []int64{0, 1, 1, 1, 2, 2, 3, 5, 10, impl.MaxEvents}[x.chance.Intn(10)]
}

// pair is two sites, at times one that there is not.
func (x siteRuns) pair(sites int64) (int64, int64) {
	site := x.chance.Int63n(sites)
	to := x.chance.Int63n(sites)
	if to == site && x.chance.Intn(10) > 0 {
		to = (to + 1) % sites
	}
	if x.chance.Intn(60) == 0 {
		return []int64{-1, sites, math.MaxInt64, math.MinInt64}[x.chance.Intn(4)], to
	}
	if x.chance.Intn(60) == 0 {
		return site, []int64{-1, sites, math.MaxInt64, math.MinInt64}[x.chance.Intn(4)]
	}
	return site, to
}

// wrong is one that has a fault in itself.
func (x siteRuns) wrong(site, to int64) impl.SiteOp {
	list := []impl.SiteOp{
		{Site: site, To: to, Key: "a"}, {Kind: 7, Site: site, To: to, Key: "a"}, {Kind: -1, Site: site, Key: "a"}, {Kind: 1<<32 + 1, Site: site, Key: "a"}, {Kind: math.MinInt64 + 1, Site: site, Key: "a"},
		siPut(site, "", "x"), siPut(site, times("k", impl.MaxKey+1), "x"), siPut(site, "a", times("x", impl.MaxBytes+1)), siDrop(site, ""), siDrop(site, times("k", impl.MaxKey+1)),
		siClock(site, -1), siClock(site, impl.MaxTime+1), siClock(site, math.MaxInt64), siClock(site, math.MinInt64),
		siSend(site, to, -1), siSend(site, to, impl.MaxEvents+1), siSend(site, to, math.MinInt64), siSend(site, to, math.MaxInt64),
		siGet(site, ""), siGet(site, "nowhere"), siGet(site, times("k", impl.MaxKey+1)),
	}
	return list[x.chance.Intn(len(list))]
}

func (x siteRuns) op(sites int64) impl.SiteOp {
	site, to := x.pair(sites)
	switch kind := x.chance.Intn(40); {
	case kind < 11:
		return siPut(site, x.key(), x.data())
	case kind < 14:
		return siDrop(site, x.key())
	case kind < 18:
		return siClock(site, x.chance.Int63n(6))
	case kind < 29:
		return siSend(site, to, x.num())
	case kind < 32:
		return siBack(site, to, x.num()-1)
	case kind < 38:
		return siGet(site, x.key())
	}
	return x.wrong(site, to)
}

func (x siteRuns) ops(count int, sites int64) []impl.SiteOp {
	var ops []impl.SiteOp
	for range count {
		ops = append(ops, x.op(sites))
	}
	return ops
}

// puts are operations that only put, drop and move clocks.
func (x siteRuns) puts(count int, sites int64) []impl.SiteOp {
	var ops []impl.SiteOp
	for range count {
		site := x.chance.Int63n(sites)
		ops = append(ops, []impl.SiteOp{siPut(site, x.key(), x.data()), siPut(site, x.key(), x.data()), siDrop(site, x.key()), siClock(site, x.chance.Int63n(4))}[x.chance.Intn(4)])
	}
	return ops
}

// filled are puts that leave a site room for so many events.
func filled(site int64, room int) []impl.SiteOp {
	var ops []impl.SiteOp
	for i := range impl.MaxEvents - room {
		ops = append(ops, siPut(site, rowKey(i), "f"))
	}
	return ops
}

func TestP17LimitsAndKindsAsTheDocumentHasThem(t *testing.T) {
	got := []int{impl.MaxSites, impl.MaxEvents, impl.SiPut, impl.SiDrop, impl.SiClock, impl.SiSend, impl.SiBack, impl.SiGet}
	if !slices.Equal(got, []int{8, 1000, 1, 2, 3, 4, 5, 6}) {
		t.Error(got)
	}
}

// A run whose answers and sites are written out here.
func TestP17ARunAsKnown(t *testing.T) {
	run := checkSteps(t, "known", 3, []siStep{
		{siPut(0, "k", "a"), done()}, {siPut(0, "k", "b"), done()}, {siClock(1, 1), done()}, {siPut(1, "k", "c"), done()}, {siPut(1, "m", ""), done()}, {siClock(2, 9), done()}, {siDrop(2, "k"), done()},
		{siGet(0, "k"), told("b")}, {siGet(1, "k"), told("c")}, {siGet(2, "k"), siCode(impl.ErrNone)}, {siGet(0, "m"), siCode(impl.ErrNone)}, {siGet(1, "m"), told("")},
		{siSend(0, 1, 1), went(1, 0)}, {siSend(0, 1, 1), went(1, 0)}, {siSend(0, 1, 1), went(0, 0)}, {siSend(1, 0, 9), went(2, 2)}, {siGet(0, "k"), told("c")},
		{siBack(1, 0, 1), done()}, {siSend(1, 0, 9), went(1, 0)}, {siSend(0, 1, 9), went(2, 0)}, {siSend(2, 0, 9), went(1, 1)}, {siGet(0, "k"), siCode(impl.ErrNone)},
		{siPut(0, "k", "d"), done()}, {siSend(0, 1, 9), went(2, 2)}, {siSend(0, 2, 3), went(3, 0)}, {siSend(0, 2, 1), went(1, 1)}, {siSend(0, 2, 9), went(2, 1)}, {siGet(2, "k"), told("d")},
		{siSend(2, 1, 9), went(3, 0)}, {siSend(1, 2, 9), went(4, 0)}, {siSend(1, 0, 9), went(2, 0)}, {siSend(2, 0, 9), went(2, 0)},
	})
	entries := []impl.SiteEntry{putAt(0, 10, "k", "d"), putAt(1, 1, "m", "")}
	want := []impl.SiteState{
		{Entries: entries, Events: []impl.SiteEntry{putAt(0, 0, "k", "a"), putAt(0, 1, "k", "b"), putAt(1, 1, "k", "c"), putAt(1, 1, "m", ""), goneAt(2, 9, "k"), putAt(0, 10, "k", "d")}},
		{Entries: entries, Events: []impl.SiteEntry{putAt(1, 1, "k", "c"), putAt(1, 1, "m", ""), goneAt(2, 9, "k"), putAt(0, 10, "k", "d")}},
		{Entries: entries, Events: []impl.SiteEntry{goneAt(2, 9, "k"), putAt(1, 1, "m", ""), putAt(0, 10, "k", "d")}},
	}
	if !sameStates(run.Sites, want) {
		t.Errorf("%+v", run.Sites)
	}
}

// winnerEntries differ in all that an entry has.
func winnerEntries() []impl.SiteEntry {
	var list []impl.SiteEntry
	for _, time := range []int64{math.MinInt64, -1, 0, 1, impl.MaxTime, math.MaxInt64} {
		for _, site := range []int64{math.MinInt64, -1, 0, 1, 7, math.MaxInt64} {
			list = append(list, putAt(site, time, "k", fmt.Sprint(time, site)))
		}
	}
	return list
}

func TestP17TheWinnerIsTheLaterOne(t *testing.T) {
	for _, c := range []struct{ a, b, want impl.SiteEntry }{
		{putAt(1, 3, "k", "a"), putAt(0, 4, "k", "b"), putAt(0, 4, "k", "b")}, {putAt(0, 4, "k", "a"), putAt(1, 3, "k", "b"), putAt(0, 4, "k", "a")},
		{putAt(1, 3, "k", "a"), putAt(2, 3, "k", "b"), putAt(2, 3, "k", "b")}, {putAt(2, 3, "k", "a"), putAt(1, 3, "k", "b"), putAt(2, 3, "k", "a")},
		{putAt(1, 3, "k", "a"), putAt(1, 3, "k", "b"), putAt(1, 3, "k", "a")}, {putAt(1, 3, "k", "b"), putAt(1, 3, "k", "a"), putAt(1, 3, "k", "b")},
		{goneAt(1, 3, "k"), putAt(1, 3, "k", "b"), goneAt(1, 3, "k")}, {putAt(1, 3, "k", "b"), goneAt(1, 3, "k"), putAt(1, 3, "k", "b")},
		{goneAt(0, 3, "k"), putAt(1, 3, "k", "b"), putAt(1, 3, "k", "b")}, {goneAt(1, 3, "k"), putAt(0, 3, "k", "b"), goneAt(1, 3, "k")},
		{putAt(0, 0, "a", ""), putAt(0, 0, "b", ""), putAt(0, 0, "a", "")}, {putAt(0, 0, "b", ""), putAt(0, 0, "a", ""), putAt(0, 0, "b", "")},
		{putAt(0, 1, "a", ""), putAt(0, 2, "b", ""), putAt(0, 2, "b", "")}, {impl.SiteEntry{}, impl.SiteEntry{}, impl.SiteEntry{}}, {impl.SiteEntry{}, putAt(0, -1, "k", "x"), impl.SiteEntry{}},
		{putAt(0, math.MinInt64, "k", "a"), putAt(0, math.MaxInt64, "k", "b"), putAt(0, math.MaxInt64, "k", "b")}, {putAt(math.MaxInt64, 0, "k", "a"), putAt(math.MinInt64, 0, "k", "b"), putAt(math.MaxInt64, 0, "k", "a")},
		{putAt(0, 1, "", mixedBytes(impl.MaxBytes)), putAt(0, 0, times("k", impl.MaxBytes), ""), putAt(0, 1, "", mixedBytes(impl.MaxBytes))},
	} {
		if got := impl.Winner(c.a, c.b); got != c.want {
			t.Errorf("%s and %s: %s, not %s", shortly(c.a), shortly(c.b), shortly(got), shortly(c.want))
		}
	}
}

func TestP17TheWinnerHangsOnNoOrderAndNoGrouping(t *testing.T) {
	list := winnerEntries()
	for _, a := range list {
		for _, b := range list {
			one := impl.Winner(a, b)
			if one != impl.Winner(b, a) || one != plainWinner(a, b) {
				t.Fatalf("%v and %v: %v", a, b, one)
			}
			for _, c := range list {
				if impl.Winner(one, c) != impl.Winner(a, impl.Winner(b, c)) {
					t.Fatalf("%v, %v and %v: the grouping is seen", a, b, c)
				}
			}
		}
		same := a
		same.Data = "another"
		if impl.Winner(a, same) != a || impl.Winner(same, a) != same || impl.Winner(a, a) != a {
			t.Fatalf("%v: of equal ones another than the first", a)
		}
	}
}

// A text that is too long is refused by every call, here with the zero answer.
func TestP17TheWinnerOfATextThatIsTooLongIsNone(t *testing.T) {
	right := putAt(1, 5, "k", "x")
	for name, e := range map[string]impl.SiteEntry{
		"a Key that loses":  putAt(1, 4, times("k", impl.MaxBytes+1), ""),
		"a Key that wins":   putAt(1, 6, times("k", impl.MaxBytes+1), ""),
		"a Data that loses": putAt(1, 4, "k", times("x", impl.MaxBytes+1)),
		"a Data that wins":  putAt(1, 6, "k", times("x", impl.MaxBytes+1)),
	} {
		if one, two := impl.Winner(right, e), impl.Winner(e, right); one != (impl.SiteEntry{}) || two != (impl.SiteEntry{}) {
			t.Errorf("%s: %s, %s", name, shortly(one), shortly(two))
		}
	}
}

// met counts what was seen in drawn runs, so that none of it is left out by chance.
type met map[string]int

func (m met) count(sites int64, ops []impl.SiteOp, run impl.SitesRun) {
	for i, op := range ops {
		out := run.Outs[i]
		kind := min(max(op.Kind, 0), 7)
		m[fmt.Sprintf("kind %d code %d", kind, out.Code)]++
		if op.Kind != impl.SiSend || out.Code != impl.OK {
			continue
		}
		switch {
		case out.Moved == 0:
			m["nothing sent"]++
		case out.Taken == 0:
			m["nothing taken"]++
		case out.Taken < out.Moved:
			m["some taken"]++
		default:
			m["all taken"]++
		}
	}
}

func (m met) want(t *testing.T, least int, names ...string) {
	t.Helper()
	for _, name := range names {
		if m[name] < least {
			t.Errorf("%s: met %d times", name, m[name])
		}
	}
}

// Sites of any number, with events sent in pieces, late, and again.
func TestP17DrawnRunsAsThePlainWords(t *testing.T) {
	x := newSiteRuns(41)
	seen := met{}
	for i := range 1200 {
		sites := 1 + x.chance.Int63n(impl.MaxSites)
		ops := x.ops(x.chance.Intn(120), sites)
		run := checkSites(t, fmt.Sprint("drawn ", i), sites, ops)
		seen.count(sites, ops, run)
	}
	for i := range 60 {
		checkSitesBehindEach(t, fmt.Sprint("behind each ", i), 2+x.chance.Int63n(3), x.ops(40, 3))
	}
	seen.want(t, 20, "kind 0 code 1", "kind 7 code 1", "kind 1 code 0", "kind 1 code 1", "kind 1 code 2", "kind 2 code 0", "kind 2 code 1", "kind 3 code 0", "kind 3 code 1", "kind 4 code 0", "kind 4 code 1",
		"kind 5 code 0", "kind 5 code 1", "kind 6 code 0", "kind 6 code 1", "kind 6 code 5", "nothing sent", "nothing taken", "some taken", "all taken")
}

// Sites that are nearly full and clocks near their end.
func TestP17DrawnRunsAtTheEdges(t *testing.T) {
	x := newSiteRuns(43)
	seen := met{}
	for i := range 40 {
		ops := filled(0, x.chance.Intn(6))
		ops = append(ops, siClock(1, impl.MaxTime-x.chance.Int63n(8)), siClock(2, impl.MaxTime-x.chance.Int63n(8)), siSend(0, 1, impl.MaxEvents-x.chance.Int63n(20)))
		drawn := x.ops(400, 4)
		run := checkSites(t, fmt.Sprint("edges ", i), 4, append(ops, drawn...))
		seen.count(4, drawn, impl.SitesRun{Outs: run.Outs[len(ops):]})
	}
	seen.want(t, 20, "kind 1 code 7", "kind 2 code 7", "kind 3 code 1", "nothing sent", "nothing taken", "some taken", "all taken")
}

// The promise: what is put anywhere, sent in any way, is in the end the same everywhere.
func TestP17SitesThatHaveSentAllHaveTheSameEntries(t *testing.T) {
	x := newSiteRuns(47)
	differed := 0
	for i := range 400 {
		sites := 1 + x.chance.Int63n(impl.MaxSites)
		ops := x.ops(20+x.chance.Intn(200), sites)
		ahead := impl.RunSites(sites, ops)
		for _, s := range ahead.Sites {
			if !slices.Equal(s.Entries, ahead.Sites[0].Entries) {
				differed++
				break
			}
		}
		all := settle(sites, ops)
		if len(all) > impl.MaxOps {
			t.Fatalf("%d: %d operations", i, len(all))
		}
		run := checkSites(t, fmt.Sprint("settled ", i), sites, all)
		checkAgreed(t, fmt.Sprint("settled ", i), run.Sites)
		for _, e := range run.Sites[0].Entries {
			for site := range sites {
				all = append(all, siGet(site, e.Key))
			}
		}
		for k, out := range impl.RunSites(sites, all).Outs[len(run.Outs):] {
			e := run.Sites[0].Entries[k/int(sites)]
			if e.Gone && out != siCode(impl.ErrNone) || !e.Gone && out != told(e.Data) {
				t.Fatalf("settled %d: %s is read as %s", i, shortly(e), shortly(out))
			}
		}
	}
	if differed < 300 {
		t.Errorf("only %d runs had anything to settle", differed)
	}
}

// Whether events come at once, late, in pieces or in another order between the sites, the entries are the same.
func TestP17TheOrderOfSendingPlaysNoPart(t *testing.T) {
	x := newSiteRuns(53)
	for i := range 60 {
		sites := 2 + x.chance.Int63n(impl.MaxSites-1)
		puts := x.puts(10+x.chance.Intn(60), sites)
		want := impl.RunSites(sites, settle(sites, puts)).Sites[0].Entries
		for range 6 {
			ops := slices.Clone(puts)
			for range x.chance.Intn(200) {
				from, to := x.pair(sites)
				ops = append(ops, []impl.SiteOp{siSend(from, to, x.num()), siSend(from, to, x.num()), siBack(from, to, x.num()-1)}[x.chance.Intn(3)])
			}
			run := impl.RunSites(sites, settle(sites, ops))
			for site, s := range run.Sites {
				if !slices.Equal(s.Entries, want) {
					t.Fatalf("%d: site %d has\n%s, not\n%s", i, site, shortly(s.Entries), shortly(want))
				}
			}
		}
	}
}

// What comes by way of another site is the same as what comes straight: sites in a ring, or with one in the middle.
func TestP17EventsComeByWayOfOthers(t *testing.T) {
	x := newSiteRuns(59)
	for i := range 60 {
		sites := 2 + x.chance.Int63n(impl.MaxSites-1)
		puts := x.puts(40, sites)
		want := impl.RunSites(sites, settle(sites, puts)).Sites[0].Entries
		ring, star := slices.Clone(puts), slices.Clone(puts)
		for k := range 2 * sites {
			ring = append(ring, siAll(k%sites, (k+1)%sites))
		}
		for range 2 {
			for k := int64(1); k < sites; k++ {
				star = append(star, siAll(k, 0), siAll(0, k))
			}
		}
		for name, ops := range map[string][]impl.SiteOp{"ring": ring, "star": star} {
			run := checkSites(t, name, sites, ops)
			for site, s := range run.Sites {
				if !slices.Equal(s.Entries, want) {
					t.Fatalf("%s %d: site %d has\n%s, not\n%s", name, i, site, shortly(s.Entries), shortly(want))
				}
			}
		}
	}
}

// Behind SiBack all comes again: it is sent, but none of it is taken.
func TestP17WhatComesTwiceChangesNothing(t *testing.T) {
	x := newSiteRuns(61)
	for i := range 60 {
		sites := 2 + x.chance.Int63n(impl.MaxSites-1)
		ops := settle(sites, x.ops(100, sites))
		first := impl.RunSites(sites, ops)
		var backs, sends []impl.SiteOp
		for from := range sites {
			for to := range sites {
				if to != from {
					backs = append(backs, siBack(from, to, -1))
					sends = append(sends, siAll(from, to))
				}
			}
		}
		again := checkSites(t, fmt.Sprint("again ", i), sites, append(append(slices.Clone(ops), backs...), sends...))
		if !sameStates(first.Sites, again.Sites) {
			t.Fatalf("%d: the sites are others", i)
		}
		for k, op := range sends {
			if out := again.Outs[len(ops)+len(backs)+k]; out != went(int64(len(first.Sites[op.Site].Events)), 0) {
				t.Fatalf("%d: %s: %s", i, shortly(op), shortly(out))
			}
		}
	}
}

// A new entry is always behind what the key has at its site, wherever that came from.
func TestP17TheTimeOfANewEntry(t *testing.T) {
	run := checkSteps(t, "times", 2, []siStep{
		{siPut(0, "k", "a"), done()}, {siPut(0, "k", "b"), done()}, {siDrop(0, "k"), done()}, {siDrop(0, "k"), done()}, {siPut(0, "m", "c"), done()},
		{siClock(0, 2), done()}, {siPut(0, "k", "d"), done()}, {siClock(0, 3), done()}, {siPut(0, "k", "e"), done()}, {siClock(0, 0), done()}, {siPut(0, "m", "f"), done()},
		{siClock(1, 100), done()}, {siPut(1, "k", "g"), done()}, {siSend(1, 0, 1), went(1, 1)}, {siPut(0, "k", "h"), done()}, {siPut(0, "n", "i"), done()},
		{siClock(0, 95), done()}, {siPut(0, "k", "j"), done()}, {siClock(0, 3), done()}, {siPut(0, "k", "l"), done()}, {siClock(0, 7), done()}, {siDrop(0, "k"), done()},
	})
	want := []impl.SiteEntry{
		putAt(0, 0, "k", "a"), putAt(0, 1, "k", "b"), goneAt(0, 2, "k"), goneAt(0, 3, "k"), putAt(0, 0, "m", "c"), putAt(0, 4, "k", "d"), putAt(0, 5, "k", "e"), putAt(0, 5, "m", "f"),
		putAt(1, 100, "k", "g"), putAt(0, 101, "k", "h"), putAt(0, 5, "n", "i"), putAt(0, 102, "k", "j"), putAt(0, 103, "k", "l"), goneAt(0, 110, "k"),
	}
	if !slices.Equal(run.Sites[0].Events, want) {
		t.Errorf("%+v", run.Sites[0].Events)
	}
}

func TestP17ClocksAndTimesUpToTheGreatest(t *testing.T) {
	run := checkSteps(t, "the greatest time", 2, []siStep{
		{siClock(0, impl.MaxTime-1), done()}, {siClock(0, 2), siCode(impl.ErrForm)}, {siPut(0, "k", "a"), done()}, {siPut(0, "k", "b"), done()}, {siPut(0, "k", "c"), siCode(impl.ErrFull)}, {siDrop(0, "k"), siCode(impl.ErrFull)},
		{siClock(0, 1), done()}, {siClock(0, 1), siCode(impl.ErrForm)}, {siClock(0, 0), done()}, {siClock(0, -1), siCode(impl.ErrForm)}, {siClock(0, math.MaxInt64), siCode(impl.ErrForm)}, {siClock(0, math.MinInt64), siCode(impl.ErrForm)},
		{siPut(0, "k", "d"), siCode(impl.ErrFull)}, {siDrop(0, "m"), done()}, {siPut(0, "m", "e"), siCode(impl.ErrFull)}, {siPut(0, "n", "f"), done()}, {siGet(0, "k"), told("b")},
		{siPut(1, "k", "g"), done()}, {siSend(0, 1, 9), went(4, 4)}, {siPut(1, "k", "h"), siCode(impl.ErrFull)}, {siDrop(1, "n"), siCode(impl.ErrFull)}, {siPut(1, "o", "i"), done()},
		{siClock(1, impl.MaxTime), done()}, {siClock(1, 1), siCode(impl.ErrForm)}, {siPut(1, "o", "j"), done()}, {siPut(1, "o", "l"), siCode(impl.ErrFull)}, {siClock(1, math.MaxInt64), siCode(impl.ErrForm)}, {siClock(1, impl.MaxTime), siCode(impl.ErrForm)},
	})
	want := []impl.SiteEntry{putAt(0, impl.MaxTime, "k", "b"), goneAt(0, impl.MaxTime, "m"), putAt(0, impl.MaxTime, "n", "f"), putAt(1, impl.MaxTime, "o", "j")}
	if !slices.Equal(run.Sites[1].Entries, want) {
		t.Errorf("%+v", run.Sites[1].Entries)
	}
}

func TestP17SitesFromOneToTheMost(t *testing.T) {
	for sites := int64(1); sites <= impl.MaxSites; sites++ {
		var steps []siStep
		for i := range sites {
			steps = append(steps, siStep{siPut(i, "k", fmt.Sprint(i)), done()}, siStep{siPut(i, fmt.Sprint(i), "own"), done()}, siStep{siGet(i, "k"), told(fmt.Sprint(i))})
		}
		last := fmt.Sprint(sites - 1)
		for i := range sites - 1 {
			steps = append(steps, siStep{siAll(sites-1, i), went(2+i, 2+i)}, siStep{siGet(i, "k"), told(last)}, siStep{siAll(i, sites-1), went(4+i, 1)})
		}
		run := checkSteps(t, fmt.Sprint(sites, " sites"), sites, steps)
		if len(run.Sites) != int(sites) || len(run.Sites[sites-1].Entries) != int(sites)+1 {
			t.Errorf("%d sites: %+v", sites, run.Sites)
		}
		none := impl.RunSites(sites, nil)
		if len(none.Outs) != 0 || !sameStates(none.Sites, make([]impl.SiteState, sites)) {
			t.Errorf("%d sites, no operation: %+v", sites, none)
		}
	}
	run := checkSteps(t, "one site", 1, []siStep{
		{siAll(0, 0), siCode(impl.ErrForm)}, {siAll(0, 1), siCode(impl.ErrForm)}, {siBack(0, 0, 0), siCode(impl.ErrForm)}, {siBack(0, 1, 0), siCode(impl.ErrForm)}, {siPut(0, "k", "x"), done()}, {siGet(0, "k"), told("x")}, {siPut(1, "k", "x"), siCode(impl.ErrForm)},
	})
	if !sameStates(run.Sites, []impl.SiteState{{Entries: []impl.SiteEntry{putAt(0, 0, "k", "x")}, Events: []impl.SiteEntry{putAt(0, 0, "k", "x")}}}) {
		t.Errorf("%+v", run.Sites)
	}
}

func TestP17KeysAndDataOfTheLeastAndTheMostBytes(t *testing.T) {
	short, long, most := "\x00", mixedBytes(impl.MaxKey), mixedBytes(impl.MaxBytes)
	run := checkSteps(t, "sizes", 2, []siStep{
		{siPut(0, short, ""), done()}, {siPut(0, long, most), done()}, {siGet(0, short), told("")}, {siGet(0, long), told(most)}, {siPut(0, long+"x", most), siCode(impl.ErrForm)}, {siPut(0, "", most), siCode(impl.ErrForm)},
		{siPut(0, short, most+"x"), siCode(impl.ErrSize)}, {siPut(0, long, most+"x"), siCode(impl.ErrSize)}, {siDrop(0, ""), siCode(impl.ErrForm)}, {siDrop(0, long+"x"), siCode(impl.ErrForm)},
		{siGet(0, ""), siCode(impl.ErrNone)}, {siGet(0, long+"x"), siCode(impl.ErrNone)}, {siGet(0, long[:199]), siCode(impl.ErrNone)}, {siGet(0, times("k", impl.MaxBytes+1)), siCode(impl.ErrNone)},
		{siSend(0, 1, 2), went(2, 2)}, {siGet(1, short), told("")}, {siGet(1, long), told(most)}, {siDrop(1, short), done()}, {siDrop(1, long), done()}, {siGet(1, short), siCode(impl.ErrNone)}, {siGet(1, long), siCode(impl.ErrNone)},
	})
	if e := run.Sites[1].Entries; len(e) != 2 || e[0] != goneAt(1, 1, short) && e[1] != goneAt(1, 1, short) {
		t.Errorf("%s", shortly(e))
	}
}

// Data is not named for SiDrop: whatever stands there, the entry has none. The same holds for all else that an
// operation does not name.
func TestP17WhatAnOperationDoesNotNamePlaysNoPart(t *testing.T) {
	ops := []impl.SiteOp{siPut(0, "k", "x"), siPut(1, "m", "y"), siClock(0, 5), siSend(0, 1, 9), siDrop(0, "k"), siDrop(1, "nowhere"), siBack(0, 1, 1), siSend(0, 1, 9), siGet(1, "m"), siGet(1, "k"), siPut(1, "k", "z"), siSend(1, 0, 3)}
	want := checkSites(t, "as named", 2, ops)
	for name, junk := range map[string]impl.SiteOp{
		"small":    {To: 1, Key: "m", Data: "junk", Num: 3},
		"wrong":    {To: -1, Key: "", Data: times("x", impl.MaxBytes+1), Num: -1},
		"too many": {To: math.MaxInt64, Key: times("k", impl.MaxKey+1), Data: times("x", impl.MaxBytes), Num: math.MaxInt64},
		"least":    {To: math.MinInt64, Key: times("k", impl.MaxBytes+1), Data: "\x00", Num: math.MinInt64},
	} {
		full := slices.Clone(ops)
		for i := range full {
			op := &full[i]
			if op.Kind != impl.SiSend && op.Kind != impl.SiBack {
				op.To = junk.To
			}
			if op.Kind == impl.SiClock || op.Kind == impl.SiSend || op.Kind == impl.SiBack {
				op.Key = junk.Key
			}
			if op.Kind != impl.SiPut {
				op.Data = junk.Data
			}
			if op.Kind == impl.SiPut || op.Kind == impl.SiDrop || op.Kind == impl.SiGet {
				op.Num = junk.Num
			}
		}
		if got := checkSites(t, name, 2, full); !sameSites(got, want) {
			t.Errorf("%s: %s, not %s", name, shortly(got), shortly(want))
		}
	}
}

func TestP17ASiteWithAllItsEvents(t *testing.T) {
	ops := filled(0, 1)
	run := checkSteps(t, "room for one", 2, append(stepsAt(ops), []siStep{
		{siPut(0, "last", "x"), done()}, {siPut(0, "more", "x"), siCode(impl.ErrFull)}, {siPut(0, "last", "y"), siCode(impl.ErrFull)}, {siDrop(0, "last"), siCode(impl.ErrFull)}, {siDrop(0, rowKey(0)), siCode(impl.ErrFull)},
		{siGet(0, "last"), told("x")}, {siGet(0, "more"), siCode(impl.ErrNone)}, {siClock(0, 5), done()}, {siPut(1, rowKey(3), "new"), done()}, {siPut(1, rowKey(3), "newer"), done()},
		{siSend(1, 0, 9), went(0, 0)}, {siSend(0, 1, 3), went(3, 3)}, {siSend(0, 1, 0), went(0, 0)}, {siSend(0, 1, 3), went(3, 2)}, {siAll(0, 1), went(993, 993)}, {siGet(1, rowKey(3)), told("newer")},
		{siPut(1, "one more", "x"), siCode(impl.ErrFull)}, {siAll(0, 1), went(0, 0)}, {siAll(1, 0), went(0, 0)}, {siBack(0, 1, 2), done()}, {siAll(0, 1), went(0, 0)}, {siGet(1, "last"), siCode(impl.ErrNone)},
	}...))
	if len(run.Sites[0].Events) != impl.MaxEvents || len(run.Sites[1].Events) != impl.MaxEvents {
		t.Errorf("%d and %d events", len(run.Sites[0].Events), len(run.Sites[1].Events))
	}
}

// stepsAt are puts that have no code.
func stepsAt(ops []impl.SiteOp) []siStep {
	var steps []siStep
	for _, op := range ops {
		steps = append(steps, siStep{op, done()})
	}
	return steps
}

// A To takes what it has room for: what it does not need uses none, but is not sent either where there is none.
func TestP17AToWithRoomForSomeOfWhatIsSent(t *testing.T) {
	for room, want := range []impl.SiteOut{went(0, 0), went(1, 1), went(3, 2), went(5, 3), went(7, 4), went(7, 4)} {
		// Of what comes, b, d and f lose to what is there.
		ops := append(filled(1, room+3), siPut(1, "b", "own"), siPut(1, "d", "own"), siPut(1, "f", "own"))
		for _, key := range []string{"a", "b", "c", "d", "e", "f", "g"} {
			ops = append(ops, siPut(0, key, "come"))
		}
		run := checkSteps(t, fmt.Sprint("room for ", room), 3, append(stepsAt(ops), []siStep{
			{siAll(0, 1), want}, {siAll(0, 1), went(0, 0)}, {siSend(0, 1, 1), went(0, 0)}, {siAll(0, 2), went(7, 7)},
		}...))
		if len(run.Sites[1].Events) != impl.MaxEvents-room+int(want.Taken) {
			t.Errorf("room for %d: %d events", room, len(run.Sites[1].Events))
		}
	}
}

func TestP17AsManyAsNumAreSent(t *testing.T) {
	var ops []impl.SiteOp
	for i := range 5 {
		ops = append(ops, siPut(0, rowKey(i), "x"))
	}
	for num, moved := range map[int64]int64{0: 0, 1: 1, 2: 2, 4: 4, 5: 5, 6: 5, 999: 5, impl.MaxEvents: 5} {
		checkSteps(t, fmt.Sprint("num ", num), 3, append(stepsAt(ops), []siStep{
			{siSend(0, 1, num), went(moved, moved)}, {siAll(0, 1), went(5-moved, 5-moved)}, {siSend(0, 2, num), went(moved, moved)}, {siAll(0, 2), went(5-moved, 5-moved)}, {siSend(1, 2, num), went(moved, 0)},
		}...))
	}
	for _, num := range []int64{-1, impl.MaxEvents + 1, math.MaxInt64, math.MinInt64, 1 << 32} {
		checkRefusedAtSites(t, "num", 3, append(ops, siSend(0, 1, 2)), siSend(0, 1, num), impl.ErrForm)
		checkRefusedAtSites(t, "num, nothing to send", 3, append(ops, siAll(0, 1)), siSend(0, 1, num), impl.ErrForm)
		checkRefusedAtSites(t, "num, of a site without events", 3, ops, siSend(2, 1, num), impl.ErrForm)
	}
	full := append(filled(0, 0), siPut(1, "a", "x"))
	checkRefusedAtSites(t, "num, no room", 2, full, siSend(1, 0, -1), impl.ErrForm)
	run := checkSteps(t, "all at once", 2, append(stepsAt(full), siStep{siSend(0, 1, impl.MaxEvents), went(999, 999)}, siStep{siBack(0, 1, 999), done()}))
	if len(run.Sites[1].Events) != impl.MaxEvents {
		t.Errorf("%d events", len(run.Sites[1].Events))
	}
}

// What was sent is Num fewer, or nothing at all: that is no fault.
func TestP17WhatIsTakenBackIsSentAgain(t *testing.T) {
	var ops []impl.SiteOp
	for i := range 5 {
		ops = append(ops, siPut(0, rowKey(i), "x"))
	}
	ops = append(ops, siSend(0, 1, 4), siSend(0, 2, 2))
	for num, again := range map[int64]int64{0: 1, 1: 2, 2: 3, 3: 4, 4: 5, 5: 5, 6: 5, -1: 5, -4: 5, -5: 5, impl.MaxEvents: 5, impl.MaxEvents + 1: 5, math.MaxInt64: 5, math.MinInt64: 5} {
		run := checkSites(t, fmt.Sprint("back ", num), 3, append(slices.Clone(ops), siBack(0, 1, num), siAll(0, 1), siAll(0, 2), siAll(1, 0), siBack(0, 1, 5), siAll(0, 1)))
		if got := run.Outs[len(ops):]; !slices.Equal(got, []impl.SiteOut{done(), went(again, 1), went(3, 3), went(5, 0), done(), went(5, 0)}) {
			t.Errorf("back %d: %+v", num, got)
		}
		quiet := checkSites(t, fmt.Sprint("nothing sent, back ", num), 3, []impl.SiteOp{siBack(0, 1, num), siPut(0, "k", "x"), siBack(0, 1, num), siAll(0, 1), siGet(1, "k")})
		if !slices.Equal(quiet.Outs, []impl.SiteOut{done(), done(), done(), went(1, 1), told("x")}) {
			t.Errorf("nothing sent, back %d: %+v", num, quiet.Outs)
		}
	}
}

func TestP17SitesOutsideTheirBounds(t *testing.T) {
	ops := []impl.SiteOp{siPut(0, "k", "x")}
	for _, sites := range []int64{0, -1, -8, impl.MaxSites + 1, 9999, 1 << 32, 1<<32 + 1, math.MaxInt64, math.MinInt64, math.MinInt64 + 1} {
		for _, list := range [][]impl.SiteOp{nil, ops, make([]impl.SiteOp, impl.MaxOps+1)} {
			if got := impl.RunSites(sites, list); !isNoSites(got) {
				t.Errorf("%d sites: %s", sites, shortly(got))
			}
		}
	}
}

func TestP17AsManyOperationsAsThereMayBe(t *testing.T) {
	for sites := int64(1); sites <= impl.MaxSites; sites++ {
		var ops []impl.SiteOp
		for i := range int64(impl.MaxOps) {
			ops = append(ops, []impl.SiteOp{siPut(i%sites, rowKey(int(i%37)), fmt.Sprint(i)), siAll(i%sites, (i+1)%sites), siGet(i%sites, rowKey(int(i%37))), siClock(i%sites, i%3)}[i%4])
		}
		checkSites(t, fmt.Sprint(sites, " sites"), sites, ops)
		if got := impl.RunSites(sites, append(ops, siGet(0, "k"))); !isNoSites(got) {
			t.Errorf("%d sites: %d outs for one operation too many", sites, len(got.Outs))
		}
		if got := impl.RunSites(sites, append(ops, impl.SiteOp{})); !isNoSites(got) {
			t.Errorf("%d sites: %d outs for one of no kind too many", sites, len(got.Outs))
		}
	}
}

// opened are sites that have something of all that a site can have.
func opened() []impl.SiteOp {
	return []impl.SiteOp{
		siClock(0, 7), siClock(1, 3), siPut(0, "k", "x"), siPut(0, "m", "y"), siPut(1, "k", "z"), siDrop(1, "gone"), siSend(0, 1, 1), siSend(1, 0, 2), siPut(0, "k", "w"), siSend(0, 2, 3), siSend(2, 1, 2), siBack(0, 2, 1),
	}
}

func TestP17OperationsOfNoKind(t *testing.T) {
	for _, kind := range []int64{0, -1, 7, 8, 100, 1 << 32, 1<<32 + impl.SiPut, math.MaxInt64, math.MinInt64, math.MinInt64 + impl.SiPut} {
		checkRefusedAtSites(t, "kind", 3, opened(), impl.SiteOp{Kind: kind, Site: 1, To: 2, Key: "k", Data: "x", Num: 1}, impl.ErrForm)
		checkRefusedAtSites(t, "kind at no site", 3, opened(), impl.SiteOp{Kind: kind, Site: 3, To: 2, Key: "k", Data: "x", Num: 1}, impl.ErrForm)
	}
}

func TestP17OperationsAtSitesThatAreNone(t *testing.T) {
	for _, none := range []int64{-1, -2, 3, 4, impl.MaxSites, impl.MaxSites + 1, 1 << 32, math.MaxInt64, math.MinInt64} {
		for _, op := range []impl.SiteOp{
			siPut(none, "k", "x"), siDrop(none, "k"), siClock(none, 1), siClock(none, 0), siSend(none, 0, 1), siSend(none, none, 1), siBack(none, 0, 1), siBack(none, none, 0), siGet(none, "k"),
			siSend(0, none, 1), siSend(0, none, 0), siBack(0, none, 1), siBack(0, none, -1), siBack(0, none, 0),
		} {
			checkRefusedAtSites(t, "none", 3, opened(), op, impl.ErrForm)
		}
	}
	for site := range int64(3) {
		for _, num := range []int64{-1, 0, 1, 2, impl.MaxEvents} {
			checkRefusedAtSites(t, "to itself", 3, opened(), siSend(site, site, num), impl.ErrForm)
			checkRefusedAtSites(t, "back from itself", 3, opened(), siBack(site, site, num), impl.ErrForm)
		}
	}
	// A site that is none elsewhere.
	if run := checkSites(t, "the last", 8, []impl.SiteOp{siPut(7, "k", "x"), siSend(7, 0, 1), siGet(0, "k"), siPut(8, "k", "x")}); run.Outs[2] != told("x") || run.Outs[3] != siCode(impl.ErrForm) {
		t.Errorf("%+v", run.Outs)
	}
}

func TestP17RefusedAtSites(t *testing.T) {
	long, most := times("k", impl.MaxKey+1), times("x", impl.MaxBytes+1)
	for _, c := range []struct {
		op   impl.SiteOp
		code int64
	}{
		{siPut(1, "", "x"), impl.ErrForm}, {siPut(1, long, "x"), impl.ErrForm}, {siPut(1, times("k", impl.MaxBytes+1), "x"), impl.ErrForm}, {siPut(1, "k", most), impl.ErrSize}, {siPut(1, "new", most), impl.ErrSize},
		{siDrop(1, ""), impl.ErrForm}, {siDrop(1, long), impl.ErrForm}, {siDrop(1, times("k", impl.MaxBytes+1)), impl.ErrForm},
		{siClock(1, -1), impl.ErrForm}, {siClock(1, -3), impl.ErrForm}, {siClock(1, impl.MaxTime-2), impl.ErrForm}, {siClock(1, impl.MaxTime), impl.ErrForm}, {siClock(1, math.MaxInt64), impl.ErrForm}, {siClock(1, math.MinInt64), impl.ErrForm},
		{siGet(1, "nowhere"), impl.ErrNone}, {siGet(1, "gone"), impl.ErrNone}, {siGet(2, "gone"), impl.ErrNone}, {siGet(1, ""), impl.ErrNone}, {siGet(1, "K"), impl.ErrNone}, {siGet(1, "k\x00"), impl.ErrNone}, {siGet(1, long), impl.ErrNone}, {siGet(1, most), impl.ErrNone},
		{siSend(1, 2, -1), impl.ErrForm}, {siSend(1, 2, impl.MaxEvents+1), impl.ErrForm},
	} {
		checkRefusedAtSites(t, "opened", 3, opened(), c.op, c.code)
	}
	checkSteps(t, "up to the greatest", 3, append(stepsAt(opened()[:2]), siStep{siClock(1, impl.MaxTime-3), done()}, siStep{siClock(1, 1), siCode(impl.ErrForm)}))
}

// Where an operation has several faults, the one told first is answered.
func TestP17TheFirstCodeOfASite(t *testing.T) {
	long, most := times("k", impl.MaxKey+1), times("x", impl.MaxBytes+1)
	full := append(filled(0, 0), siClock(0, impl.MaxTime))
	late := []impl.SiteOp{siClock(0, impl.MaxTime), siPut(0, "k", "x")}
	for name, ops := range map[string][]impl.SiteOp{"full": full, "late": late} {
		for _, c := range []struct {
			op   impl.SiteOp
			code int64
		}{
			{siPut(2, "k", most), impl.ErrForm}, {siPut(-1, "", most), impl.ErrForm}, {siPut(0, "", most), impl.ErrForm}, {siPut(0, long, most), impl.ErrForm}, {siPut(0, most, most), impl.ErrForm}, {siPut(0, "k", most), impl.ErrSize},
			{siDrop(2, "k"), impl.ErrForm}, {siDrop(0, ""), impl.ErrForm}, {siDrop(0, long), impl.ErrForm}, {siPut(0, "k", "x"), impl.ErrFull}, {siDrop(0, "k"), impl.ErrFull}, {impl.SiteOp{Kind: impl.SiDrop, Key: "k", Data: most}, impl.ErrFull},
			{siGet(2, "nowhere"), impl.ErrForm}, {siGet(0, "nowhere"), impl.ErrNone},
		} {
			checkRefusedAtSites(t, name, 2, ops, c.op, c.code)
		}
	}
}

// lentSites is a run of operations whose texts the test can change.
type lentSites struct {
	ops   []impl.SiteOp
	was   []impl.SiteOp
	texts []*loan
}

func lendSites(ops []impl.SiteOp) *lentSites {
	l := &lentSites{}
	for _, op := range ops {
		key, data := newLoan(op.Key), newLoan(op.Data)
		l.texts = append(l.texts, key, data)
		op.Key, op.Data = key.text(), data.text()
		l.ops = append(l.ops, op)
	}
	// The room behind the list is the test's, too.
	l.ops = append(l.ops, impl.SiteOp{Kind: 77}, impl.SiteOp{Kind: 88})
	l.was = slices.Clone(l.ops)
	return l
}

func (l *lentSites) given() []impl.SiteOp {
	return l.ops[:len(l.ops)-2]
}

func (l *lentSites) kept() bool {
	return slices.Equal(l.ops, l.was) && !slices.ContainsFunc(l.texts, func(text *loan) bool { return !text.kept() })
}

func (l *lentSites) spoil() {
	for _, text := range l.texts {
		text.spoil()
	}
	clear(l.ops)
}

func TestP17TheAnswerIsNewMemory(t *testing.T) {
	x := newSiteRuns(67)
	for i := range 300 {
		sites := 1 + x.chance.Int63n(impl.MaxSites)
		ops := x.ops(60, sites)
		want, _ := plainSitesRun(sites, ops)
		lent := lendSites(ops)
		got := impl.RunSites(sites, lent.given())
		kept := lent.kept()
		lent.spoil()
		if !kept || !sameSites(got, want) {
			t.Fatalf("%d: written into, or shared", i)
		}
	}
	for _, times := range [][2]int64{{1, 2}, {2, 1}, {1, 1}} {
		keys, data := []*loan{newLoan("key"), newLoan("key")}, []*loan{newLoan("one"), newLoan("two")}
		a, b := putAt(0, times[0], keys[0].text(), data[0].text()), putAt(0, times[1], keys[1].text(), data[1].text())
		want := plainWinner(putAt(0, times[0], "key", "one"), putAt(0, times[1], "key", "two"))
		got := impl.Winner(a, b)
		kept := keys[0].kept() && keys[1].kept() && data[0].kept() && data[1].kept()
		for _, l := range append(keys, data...) {
			l.spoil()
		}
		if !kept || got != want {
			t.Errorf("%v: the winner is written into, or shared: %+v", times, got)
		}
	}
}

// spoilSite changes every entry of a list, the room behind it included.
func spoilSite(list []impl.SiteEntry) {
	list = list[:cap(list)]
	for i := range list {
		list[i] = impl.SiteEntry{Key: "spoiled", Time: -1}
	}
}

// sitesLists are all lists of entries of a run.
func sitesLists(r impl.SitesRun) [][]impl.SiteEntry {
	var lists [][]impl.SiteEntry
	for _, s := range r.Sites {
		lists = append(lists, s.Entries, s.Events)
	}
	return lists
}

func TestP17NoTwoListsOfSitesShareMemory(t *testing.T) {
	x := newSiteRuns(71)
	for range 100 {
		sites := 1 + x.chance.Int63n(impl.MaxSites)
		ops := settle(sites, x.ops(80, sites))
		for spoiled := range 2 * int(sites) {
			run := impl.RunSites(sites, ops)
			want, _ := plainSitesRun(sites, ops)
			spoilSite(sitesLists(run)[spoiled])
			for i, list := range sitesLists(run) {
				if i != spoiled && !slices.Equal(list, sitesLists(want)[i]) {
					t.Fatalf("%d sites: list %d changes with list %d", sites, i, spoiled)
				}
			}
		}
	}
}

// wild draws operations of any numbers and texts.
func (x siteRuns) wild(count int) []impl.SiteOp {
	numbers := []int64{math.MinInt64, -2, -1, 0, 0, 1, 1, 1, 2, 2, 3, 7, 8, impl.MaxEvents, impl.MaxEvents + 1, impl.MaxTime, impl.MaxTime + 1, math.MaxInt64}
	number := func() int64 { return numbers[x.chance.Intn(len(numbers))] }
	texts := []string{"", "a", "b", "\x00", "\xff", times("k", impl.MaxKey), times("k", impl.MaxKey+1), times("t", impl.MaxBytes), times("t", impl.MaxBytes+1)}
	text := func() string { return texts[x.chance.Intn(len(texts))] }
	var ops []impl.SiteOp
	for range count {
		ops = append(ops, impl.SiteOp{Kind: x.chance.Int63n(9) - 1, Site: number(), To: number(), Key: text(), Data: text(), Num: number()})
	}
	return ops
}

func TestP17NoCallOfSitesPanics(t *testing.T) {
	x := newSiteRuns(73)
	for i := range 3000 {
		sites := []int64{math.MinInt64, -1, 0, 1, 2, 2, 3, 4, 8, 9, math.MaxInt64}[x.chance.Intn(11)]
		ops := x.wild(x.chance.Intn(60))
		noPanic(t, "RunSites", func() {
			got := impl.RunSites(sites, ops)
			if want, _ := plainSitesRun(sites, ops); !sameSites(got, want) {
				t.Errorf("%d: run in another way", i)
			}
		})
		for _, op := range ops {
			noPanic(t, "Winner", func() {
				impl.Winner(impl.SiteEntry{Key: op.Key, Time: op.To, Site: op.Site, Data: op.Data}, impl.SiteEntry{Time: op.Num, Site: op.Kind})
			})
		}
	}
}

// isQuiet waits for a moment in which no more goes on than ahead: one that has ended for its call may still be on its
// way out.
func isQuiet(ahead int) bool {
	for range 5000 {
		if runtime.NumGoroutine() <= ahead {
			return true
		}
		time.Sleep(time.Millisecond)
	}
	return false
}

func TestP17NothingGoesOnBehindTheAnswer(t *testing.T) {
	x := newSiteRuns(79)
	ahead := runtime.NumGoroutine()
	for i := range 500 {
		impl.RunSites(x.chance.Int63n(12)-2, x.ops(x.chance.Intn(30), 8))
		impl.RunSites(8, make([]impl.SiteOp, impl.MaxOps+x.chance.Intn(2)))
		impl.RunSites(8, nil)
		if i%50 == 0 && !isQuiet(ahead) {
			t.Fatalf("%d: %d go on, not %d", i, runtime.NumGoroutine(), ahead)
		}
	}
	if !isQuiet(ahead) {
		t.Errorf("%d go on, not %d", runtime.NumGoroutine(), ahead)
	}
}

// On one core what has ended is gone when the call answers, but for a rare moment in which another one was let ahead.
func TestP17AllSitesHaveEndedWhenTheCallAnswers(t *testing.T) {
	ops := settle(8, newSiteRuns(89).ops(60, 8))
	defer runtime.GOMAXPROCS(runtime.GOMAXPROCS(1))
	ahead := runtime.NumGoroutine()
	late := 0
	for range 200 {
		impl.RunSites(8, ops)
		if runtime.NumGoroutine() > ahead {
			late++
		}
		if !isQuiet(ahead) {
			t.Fatalf("%d go on, not %d", runtime.NumGoroutine(), ahead)
		}
	}
	if late > 100 {
		t.Errorf("behind %d of 200 calls something went on", late)
	}
}

// Calls at one time, and however many of the machine's cores there are, answer the same.
func TestP17TheAnswerHangsOnTheArgumentsAlone(t *testing.T) {
	x := newSiteRuns(83)
	ops := settle(8, x.ops(300, 8))
	want := checkSites(t, "alone", 8, ops)
	cores := runtime.GOMAXPROCS(0)
	defer runtime.GOMAXPROCS(cores)
	for _, count := range []int{1, 2, cores} {
		runtime.GOMAXPROCS(count)
		var calls sync.WaitGroup
		same := make([]bool, 24)
		for i := range same {
			calls.Go(func() { same[i] = sameSites(impl.RunSites(8, ops), want) })
		}
		calls.Wait()
		if slices.Contains(same, false) {
			t.Errorf("on %d cores: %v", count, same)
		}
	}
}

// The longest runs: each has to end.
func TestP17TheLongestRunsOfSitesEnd(t *testing.T) {
	most := mixedBytes(impl.MaxBytes)
	full := filled(0, 0)
	for name, fill := range map[string]func(i int64) impl.SiteOp{
		"again and again": func(i int64) impl.SiteOp { return []impl.SiteOp{siAll(0, 1+i/2%7), siBack(0, 1+i/2%7, -1)}[i%2] },
		"all to all":      func(i int64) impl.SiteOp { return siAll(i%8, (i+1+i/8%7)%8) },
		"one by one":      func(i int64) impl.SiteOp { return siSend(0, 1, 1) },
		"long data":       func(i int64) impl.SiteOp { return siPut(1+i%7, rowKey(int(i)), most) },
		"long and read":   func(i int64) impl.SiteOp { return []impl.SiteOp{siPut(1, "k", most), siGet(1, "k")}[i%2] },
		"too long":        func(i int64) impl.SiteOp { return siPut(1, strings.Repeat("k", 1000), most) },
		"clocks":          func(i int64) impl.SiteOp { return siClock(i%8, i) },
	} {
		ops := slices.Clone(full)
		for i := range int64(impl.MaxOps - len(full)) {
			ops = append(ops, fill(i))
		}
		got := impl.RunSites(impl.MaxSites, ops)
		want, _ := plainSitesRun(impl.MaxSites, ops)
		if !sameSites(got, want) {
			t.Errorf("%s: run in another way", name)
		}
	}
}
