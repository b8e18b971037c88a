package tests

import (
	"fmt"
	"math"
	"math/rand"
	"runtime"
	"slices"
	"sync"
	"testing"

	"loop.example/g00020/impl"
)

// Short names for operations.
func grElect(member int64, peers ...int64) impl.GroupOp {
	return impl.GroupOp{Kind: impl.GrElect, Member: member, Peers: peers}
}
func grPropose(member int64, text string) impl.GroupOp {
	return impl.GroupOp{Kind: impl.GrPropose, Member: member, Text: text}
}
func grCopy(member, to int64) impl.GroupOp {
	return impl.GroupOp{Kind: impl.GrCopy, Member: member, To: to}
}
func grCrash(member int64) impl.GroupOp {
	return impl.GroupOp{Kind: impl.GrCrash, Member: member}
}

// numbersBut are the numbers below a count, without one.
func numbersBut(count, without int64) []int64 {
	var list []int64
	for number := range count {
		if number != without {
			list = append(list, number)
		}
	}
	return list
}

// grElectAll is an election in which all others are asked.
func grElectAll(members, member int64) impl.GroupOp {
	return grElect(member, numbersBut(members, member)...)
}

// grCopyAll are copies to all others.
func grCopyAll(members, member int64) []impl.GroupOp {
	var ops []impl.GroupOp
	for _, to := range numbersBut(members, member) {
		ops = append(ops, grCopy(member, to))
	}
	return ops
}

// grLog is a log of entries whose texts are single letters, each behind its term: "1a1b3c".
func grLog(short string) []impl.GroupEntry {
	var log []impl.GroupEntry
	for i := 0; i < len(short); i += 2 {
		log = append(log, impl.GroupEntry{Term: int64(short[i] - '0'), Text: short[i+1 : i+2]})
	}
	return log
}

// plainGroup is the document's sentences for all operations.
type plainGroup struct {
	list []impl.Member
}

func newPlainGroup(members int64) *plainGroup {
	p := &plainGroup{}
	for range members {
		p.list = append(p.list, impl.Member{Vote: -1, Match: make([]int64, members)})
	}
	return p
}

func (p *plainGroup) isNone(member int64) bool {
	return member < 0 || member > int64(len(p.list))-1
}

// plainNewer is the document's sentence.
func plainNewer(a, b []impl.GroupEntry) bool {
	var lastA, lastB int64
	if len(a) > 0 {
		lastA = a[len(a)-1].Term
	}
	if len(b) > 0 {
		lastB = b[len(b)-1].Term
	}
	return lastA > lastB || lastA == lastB && len(a) > len(b)
}

func (p *plainGroup) elect(op impl.GroupOp) impl.GroupOut {
	if slices.ContainsFunc(op.Peers, p.isNone) {
		return impl.GroupOut{Code: impl.ErrForm}
	}
	m := &p.list[op.Member]
	m.Term++
	m.Vote = op.Member
	m.Leads = false
	votes := int64(1)
	for i, number := range op.Peers {
		if number == op.Member || slices.Contains(op.Peers[:i], number) {
			continue
		}
		peer := &p.list[number]
		if peer.Term < m.Term {
			peer.Term, peer.Vote, peer.Leads = m.Term, -1, false
		}
		if peer.Term == m.Term && (peer.Vote == -1 || peer.Vote == op.Member) && !plainNewer(peer.Log, m.Log) {
			peer.Vote = op.Member
			votes++
		}
	}
	if votes*2 <= int64(len(p.list)) {
		return impl.GroupOut{Code: impl.ErrState, Votes: votes}
	}
	m.Leads = true
	m.Match = make([]int64, len(p.list))
	m.Match[op.Member] = int64(len(m.Log))
	return impl.GroupOut{Votes: votes}
}

// count looks at every place from the first one on.
func (p *plainGroup) count(m *impl.Member) {
	greatest := 0
	for n := 1; n <= len(m.Log); n++ {
		have := 0
		for _, match := range m.Match {
			if match >= int64(n) {
				have++
			}
		}
		if m.Log[n-1].Term == m.Term && have*2 > len(p.list) {
			greatest = n
		}
	}
	if int64(greatest) > m.Commit {
		m.Commit = int64(greatest)
	}
}

func (p *plainGroup) propose(op impl.GroupOp) impl.GroupOut {
	m := &p.list[op.Member]
	if !m.Leads {
		return impl.GroupOut{Code: impl.ErrState}
	}
	if len(m.Log) == 500 {
		return impl.GroupOut{Code: impl.ErrFull}
	}
	if len(op.Text) > 1000 {
		return impl.GroupOut{Code: impl.ErrSize}
	}
	m.Log = append(m.Log, impl.GroupEntry{Term: m.Term, Text: op.Text})
	m.Match[op.Member] = int64(len(m.Log))
	p.count(m)
	return impl.GroupOut{}
}

func (p *plainGroup) copy(op impl.GroupOp) impl.GroupOut {
	if p.isNone(op.To) || op.To == op.Member {
		return impl.GroupOut{Code: impl.ErrForm}
	}
	m, to := &p.list[op.Member], &p.list[op.To]
	if !m.Leads {
		return impl.GroupOut{Code: impl.ErrState}
	}
	if to.Term > m.Term {
		m.Term, m.Vote, m.Leads = to.Term, -1, false
		return impl.GroupOut{Code: impl.ErrLate}
	}
	if to.Term < m.Term {
		to.Term, to.Vote = m.Term, -1
	}
	to.Leads = false
	var log []impl.GroupEntry
	for i, e := range to.Log {
		if i < len(m.Log) && m.Log[i].Term != e.Term {
			break
		}
		log = append(log, e)
	}
	for i := len(log); i < len(m.Log); i++ {
		log = append(log, m.Log[i])
	}
	to.Log = log
	m.Match[op.To] = int64(len(m.Log))
	p.count(m)
	if to.Commit < m.Commit {
		to.Commit = min(m.Commit, int64(len(to.Log)))
	}
	return impl.GroupOut{}
}

func (p *plainGroup) crash(op impl.GroupOp) impl.GroupOut {
	m := &p.list[op.Member]
	m.Leads, m.Commit, m.Match = false, 0, make([]int64, len(p.list))
	return impl.GroupOut{}
}

func (p *plainGroup) do(op impl.GroupOp) impl.GroupOut {
	if p.isNone(op.Member) {
		return impl.GroupOut{Code: impl.ErrForm}
	}
	out := impl.GroupOut{Code: impl.ErrForm}
	switch op.Kind {
	case 1:
		out = p.elect(op)
	case 2:
		out = p.propose(op)
	case 3:
		out = p.copy(op)
	case 4:
		out = p.crash(op)
	}
	out.Commit = p.list[op.Member].Commit
	return out
}

// leaders are the members that lead, in any term.
func (p *plainGroup) leaders() []int64 {
	var list []int64
	for number, m := range p.list {
		if m.Leads {
			list = append(list, int64(number))
		}
	}
	return list
}

func copyMember(m impl.Member) impl.Member {
	m.Log, m.Match = slices.Clone(m.Log), slices.Clone(m.Match)
	return m
}

func (p *plainGroup) members() []impl.Member {
	var list []impl.Member
	for _, m := range p.list {
		list = append(list, copyMember(m))
	}
	return list
}

func plainGroupRun(members int64, ops []impl.GroupOp) impl.GroupRun {
	if members < 1 || members > 9 || len(ops) > 2000 {
		return impl.GroupRun{}
	}
	p := newPlainGroup(members)
	var run impl.GroupRun
	for _, op := range ops {
		run.Outs = append(run.Outs, p.do(op))
	}
	run.Members = p.members()
	return run
}

func sameMember(a, b impl.Member) bool {
	return a.Term == b.Term && a.Vote == b.Vote && a.Leads == b.Leads && a.Commit == b.Commit && slices.Equal(a.Log, b.Log) && slices.Equal(a.Match, b.Match)
}

func sameMembers(a, b []impl.Member) bool {
	return slices.EqualFunc(a, b, sameMember)
}

func sameGroup(a, b impl.GroupRun) bool {
	return slices.Equal(a.Outs, b.Outs) && sameMembers(a.Members, b.Members)
}

func isNoGroup(r impl.GroupRun) bool {
	return len(r.Outs) == 0 && len(r.Members) == 0
}

// history is what members have told as committed, and who led in which term, at any time of a run.
type history struct {
	told  []impl.GroupEntry
	leads map[int64]int64
}

func newHistory() *history {
	return &history{leads: map[int64]int64{}}
}

// look is the promise: it holds what each member tells now against what any has told, then and earlier.
func (h *history) look(t *testing.T, what string, members []impl.Member) {
	t.Helper()
	for number, m := range members {
		if m.Commit < 0 || m.Commit > int64(len(m.Log)) {
			t.Fatalf("%s: member %d tells %d of %d entries as committed", what, number, m.Commit, len(m.Log))
		}
		now := m.Log[:m.Commit]
		both := min(len(now), len(h.told))
		if !slices.Equal(now[:both], h.told[:both]) {
			t.Fatalf("%s: member %d tells as committed\n%s, but told was\n%s", what, number, shortly(now), shortly(h.told))
		}
		if len(now) > both {
			h.told = slices.Clone(now)
		}
		if !m.Leads {
			continue
		}
		if one, there := h.leads[m.Term]; there && one != int64(number) {
			t.Fatalf("%s: %d and %d lead in term %d", what, one, number, m.Term)
		}
		h.leads[m.Term] = int64(number)
	}
}

// checkMembers holds members to what is so behind each operation: terms that rise along a log and are not above the
// member's own, logs that are the same up to any place at which their terms are, and lists of the right length.
func checkMembers(t *testing.T, what string, members []impl.Member) {
	t.Helper()
	for number, m := range members {
		if len(m.Match) != len(members) || len(m.Log) > impl.MaxLog || m.Vote < -1 || m.Vote >= int64(len(members)) || m.Leads && m.Vote != int64(number) {
			t.Fatalf("%s: member %d is %s", what, number, shortly(m))
		}
		last := int64(1)
		for _, e := range m.Log {
			if e.Term < last || e.Term > m.Term {
				t.Fatalf("%s: member %d of term %d has the log %s", what, number, m.Term, shortly(m.Log))
			}
			last = e.Term
		}
		for _, other := range members {
			for at := min(len(m.Log), len(other.Log)); at > 0; at-- {
				if m.Log[at-1].Term == other.Log[at-1].Term {
					if !slices.Equal(m.Log[:at], other.Log[:at]) {
						t.Fatalf("%s: the logs %s and %s meet again", what, shortly(m.Log), shortly(other.Log))
					}
					break
				}
			}
		}
	}
}

// isIdle tells whether an operation with this answer changes no member.
func isIdle(op impl.GroupOp, code int64) bool {
	switch code {
	case impl.OK, impl.ErrLate:
		return false
	case impl.ErrState:
		return op.Kind != impl.GrElect
	}
	return true
}

// checkIdle leaves out all operations that change no member: what the others answer, and the members, is the same
// without them.
func checkIdle(t *testing.T, what string, members int64, ops []impl.GroupOp, got impl.GroupRun) {
	t.Helper()
	var rest []impl.GroupOp
	want := impl.GroupRun{Members: got.Members}
	for i, out := range got.Outs {
		if !isIdle(ops[i], out.Code) {
			rest = append(rest, ops[i])
			want.Outs = append(want.Outs, out)
		}
	}
	if len(rest) < len(ops) && !sameGroup(impl.RunGroup(members, rest), want) {
		t.Fatalf("%s: an operation that is refused changed something", what)
	}
}

// checkGroup holds a run against the plain one.
func checkGroup(t *testing.T, what string, members int64, ops []impl.GroupOp) impl.GroupRun {
	t.Helper()
	got, want := impl.RunGroup(members, ops), plainGroupRun(members, ops)
	if len(got.Outs) != len(ops) || len(got.Members) != int(members) {
		t.Fatalf("%s: %d outs and %d members, not %d and %d", what, len(got.Outs), len(got.Members), len(ops), members)
	}
	for i, op := range ops {
		if got.Outs[i] != want.Outs[i] {
			t.Fatalf("%s: operation %d, %s:\n%+v, not\n%+v", what, i, shortly(op), got.Outs[i], want.Outs[i])
		}
	}
	for i := range got.Members {
		if !sameMember(got.Members[i], want.Members[i]) {
			t.Fatalf("%s: member %d is\n%s, not\n%s", what, i, shortly(got.Members[i]), shortly(want.Members[i]))
		}
	}
	checkMembers(t, what, got.Members)
	newHistory().look(t, what, got.Members)
	checkIdle(t, what, members, ops, got)
	return got
}

// checkGroupAtEach looks at the members behind each operation, or behind each so many, and holds all that they tell
// there to the promise.
func checkGroupAtEach(t *testing.T, what string, members int64, ops []impl.GroupOp, every int) impl.GroupRun {
	t.Helper()
	got := checkGroup(t, what, members, ops)
	plain, all := newPlainGroup(members), newHistory()
	for i, op := range ops {
		plain.do(op)
		if i%every != 0 && i < len(ops)-1 {
			continue
		}
		step := impl.RunGroup(members, ops[:i+1])
		if !slices.Equal(step.Outs, got.Outs[:i+1]) || !sameMembers(step.Members, plain.list) {
			t.Fatalf("%s: behind operation %d, %s, the members are others:\n%s, not\n%s", what, i, shortly(op), shortly(step.Members), shortly(plain.list))
		}
		if !plain.isNone(op.Member) && step.Outs[i].Commit != step.Members[op.Member].Commit || plain.isNone(op.Member) && step.Outs[i].Commit != 0 {
			t.Fatalf("%s: operation %d, %s, tells %d as committed", what, i, shortly(op), step.Outs[i].Commit)
		}
		checkMembers(t, what, step.Members)
		all.look(t, fmt.Sprint(what, ", behind operation ", i), step.Members)
	}
	return got
}

// grStep is an operation with what it is to answer.
type grStep struct {
	op  impl.GroupOp
	out impl.GroupOut
}

// grOut is an answer: code, votes, commit.
func grOut(code, votes, commit int64) impl.GroupOut {
	return impl.GroupOut{Code: code, Votes: votes, Commit: commit}
}

// checkGroupSteps is checkGroupAtEach with the answer of each operation.
func checkGroupSteps(t *testing.T, what string, members int64, steps []grStep) []impl.Member {
	t.Helper()
	var ops []impl.GroupOp
	for _, step := range steps {
		ops = append(ops, step.op)
	}
	run := checkGroupAtEach(t, what, members, ops, 1)
	for i, step := range steps {
		if run.Outs[i] != step.out {
			t.Errorf("%s: operation %d, %s: %+v, not %+v", what, i, shortly(step.op), run.Outs[i], step.out)
		}
	}
	return run.Members
}

// checkThatMember holds a member to what is written out.
func checkThatMember(t *testing.T, what string, got, want impl.Member) {
	t.Helper()
	if !sameMember(got, want) {
		t.Errorf("%s: %s, not %s", what, shortly(got), shortly(want))
	}
}

// checkLogs holds the logs of all members to what is written out.
func checkLogs(t *testing.T, what string, members []impl.Member, logs ...string) {
	t.Helper()
	for number, m := range members {
		if !slices.Equal(m.Log, grLog(logs[number])) {
			t.Errorf("%s: member %d has %s, not %s", what, number, shortly(m.Log), logs[number])
		}
	}
}

// grProbes are operations that tell all that members have: whom each votes for, who leads, and what is committed.
func grProbes(members int64) []impl.GroupOp {
	var ops []impl.GroupOp
	for number := range members {
		ops = append(ops, grPropose(number, "probe"))
		ops = append(ops, grCopyAll(members, number)...)
	}
	for number := range members {
		ops = append(ops, grElectAll(members, number), grPropose(number, "later"))
		ops = append(ops, grCopyAll(members, number)...)
	}
	return ops
}

// checkRefusedInGroup does one operation more than a run: it answers a code with the Commit of its member, and the
// members are as they were.
func checkRefusedInGroup(t *testing.T, what string, members int64, ops []impl.GroupOp, op impl.GroupOp, code int64) {
	t.Helper()
	ahead := impl.RunGroup(members, ops)
	want := impl.GroupOut{Code: code}
	if op.Member >= 0 && op.Member < members {
		want.Commit = ahead.Members[op.Member].Commit
	}
	got := checkGroup(t, what, members, append(slices.Clone(ops), op))
	if out := got.Outs[len(ops)]; out != want {
		t.Errorf("%s: %s: %+v, not %+v", what, shortly(op), out, want)
	}
	if !slices.Equal(got.Outs[:len(ops)], ahead.Outs) || !sameMembers(got.Members, ahead.Members) {
		t.Errorf("%s: %s: the members are others", what, shortly(op))
	}
	tell := grProbes(members)
	was := impl.RunGroup(members, append(slices.Clone(ops), tell...))
	now := impl.RunGroup(members, append(append(slices.Clone(ops), op), tell...))
	if len(was.Outs) == 0 || !slices.Equal(was.Outs[len(ops):], now.Outs[len(ops)+1:]) || !sameMembers(was.Members, now.Members) {
		t.Errorf("%s: %s: the members have become others", what, shortly(op))
	}
}

// groupRuns draws operations.
type groupRuns struct {
	chance *rand.Rand
}

func newGroupRuns(seed int64) groupRuns {
	return groupRuns{rand.New(rand.NewSource(seed))}
}

// peers are few, about half, or all of the members, in any order, at times with the candidate or one of them again.
func (x groupRuns) peers(members int64) []int64 {
	var list []int64
	share := []int{20, 50, 50, 60, 80, 100}[x.chance.Intn(6)]
	for _, number := range x.chance.Perm(int(members)) {
		if x.chance.Intn(100) < share {
			list = append(list, int64(number))
		}
	}
	if len(list) > 0 && x.chance.Intn(4) == 0 {
		list = append(list, list[x.chance.Intn(len(list))])
	}
	return list
}

func (x groupRuns) text() string {
	return []string{"", "x", "\x00", "\xff\xfe", fmt.Sprint(x.chance.Intn(100000)), fmt.Sprint(x.chance.Intn(100000))}[x.chance.Intn(6)]
}

// leader is mostly one that leads, in whatever term.
func (x groupRuns) leader(p *plainGroup) int64 {
	if list := p.leaders(); len(list) > 0 && x.chance.Intn(12) > 0 {
		return list[x.chance.Intn(len(list))]
	}
	return x.chance.Int63n(int64(len(p.list)))
}

// wrong is an operation that has a fault in itself, or names one that there is not.
func (x groupRuns) wrong(members int64) impl.GroupOp {
	member, to := x.chance.Int63n(members), x.chance.Int63n(members)
	none := []int64{-1, members, members + 1, 9, 1 << 32, math.MaxInt64, math.MinInt64}[x.chance.Intn(7)]
	list := []impl.GroupOp{
		{Member: member, To: to, Text: "x"}, {Kind: 5, Member: member, To: to, Text: "x"}, {Kind: -1, Member: member}, {Kind: 1<<32 + 1, Member: member}, {Kind: math.MinInt64 + 2, Member: member, Text: "x"}, {Kind: 7, Member: none},
		grElect(none, to), grElect(member, none), grElect(member, to, none), grElect(member, none, to), grPropose(none, "x"), grPropose(member, times("x", 1001)), grCopy(none, to), grCopy(member, none), grCopy(none, none), grCopy(member, member), grCrash(none),
	}
	return list[x.chance.Intn(len(list))]
}

func (x groupRuns) op(p *plainGroup) impl.GroupOp {
	members := int64(len(p.list))
	switch kind := x.chance.Intn(100); {
	case kind < 16:
		peers := x.peers(members)
		if x.chance.Intn(3) > 0 {
			// Who leads does not hear of it, and goes on.
			peers = slices.DeleteFunc(peers, func(n int64) bool { return p.list[n].Leads })
		}
		return grElect(x.chance.Int63n(members), peers...)
	case kind < 43:
		return grPropose(x.leader(p), x.text())
	case kind < 87:
		to := x.chance.Int63n(members)
		if x.chance.Intn(6) == 0 {
			to = x.leader(p)
		}
		return grCopy(x.leader(p), to)
	case kind < 93:
		return grCrash(x.chance.Int63n(members))
	}
	return x.wrong(members)
}

// ops draws a run, each operation with an eye to what is led by whom then, and counts what is met in it.
func (x groupRuns) ops(count int, members int64, seen met) []impl.GroupOp {
	p := newPlainGroup(members)
	var ops []impl.GroupOp
	for range count {
		op := x.op(p)
		was := p.members()
		out := p.do(op)
		ops = append(ops, op)
		countMet(seen, was, p, op, out)
	}
	return ops
}

// countMet counts what an operation met, so that none of it is left out by chance.
func countMet(seen met, was []impl.Member, p *plainGroup, op impl.GroupOp, out impl.GroupOut) {
	seen[fmt.Sprintf("kind %d code %d", min(max(op.Kind, 0), 5), out.Code)]++
	if len(p.leaders()) > 1 {
		seen["two lead"]++
	}
	if p.isNone(op.Member) {
		return
	}
	own, now := was[op.Member], p.list[op.Member]
	switch {
	case op.Kind == impl.GrElect && out.Code == impl.OK:
		if slices.ContainsFunc(was, func(m impl.Member) bool { return m.Commit > 0 }) {
			seen["elected with something committed"]++
		}
		if len(now.Log) > 0 && now.Commit < int64(len(now.Log)) {
			seen["elected with something open"]++
		}
	case op.Kind == impl.GrElect && out.Code == impl.ErrState && slices.ContainsFunc(op.Peers, func(n int64) bool { return plainNewer(was[n].Log, own.Log) }):
		seen["refused by a newer log"]++
	case op.Kind == impl.GrCopy && out.Code == impl.OK:
		countMetCopy(seen, own, now, was[op.To], p.list[op.To])
	case op.Kind == impl.GrCrash && own.Leads:
		seen["a leader crashed"]++
	}
	if now.Commit > own.Commit {
		seen["committed"]++
	}
}

func countMetCopy(seen met, own, now, was, to impl.Member) {
	if len(to.Log) > len(now.Log) {
		seen["copied to a longer log"]++
	}
	if len(was.Log) > 0 && !slices.Equal(to.Log[:min(len(to.Log), len(was.Log))], was.Log[:min(len(to.Log), len(was.Log))]) {
		seen["cut"]++
	}
	if was.Leads {
		seen["an old leader is put down"]++
	}
	have := 0
	for _, match := range now.Match {
		if match > now.Commit {
			have++
		}
	}
	if have*2 > len(now.Match) {
		seen["half have an entry that does not count"]++
	}
	if now.Commit > own.Commit && now.Log[own.Commit].Term < now.Term {
		seen["older ones count with an own one"]++
	}
}

func TestP18LimitsAndKindsAsTheDocumentHasThem(t *testing.T) {
	got := []int{impl.MaxMembers, impl.MaxLog, impl.GrElect, impl.GrPropose, impl.GrCopy, impl.GrCrash}
	if !slices.Equal(got, []int{9, 500, 1, 2, 3, 4}) {
		t.Error(got)
	}
	// They go with numbers of any type.
	if small := uint8(1); small != impl.GrElect {
		t.Error(small)
	}
}

// A run whose answers and members are written out here.
func TestP18ARunAsKnown(t *testing.T) {
	members := checkGroupSteps(t, "known", 5, []grStep{
		{grElect(0, 1, 2), grOut(0, 3, 0)}, {grPropose(0, "a"), grOut(0, 0, 0)}, {grCopy(0, 1), grOut(0, 0, 0)}, {grCopy(0, 2), grOut(0, 0, 1)}, {grPropose(0, "b"), grOut(0, 0, 1)}, {grCopy(0, 1), grOut(0, 0, 1)},
		{grElect(3, 4), grOut(impl.ErrState, 2, 0)}, {grElect(3, 4, 2), grOut(impl.ErrState, 2, 0)}, {grElect(2, 3, 4), grOut(0, 3, 1)}, {grPropose(2, "c"), grOut(0, 0, 1)}, {grPropose(0, "d"), grOut(0, 0, 1)},
		{grCopy(2, 3), grOut(0, 0, 1)}, {grCopy(0, 1), grOut(0, 0, 1)}, {grCopy(0, 4), grOut(impl.ErrLate, 0, 1)}, {grCopy(0, 1), grOut(impl.ErrState, 0, 1)}, {grCopy(2, 0), grOut(0, 0, 2)}, {grCopy(2, 1), grOut(0, 0, 2)},
		{grCrash(2), grOut(0, 0, 0)}, {grPropose(2, "e"), grOut(impl.ErrState, 0, 0)}, {grElect(4, 0, 1, 2, 3), grOut(impl.ErrState, 1, 0)}, {grElect(3, 4, 2, 0), grOut(0, 4, 1)}, {grCopy(3, 4), grOut(0, 0, 1)}, {grCopy(3, 2), grOut(0, 0, 1)},
		{grPropose(3, "f"), grOut(0, 0, 1)}, {grCopy(3, 2), grOut(0, 0, 1)}, {grCopy(3, 4), grOut(0, 0, 3)},
	})
	want := []impl.Member{
		{Term: 5, Vote: 3, Commit: 2, Log: grLog("1a3c"), Match: []int64{3, 3, 1, 0, 0}},
		{Term: 4, Vote: -1, Commit: 2, Log: grLog("1a3c"), Match: []int64{0, 0, 0, 0, 0}},
		{Term: 5, Vote: 3, Commit: 1, Log: grLog("1a3c5f"), Match: []int64{0, 0, 0, 0, 0}},
		{Term: 5, Vote: 3, Leads: true, Commit: 3, Log: grLog("1a3c5f"), Match: []int64{0, 0, 3, 3, 3}},
		{Term: 5, Vote: 3, Commit: 3, Log: grLog("1a3c5f"), Match: []int64{0, 0, 0, 0, 0}},
	}
	if len(members) != len(want) {
		t.Fatal(len(members))
	}
	for i := range want {
		checkThatMember(t, fmt.Sprint("member ", i), members[i], want[i])
	}
}

func TestP18TheNewerLog(t *testing.T) {
	for _, c := range []struct {
		newer, older []impl.GroupEntry
	}{
		{grLog("1a"), nil}, {grLog("1a"), []impl.GroupEntry{}}, {grLog("2a"), grLog("1a")}, {grLog("2a"), grLog("1a1b1c")}, {grLog("1a2b"), grLog("1a1b1c1d")}, {grLog("1a3b"), grLog("2a2b2c")}, {grLog("1a1b"), grLog("1a")}, {grLog("1a1b"), grLog("1z")},
		{grLog("1a1b2c"), grLog("1a2c")}, {grLog("1a2b2c"), grLog("2a2b")}, {grLog("9a1b"), nil}, {grLog("1a9b"), grLog("9a8b")}, {grLog("2a"), grLog("9a1b")}, {grLog("0a"), nil}, {grLog("0a0b"), grLog("0a")},
		{nil, []impl.GroupEntry{{Term: -1}}}, {[]impl.GroupEntry{{Term: -1}}, []impl.GroupEntry{{Term: math.MinInt64}}}, {[]impl.GroupEntry{{Term: math.MaxInt64}}, []impl.GroupEntry{{Term: math.MinInt64}, {Term: math.MinInt64}}}, {nil, []impl.GroupEntry{{Term: 5}, {Term: math.MinInt64}}},
		{make([]impl.GroupEntry, impl.MaxLog), make([]impl.GroupEntry, impl.MaxLog-1)}, {grLog("1a"), make([]impl.GroupEntry, impl.MaxLog)}, {make([]impl.GroupEntry, impl.MaxLog+1), make([]impl.GroupEntry, impl.MaxLog)},
		{[]impl.GroupEntry{{Term: 2}}, []impl.GroupEntry{{Term: 1, Text: mixedBytes(impl.MaxBytes)}}}, {[]impl.GroupEntry{{Term: 1}, {Term: 1, Text: mixedBytes(impl.MaxBytes)}}, []impl.GroupEntry{{Term: 1}}},
	} {
		if !impl.NewerLog(c.newer, c.older) || impl.NewerLog(c.older, c.newer) {
			t.Errorf("%s and %s: %v and, the other way round, %v", shortly(c.newer), shortly(c.older), impl.NewerLog(c.newer, c.older), impl.NewerLog(c.older, c.newer))
		}
	}
	for _, c := range []struct {
		a, b []impl.GroupEntry
	}{
		{nil, nil}, {nil, []impl.GroupEntry{}}, {grLog("1a"), grLog("1a")}, {grLog("1a"), grLog("1b")}, {grLog("1a2b"), grLog("2c2d")}, {grLog("3a2b"), grLog("1c2d")}, {grLog("1a1b3c"), grLog("2a2b3d")}, {make([]impl.GroupEntry, impl.MaxLog), make([]impl.GroupEntry, impl.MaxLog)},
		{[]impl.GroupEntry{{Term: math.MinInt64}}, []impl.GroupEntry{{Term: math.MinInt64, Text: "x"}}},
	} {
		if impl.NewerLog(c.a, c.b) || impl.NewerLog(c.b, c.a) {
			t.Errorf("%s and %s: one is newer", shortly(c.a), shortly(c.b))
		}
	}
}

// A text that is too long is refused by every call, here with the zero answer.
func TestP18NoLogIsNewerWithATextThatIsTooLong(t *testing.T) {
	long := impl.GroupEntry{Term: 1, Text: times("x", impl.MaxBytes+1)}
	for name, log := range map[string][]impl.GroupEntry{
		"alone": {long}, "last": append(grLog("1a1b"), long), "first": append([]impl.GroupEntry{long}, grLog("1a5b")...), "within": append(append(grLog("1a"), long), grLog("2c")...),
	} {
		for _, other := range [][]impl.GroupEntry{nil, grLog("1a"), grLog("9a9b9c9d"), log} {
			if impl.NewerLog(log, other) || impl.NewerLog(other, log) {
				t.Errorf("%s: newer", name)
			}
		}
	}
}

// grLogs are all logs of few terms and up to three entries.
func grLogs() [][]impl.GroupEntry {
	logs := [][]impl.GroupEntry{nil}
	for at := 0; at < len(logs); at++ {
		if len(logs[at]) == 3 {
			break
		}
		for _, term := range []int64{-1, 0, 1, 2, 3} {
			logs = append(logs, append(slices.Clone(logs[at]), impl.GroupEntry{Term: term, Text: fmt.Sprint(at)}))
		}
	}
	return logs
}

// Of any two logs at most one is newer, and logs that are not newer than each other are alike against all others.
func TestP18NewerLogsStandInARow(t *testing.T) {
	logs := grLogs()
	for _, a := range logs {
		for _, b := range logs {
			ab, ba := impl.NewerLog(a, b), impl.NewerLog(b, a)
			if ab != plainNewer(a, b) || ab && ba {
				t.Fatalf("%v and %v: %v, %v", a, b, ab, ba)
			}
			for _, c := range logs[:60] {
				if ab && impl.NewerLog(b, c) && !impl.NewerLog(a, c) || !ab && !ba && impl.NewerLog(a, c) != impl.NewerLog(b, c) {
					t.Fatalf("%v, %v and %v stand in no row", a, b, c)
				}
			}
		}
	}
}

// Groups of any number, with leaders of old terms that go on.
func TestP18DrawnRunsAsThePlainWords(t *testing.T) {
	x := newGroupRuns(41)
	seen := met{}
	for i := range 1500 {
		members := 1 + x.chance.Int63n(impl.MaxMembers)
		checkGroup(t, fmt.Sprint("drawn ", i), members, x.ops(x.chance.Intn(200), members, seen))
	}
	seen.want(t, 20, "kind 0 code 1", "kind 5 code 1", "kind 1 code 0", "kind 1 code 1", "kind 1 code 6", "kind 2 code 0", "kind 2 code 1", "kind 2 code 2", "kind 2 code 6",
		"kind 3 code 0", "kind 3 code 1", "kind 3 code 6", "kind 3 code 13", "kind 4 code 0", "kind 4 code 1")
}

// The promise: what members tell as committed, now or at any two times, is the same as far as both go.
func TestP18WhatIsCommittedStands(t *testing.T) {
	x := newGroupRuns(43)
	seen := met{}
	for i := range 400 {
		members := 1 + int64(i)%impl.MaxMembers
		checkGroupAtEach(t, fmt.Sprint("drawn ", i), members, x.ops(120, members, seen), 1)
	}
	seen.want(t, 40, "two lead", "elected with something committed", "elected with something open", "refused by a newer log", "copied to a longer log", "cut", "an old leader is put down", "half have an entry that does not count",
		"older ones count with an own one", "a leader crashed", "committed")
}

// Few members, whose logs part most often.
func TestP18WhatIsCommittedStandsInSmallGroups(t *testing.T) {
	x := newGroupRuns(47)
	seen := met{}
	for i := range 1500 {
		checkGroupAtEach(t, fmt.Sprint("drawn ", i), 3+int64(i)%3, x.ops(60, 3+int64(i)%3, seen), 1)
	}
	seen.want(t, 200, "two lead", "elected with something open", "cut", "copied to a longer log", "half have an entry that does not count", "older ones count with an own one")
}

// reached is a state of a group, with the operations that lead to it and all that was told on the way.
type reached struct {
	ops []impl.GroupOp
	all history
}

func (h history) clone() history {
	leads := map[int64]int64{}
	for term, member := range h.leads {
		leads[term] = member
	}
	return history{told: slices.Clone(h.told), leads: leads}
}

// smallOps are all operations of a group that have no fault.
func smallOps(members int64) []impl.GroupOp {
	var ops []impl.GroupOp
	for member := range members {
		others := numbersBut(members, member)
		for set := range 1 << len(others) {
			var peers []int64
			for i, other := range others {
				if set>>i&1 == 1 {
					peers = append(peers, other)
				}
			}
			ops = append(ops, grElect(member, peers...))
		}
		ops = append(ops, grPropose(member, string(rune('a'+member))), grCrash(member))
		ops = append(ops, grCopyAll(members, member)...)
	}
	return ops
}

// exploreGroup goes through all that can be done with a group from the first state on, step by step, as far as so many
// states go.
func exploreGroup(t *testing.T, members int64, most int) {
	t.Helper()
	known := map[string]bool{}
	row := []reached{{all: *newHistory()}}
	ops := smallOps(members)
	for at := 0; at < len(row) && len(row) < most; at++ {
		for _, op := range ops {
			next := reached{ops: append(slices.Clone(row[at].ops), op), all: row[at].all.clone()}
			run, want := impl.RunGroup(members, next.ops), plainGroupRun(members, next.ops)
			if !sameGroup(run, want) {
				t.Fatalf("%s: %s, not %s", shortly(next.ops), shortly(run), shortly(want))
			}
			next.all.look(t, shortly(next.ops), run.Members)
			if key := fmt.Sprint(run.Members, next.all); !known[key] {
				known[key] = true
				row = append(row, next)
			}
		}
	}
	if len(row) < most {
		t.Errorf("%d members: only %d states", members, len(row))
	}
}

func TestP18AllThatCanBeDoneInFewSteps(t *testing.T) {
	exploreGroup(t, 1, 500)
	exploreGroup(t, 2, 6000)
	exploreGroup(t, 3, 20000)
}

// proposals are entries of a member, numbered.
func proposals(member int64, count int) []impl.GroupOp {
	var ops []impl.GroupOp
	for i := range count {
		ops = append(ops, grPropose(member, fmt.Sprint("entry ", i)))
	}
	return ops
}

// checkAllCommitted holds each member to have all entries of one, committed, in order.
func checkAllCommitted(t *testing.T, what string, run impl.GroupRun, count int) {
	t.Helper()
	for number, m := range run.Members {
		if m.Commit != int64(count) || len(m.Log) != count {
			t.Fatalf("%s: member %d tells %d of %d entries", what, number, m.Commit, len(m.Log))
		}
		for i, e := range m.Log {
			if e.Text != fmt.Sprint("entry ", i) || e.Term != m.Term {
				t.Fatalf("%s: member %d: entry %d is %s", what, number, i, shortly(e))
			}
		}
	}
}

// A group that elects a member with all others, which proposes and copies to all, commits all at each member. Who was
// copied to ahead of the one that makes it more than half hears of it with the next copy.
func TestP18AGroupThatIsWholeCommitsAll(t *testing.T) {
	for members := int64(1); members <= impl.MaxMembers; members++ {
		for leader := range members {
			ops := append([]impl.GroupOp{grElectAll(members, leader)}, proposals(leader, 7)...)
			ops = append(ops, grCopyAll(members, leader)...)
			what := fmt.Sprintf("%d members, %d leads", members, leader)
			once := checkGroupAtEach(t, what, members, ops, 1)
			if once.Outs[0] != grOut(0, members, 0) || once.Members[leader].Commit != 7 {
				t.Fatalf("%s: %+v", what, once.Outs)
			}
			for i, to := range numbersBut(members, leader) {
				if told := once.Members[to].Commit; (told == 7) != (2*(i+2) > int(members)) || told != 0 && told != 7 || len(once.Members[to].Log) != 7 {
					t.Errorf("%s: %d tells %d", what, to, told)
				}
			}
			twice := checkGroupAtEach(t, what, members, append(ops, grCopyAll(members, leader)...), 1)
			checkAllCommitted(t, what, twice, 7)
			for number, m := range twice.Members {
				match := make([]int64, members)
				for i := range match {
					if number == int(leader) {
						match[i] = 7
					}
				}
				if m.Leads != (number == int(leader)) || m.Vote != leader || m.Term != 1 || !slices.Equal(m.Match, match) {
					t.Errorf("%s: member %d is %s", what, number, shortly(m))
				}
			}
		}
	}
}

// After any run whatever, a member that is elected by all others, with an entry of its own, makes all logs the same and
// commits them.
func TestP18AnyGroupComesToAgree(t *testing.T) {
	x := newGroupRuns(53)
	agreed := 0
	for i := range 300 {
		members := 1 + x.chance.Int63n(impl.MaxMembers)
		ops := x.ops(100, members, met{})
		plain := plainGroupRun(members, ops).Members
		best := int64(0)
		for number := range members {
			if plainNewer(plain[number].Log, plain[best].Log) {
				best = number
			}
		}
		// One whose term is behind is elected once it has come so far.
		for range 200 {
			ops = append(ops, grElectAll(members, best))
			if run := impl.RunGroup(members, ops); run.Members[best].Leads && run.Outs[len(ops)-1].Votes == members {
				break
			}
		}
		ops = append(ops, grPropose(best, "the last"))
		ops = append(append(ops, grCopyAll(members, best)...), grCopyAll(members, best)...)
		run := checkGroup(t, fmt.Sprint("agreed ", i), members, ops)
		for number, m := range run.Members {
			if m.Commit != int64(len(m.Log)) || m.Term != run.Members[best].Term || m.Log[len(m.Log)-1].Text != "the last" || !slices.Equal(m.Log, run.Members[best].Log) {
				t.Fatalf("%d: member %d has %s", i, number, shortly(m))
			}
		}
		if len(run.Members[0].Log) > 1 {
			agreed++
		}
	}
	if agreed < 200 {
		t.Errorf("only %d runs had anything to agree on", agreed)
	}
}

// Just half of the members is too few, one more is enough.
func TestP18MoreThanHalfVote(t *testing.T) {
	for members := int64(1); members <= impl.MaxMembers; members++ {
		for peers := range members {
			op := grElect(0, numbersBut(members, 0)[:peers]...)
			code := int64(impl.OK)
			if peers+1 <= members/2 {
				code = impl.ErrState
			}
			got := checkGroupSteps(t, fmt.Sprintf("%d of %d", peers+1, members), members, []grStep{{op, grOut(code, peers+1, 0)}, {grPropose(0, "x"), grOut(code, 0, map[bool]int64{true: 1}[members == 1])}})
			for number, m := range got {
				asked := number <= int(peers)
				if m.Term == 1 != asked || m.Vote == 0 != asked || m.Leads != (number == 0 && code == impl.OK) {
					t.Errorf("%d of %d: member %d is %s", peers+1, members, number, shortly(m))
				}
			}
		}
	}
}

func TestP18MoreThanHalfMatch(t *testing.T) {
	for members := int64(2); members <= impl.MaxMembers; members++ {
		ops := []impl.GroupOp{grElectAll(members, 0), grPropose(0, "a"), grPropose(0, "b")}
		for to := int64(1); to < members; to++ {
			ops = append(ops, grCopy(0, to))
			run := checkGroupAtEach(t, fmt.Sprintf("%d of %d", to+1, members), members, ops, 1)
			want := int64(0)
			if to+1 > members/2 {
				want = 2
			}
			if run.Outs[len(ops)-1].Commit != want || run.Members[0].Commit != want || run.Members[to].Commit != want {
				t.Errorf("%d of %d have it: %s", to+1, members, shortly(run.Members))
			}
			// The same one again is no other one.
			again := impl.RunGroup(members, append(slices.Clone(ops), grCopy(0, to), grCopy(0, to)))
			if !sameMembers(again.Members, run.Members) {
				t.Errorf("%d of %d have it: another copy changes %s", to+1, members, shortly(again.Members))
			}
		}
	}
}

// Members that have different lengths of a log commit the greatest one that more than half of them have.
func TestP18TheGreatestThatMoreThanHalfHaveIsCommitted(t *testing.T) {
	checkGroupSteps(t, "five", 5, []grStep{
		{grElectAll(5, 2), grOut(0, 5, 0)}, {grPropose(2, "a"), grOut(0, 0, 0)}, {grCopy(2, 0), grOut(0, 0, 0)}, {grPropose(2, "b"), grOut(0, 0, 0)}, {grCopy(2, 1), grOut(0, 0, 1)}, {grPropose(2, "c"), grOut(0, 0, 1)}, {grCopy(2, 3), grOut(0, 0, 2)},
		{grPropose(2, "d"), grOut(0, 0, 2)}, {grCopy(2, 4), grOut(0, 0, 3)}, {grCopy(2, 0), grOut(0, 0, 4)}, {grPropose(2, "e"), grOut(0, 0, 4)}, {grPropose(0, "f"), grOut(impl.ErrState, 0, 4)}, {grPropose(1, "f"), grOut(impl.ErrState, 0, 1)}, {grPropose(3, "f"), grOut(impl.ErrState, 0, 2)}, {grPropose(4, "f"), grOut(impl.ErrState, 0, 3)},
	})
	checkGroupSteps(t, "four", 4, []grStep{
		{grElectAll(4, 0), grOut(0, 4, 0)}, {grPropose(0, "a"), grOut(0, 0, 0)}, {grCopy(0, 1), grOut(0, 0, 0)}, {grPropose(0, "b"), grOut(0, 0, 0)}, {grCopy(0, 2), grOut(0, 0, 1)}, {grCopy(0, 3), grOut(0, 0, 2)}, {grPropose(0, "c"), grOut(0, 0, 2)}, {grCopy(0, 1), grOut(0, 0, 2)}, {grCopy(0, 1), grOut(0, 0, 2)}, {grCopy(0, 3), grOut(0, 0, 3)},
	})
	members := checkGroupSteps(t, "one", 1, []grStep{
		{grElect(0), grOut(0, 1, 0)}, {grPropose(0, "a"), grOut(0, 0, 1)}, {grPropose(0, "b"), grOut(0, 0, 2)}, {grCrash(0), grOut(0, 0, 0)}, {grPropose(0, "c"), grOut(impl.ErrState, 0, 0)}, {grElect(0, 0, 0), grOut(0, 1, 0)}, {grCopy(0, 0), grOut(impl.ErrForm, 0, 0)}, {grCopy(0, 1), grOut(impl.ErrForm, 0, 0)},
		{grPropose(0, "c"), grOut(0, 0, 3)}, {grElect(0), grOut(0, 1, 3)},
	})
	checkThatMember(t, "one", members[0], impl.Member{Term: 3, Vote: 0, Leads: true, Commit: 3, Log: grLog("1a1b2c"), Match: []int64{3}})
}

// An entry of an older term that more than half of the members have may still go. It counts only with an own one of the
// leader's behind it, and stands then.
func TestP18EntriesOfAnOlderTerm(t *testing.T) {
	ahead := []grStep{
		{grElect(0, 1, 2), grOut(0, 3, 0)}, {grPropose(0, "a"), grOut(0, 0, 0)}, {grCopy(0, 1), grOut(0, 0, 0)}, {grElect(4, 2, 3), grOut(impl.ErrState, 2, 0)}, {grElect(4, 2, 3), grOut(0, 3, 0)}, {grPropose(4, "b"), grOut(0, 0, 0)},
		{grElect(0, 1, 2), grOut(impl.ErrState, 2, 0)}, {grElect(0, 1, 2), grOut(0, 3, 0)}, {grCopy(0, 2), grOut(0, 0, 0)}, {grCopy(0, 1), grOut(0, 0, 0)},
	}
	members := checkGroupSteps(t, "three have it", 5, ahead)
	checkLogs(t, "three have it", members, "1a", "1a", "1a", "", "2b")
	if !slices.Equal(members[0].Match, []int64{1, 1, 1, 0, 0}) || members[0].Commit != 0 {
		t.Errorf("%s", shortly(members[0]))
	}
	gone := checkGroupSteps(t, "it goes", 5, append(slices.Clone(ahead), []grStep{
		{grElect(4, 1, 2, 3), grOut(impl.ErrState, 2, 0)}, {grElect(4, 1, 2, 3), grOut(0, 4, 0)}, {grCopy(4, 1), grOut(0, 0, 0)}, {grCopy(4, 2), grOut(0, 0, 0)}, {grPropose(4, "c"), grOut(0, 0, 0)}, {grCopy(4, 2), grOut(0, 0, 0)}, {grCopy(4, 0), grOut(0, 0, 2)}, {grCopy(4, 1), grOut(0, 0, 2)},
	}...))
	checkLogs(t, "it goes", gone, "2b4c", "2b4c", "2b4c", "", "2b4c")
	stands := checkGroupSteps(t, "it stands", 5, append(slices.Clone(ahead), []grStep{
		{grPropose(0, "c"), grOut(0, 0, 0)}, {grCopy(0, 1), grOut(0, 0, 0)}, {grCopy(0, 2), grOut(0, 0, 2)}, {grElect(4, 1, 2, 3), grOut(impl.ErrState, 2, 0)}, {grElect(4, 1, 2, 3), grOut(impl.ErrState, 2, 0)}, {grElect(3, 0, 1, 2, 4), grOut(impl.ErrState, 1, 0)}, {grElect(1, 2, 3, 4), grOut(0, 4, 0)}, {grCopy(1, 4), grOut(0, 0, 0)}, {grPropose(1, "d"), grOut(0, 0, 0)}, {grCopy(1, 4), grOut(0, 0, 0)}, {grCopy(1, 3), grOut(0, 0, 3)},
	}...))
	checkLogs(t, "it stands", stands, "1a3c", "1a3c6d", "1a3c", "1a3c6d", "1a3c6d")
}

// Logs that part are made the same by copying: what differs goes, and all behind it.
func TestP18LogsThatPartAreMadeTheSame(t *testing.T) {
	// Three leaders, of which each has what no other has.
	ahead := []grStep{
		{grElectAll(5, 0), grOut(0, 5, 0)}, {grPropose(0, "a"), grOut(0, 0, 0)}, {grCopy(0, 1), grOut(0, 0, 0)}, {grCopy(0, 2), grOut(0, 0, 1)}, {grPropose(0, "b"), grOut(0, 0, 1)}, {grPropose(0, "c"), grOut(0, 0, 1)}, {grPropose(0, "d"), grOut(0, 0, 1)},
		{grElect(1, 2, 3, 4), grOut(0, 4, 0)}, {grPropose(1, "e"), grOut(0, 0, 0)}, {grPropose(1, "f"), grOut(0, 0, 0)}, {grCopy(1, 4), grOut(0, 0, 0)}, {grElect(4, 2, 3), grOut(0, 3, 0)}, {grPropose(4, "g"), grOut(0, 0, 0)}, {grPropose(1, "h"), grOut(0, 0, 0)},
	}
	parted := checkGroupSteps(t, "parted", 5, ahead)
	checkLogs(t, "parted", parted, "1a1b1c1d", "1a2e2f2h", "1a", "", "1a2e2f3g")
	if !parted[0].Leads || !parted[1].Leads || !parted[4].Leads {
		t.Errorf("%s", shortly(parted))
	}
	whole := checkGroupSteps(t, "whole", 5, append(ahead, []grStep{
		{grCopy(4, 1), grOut(0, 0, 0)}, {grCopy(4, 0), grOut(0, 0, 4)}, {grCopy(4, 3), grOut(0, 0, 4)}, {grCopy(4, 2), grOut(0, 0, 4)}, {grCopy(4, 1), grOut(0, 0, 4)}, {grCopy(0, 1), grOut(impl.ErrState, 0, 4)}, {grCopy(1, 0), grOut(impl.ErrState, 0, 4)},
	}...))
	checkLogs(t, "whole", whole, "1a2e2f3g", "1a2e2f3g", "1a2e2f3g", "1a2e2f3g", "1a2e2f3g")
	for number, m := range whole {
		if m.Commit != 4 || m.Term != 3 || m.Leads != (number == 4) {
			t.Errorf("whole: member %d is %s", number, shortly(m))
		}
	}
}

// What To has beyond Member's log stays, as long as the logs do not part, and counts for nothing.
func TestP18ALogThatIsLonger(t *testing.T) {
	ahead := []grStep{
		{grElectAll(3, 0), grOut(0, 3, 0)}, {grPropose(0, "a"), grOut(0, 0, 0)}, {grCopy(0, 1), grOut(0, 0, 1)}, {grPropose(0, "b"), grOut(0, 0, 1)}, {grPropose(0, "c"), grOut(0, 0, 1)}, {grElect(1, 2), grOut(0, 2, 1)}, {grCopy(1, 0), grOut(0, 0, 1)}, {grCopy(1, 2), grOut(0, 0, 1)},
	}
	longer := checkGroupSteps(t, "longer", 3, ahead)
	checkThatMember(t, "longer", longer[0], impl.Member{Term: 2, Vote: -1, Commit: 1, Log: grLog("1a1b1c"), Match: []int64{3, 1, 0}})
	checkThatMember(t, "shorter", longer[1], impl.Member{Term: 2, Vote: 1, Leads: true, Commit: 1, Log: grLog("1a"), Match: []int64{1, 1, 1}})
	checkThatMember(t, "none", longer[2], impl.Member{Term: 2, Vote: 1, Commit: 1, Log: grLog("1a"), Match: []int64{0, 0, 0}})
	same := checkGroupSteps(t, "cut", 3, append(ahead, grStep{grPropose(1, "d"), grOut(0, 0, 1)}, grStep{grCopy(1, 0), grOut(0, 0, 2)}, grStep{grCopy(1, 2), grOut(0, 0, 2)}))
	checkLogs(t, "cut", same, "1a2d", "1a2d", "1a2d")
}

// An empty log on either side, or on both.
func TestP18LogsThatAreEmpty(t *testing.T) {
	members := checkGroupSteps(t, "both", 3, []grStep{{grElect(0, 1), grOut(0, 2, 0)}, {grCopy(0, 1), grOut(0, 0, 0)}, {grCopy(0, 2), grOut(0, 0, 0)}, {grElect(2, 0, 1), grOut(0, 3, 0)}, {grCopy(2, 0), grOut(0, 0, 0)}})
	checkThatMember(t, "both", members[2], impl.Member{Term: 2, Vote: 2, Leads: true, Match: []int64{0, 0, 0}})
	ahead := []grStep{{grElect(0, 1), grOut(0, 2, 0)}, {grPropose(0, "a"), grOut(0, 0, 0)}, {grPropose(0, "b"), grOut(0, 0, 0)}, {grElect(1, 2), grOut(0, 2, 0)}, {grCopy(1, 0), grOut(0, 0, 0)}}
	members = checkGroupSteps(t, "Member's", 3, ahead)
	checkLogs(t, "Member's", members, "1a1b", "", "")
	if !slices.Equal(members[1].Match, []int64{0, 0, 0}) {
		t.Errorf("%s", shortly(members[1]))
	}
	members = checkGroupSteps(t, "all of it goes", 3, append(slices.Clone(ahead), grStep{grPropose(1, "c"), grOut(0, 0, 0)}, grStep{grCopy(1, 0), grOut(0, 0, 1)}, grStep{grCopy(1, 2), grOut(0, 0, 1)}))
	checkLogs(t, "all of it goes", members, "2c", "2c", "2c")
	members = checkGroupSteps(t, "To's", 3, append(slices.Clone(ahead), grStep{grElect(0, 2), grOut(0, 2, 0)}, grStep{grCopy(0, 2), grOut(0, 0, 0)}, grStep{grCopy(0, 1), grOut(0, 0, 0)}, grStep{grPropose(0, "d"), grOut(0, 0, 0)}, grStep{grCopy(0, 1), grOut(0, 0, 3)}))
	checkLogs(t, "To's", members, "1a1b3d", "1a1b3d", "1a1b")
}

func TestP18ATermThatIsBelowTheSameAndAbove(t *testing.T) {
	ahead := []grStep{{grElect(3, 4), grOut(impl.ErrState, 2, 0)}, {grElect(0, 1, 2), grOut(0, 3, 0)}, {grPropose(0, "a"), grOut(0, 0, 0)}, {grCopy(0, 3), grOut(0, 0, 0)}, {grCopy(0, 4), grOut(0, 0, 1)}, {grCopy(0, 1), grOut(0, 0, 1)}}
	same := checkGroupSteps(t, "the same", 5, ahead)
	for number, want := range []impl.Member{
		{Term: 1, Vote: 0, Leads: true, Commit: 1, Log: grLog("1a"), Match: []int64{1, 1, 0, 1, 1}}, {Term: 1, Vote: 0, Commit: 1, Log: grLog("1a"), Match: make([]int64, 5)}, {Term: 1, Vote: 0, Match: make([]int64, 5)},
		{Term: 1, Vote: 3, Log: grLog("1a"), Match: make([]int64, 5)}, {Term: 1, Vote: 3, Commit: 1, Log: grLog("1a"), Match: make([]int64, 5)},
	} {
		checkThatMember(t, fmt.Sprint("the same: ", number), same[number], want)
	}
	ahead = append(ahead, grStep{grElect(0, 1, 2), grOut(0, 3, 1)}, grStep{grCopy(0, 3), grOut(0, 0, 1)})
	below := checkGroupSteps(t, "below", 5, ahead)
	checkThatMember(t, "below", below[3], impl.Member{Term: 2, Vote: -1, Commit: 1, Log: grLog("1a"), Match: make([]int64, 5)})
	checkThatMember(t, "below, Member", below[0], impl.Member{Term: 2, Vote: 0, Leads: true, Commit: 1, Log: grLog("1a"), Match: []int64{1, 0, 0, 1, 0}})
	ahead = append(ahead, grStep{grPropose(0, "b"), grOut(0, 0, 1)}, grStep{grElect(4), grOut(impl.ErrState, 1, 1)}, grStep{grElect(4), grOut(impl.ErrState, 1, 1)}, grStep{grCopy(0, 4), grOut(impl.ErrLate, 0, 1)})
	above := checkGroupSteps(t, "above", 5, ahead)
	checkThatMember(t, "above", above[4], impl.Member{Term: 3, Vote: 4, Commit: 1, Log: grLog("1a"), Match: make([]int64, 5)})
	checkThatMember(t, "above, Member", above[0], impl.Member{Term: 3, Vote: -1, Commit: 1, Log: grLog("1a2b"), Match: []int64{2, 0, 0, 1, 0}})
	// It votes in its new term, as it has not yet: here for one whose log is not older.
	checkGroupSteps(t, "behind it", 5, append(ahead, grStep{grPropose(0, "c"), grOut(impl.ErrState, 0, 1)}, grStep{grCopy(0, 4), grOut(impl.ErrState, 0, 1)}, grStep{grElect(0, 1, 2), grOut(0, 3, 1)}, grStep{grCopy(0, 4), grOut(0, 0, 1)}))
	voted := checkGroupSteps(t, "a vote", 3, []grStep{{grElect(0, 1), grOut(0, 2, 0)}, {grElect(2), grOut(impl.ErrState, 1, 0)}, {grElect(2), grOut(impl.ErrState, 1, 0)}, {grCopy(0, 2), grOut(impl.ErrLate, 0, 0)}, {grElect(1, 0), grOut(0, 2, 0)}, {grElect(2, 0), grOut(0, 2, 0)}})
	checkThatMember(t, "a vote", voted[0], impl.Member{Term: 3, Vote: 2, Match: []int64{0, 0, 0}})
}

func TestP18WhoIsAsked(t *testing.T) {
	for name, c := range map[string]struct {
		peers []int64
		out   impl.GroupOut
	}{
		"none":            {nil, grOut(impl.ErrState, 1, 0)},
		"itself":          {[]int64{0}, grOut(impl.ErrState, 1, 0)},
		"itself, often":   {[]int64{0, 0, 0, 0, 0}, grOut(impl.ErrState, 1, 0)},
		"one":             {[]int64{3}, grOut(impl.ErrState, 2, 0)},
		"one twice":       {[]int64{3, 3}, grOut(impl.ErrState, 2, 0)},
		"one often":       {[]int64{3, 0, 3, 3, 0, 3, 3}, grOut(impl.ErrState, 2, 0)},
		"two":             {[]int64{3, 1}, grOut(0, 3, 0)},
		"two, turned":     {[]int64{1, 3}, grOut(0, 3, 0)},
		"two and itself":  {[]int64{0, 4, 0, 2, 0}, grOut(0, 3, 0)},
		"two, twice each": {[]int64{4, 2, 2, 4}, grOut(0, 3, 0)},
		"all":             {[]int64{4, 3, 2, 1}, grOut(0, 5, 0)},
		"all and itself":  {[]int64{0, 1, 2, 3, 4}, grOut(0, 5, 0)},
		"all twice":       {[]int64{1, 2, 3, 4, 0, 4, 3, 2, 1, 0}, grOut(0, 5, 0)},
		"very often":      {slices.Repeat([]int64{1, 2, 0}, 30000), grOut(0, 3, 0)},
	} {
		got := checkGroupSteps(t, name, 5, []grStep{{grElect(0, c.peers...), c.out}})
		for number, m := range got {
			want := impl.Member{Vote: -1, Match: make([]int64, 5)}
			if number == 0 || slices.Contains(c.peers, int64(number)) {
				want.Term, want.Vote = 1, 0
			}
			want.Leads = number == 0 && c.out.Code == impl.OK
			checkThatMember(t, fmt.Sprint(name, ": member ", number), m, want)
		}
	}
}

func TestP18WhoVotes(t *testing.T) {
	for name, steps := range map[string][]grStep{
		"who has voted for another one":        {{grElect(0, 1), grOut(0, 2, 0)}, {grElect(2, 1), grOut(impl.ErrState, 1, 0)}, {grElect(2, 1), grOut(0, 2, 0)}},
		"a candidate":                          {{grElect(0, 1), grOut(0, 2, 0)}, {grElect(2, 0), grOut(impl.ErrState, 1, 0)}, {grPropose(0, "a"), grOut(0, 0, 0)}},
		"who has voted for it in the last one": {{grElect(0, 1), grOut(0, 2, 0)}, {grElect(0, 1), grOut(0, 2, 0)}, {grElect(0, 1, 1), grOut(0, 2, 0)}},
		"who has come further":                 {{grElect(1), grOut(impl.ErrState, 1, 0)}, {grElect(1), grOut(impl.ErrState, 1, 0)}, {grElect(0, 1), grOut(impl.ErrState, 1, 0)}, {grElect(0, 1), grOut(impl.ErrState, 1, 0)}, {grElect(0, 1), grOut(0, 2, 0)}},
		"who came into the term by a copy":     {{grElect(0, 1), grOut(0, 2, 0)}, {grCopy(0, 2), grOut(0, 0, 0)}, {grElect(1, 2), grOut(0, 2, 0)}, {grElect(0, 2), grOut(impl.ErrState, 1, 0)}, {grElect(2, 1), grOut(0, 2, 0)}},
		"who has crashed":                      {{grElect(0, 1), grOut(0, 2, 0)}, {grCrash(1), grOut(0, 0, 0)}, {grElect(2, 1), grOut(impl.ErrState, 1, 0)}, {grCrash(0), grOut(0, 0, 0)}, {grElect(2, 0), grOut(0, 2, 0)}},
		"who has a longer log":                 {{grElect(0, 1), grOut(0, 2, 0)}, {grPropose(0, "a"), grOut(0, 0, 0)}, {grPropose(0, "b"), grOut(0, 0, 0)}, {grCopy(0, 1), grOut(0, 0, 2)}, {grElect(2, 1, 0), grOut(impl.ErrState, 1, 0)}, {grElect(2, 1, 0), grOut(impl.ErrState, 1, 0)}, {grElect(1, 0, 2), grOut(0, 3, 2)}},
		"who has a shorter log":                {{grElect(0, 1), grOut(0, 2, 0)}, {grPropose(0, "a"), grOut(0, 0, 0)}, {grCopy(0, 1), grOut(0, 0, 1)}, {grPropose(0, "b"), grOut(0, 0, 1)}, {grElect(1, 0), grOut(impl.ErrState, 1, 1)}, {grElect(0, 1), grOut(0, 2, 1)}},
		"who has the same log":                 {{grElect(0, 1), grOut(0, 2, 0)}, {grPropose(0, "a"), grOut(0, 0, 0)}, {grCopy(0, 1), grOut(0, 0, 1)}, {grElect(1, 0), grOut(0, 2, 1)}},
		"who has a shorter log of a later term": {{grElect(0, 1), grOut(0, 2, 0)}, {grPropose(0, "a"), grOut(0, 0, 0)}, {grPropose(0, "b"), grOut(0, 0, 0)}, {grElect(1, 2), grOut(0, 2, 0)}, {grPropose(1, "c"), grOut(0, 0, 0)},
			{grElect(0, 1), grOut(impl.ErrState, 1, 0)}, {grElect(0, 1), grOut(impl.ErrState, 1, 0)}, {grElect(0, 1), grOut(impl.ErrState, 1, 0)}, {grElect(1, 0), grOut(0, 2, 0)}},
	} {
		checkGroupSteps(t, name, 3, steps)
	}
}

// A leader that hears of a later term leads no more, even if it does not vote; so does one that stands again and loses.
func TestP18WhoLeadsNoMore(t *testing.T) {
	ahead := []grStep{{grElectAll(3, 0), grOut(0, 3, 0)}, {grPropose(0, "a"), grOut(0, 0, 0)}, {grCopy(0, 1), grOut(0, 0, 1)}}
	asked := checkGroupSteps(t, "asked", 3, append(slices.Clone(ahead), grStep{grElect(2, 0), grOut(impl.ErrState, 1, 0)}, grStep{grPropose(0, "b"), grOut(impl.ErrState, 0, 1)}, grStep{grCopy(0, 1), grOut(impl.ErrState, 0, 1)}))
	checkThatMember(t, "asked", asked[0], impl.Member{Term: 2, Vote: -1, Commit: 1, Log: grLog("1a"), Match: []int64{1, 1, 0}})
	checkThatMember(t, "who asked", asked[2], impl.Member{Term: 2, Vote: 2, Match: []int64{0, 0, 0}})
	again := checkGroupSteps(t, "stands again", 3, append(slices.Clone(ahead), grStep{grElect(0), grOut(impl.ErrState, 1, 1)}, grStep{grPropose(0, "b"), grOut(impl.ErrState, 0, 1)}))
	checkThatMember(t, "stands again", again[0], impl.Member{Term: 2, Vote: 0, Commit: 1, Log: grLog("1a"), Match: []int64{1, 1, 0}})
	// Behind a new election nothing is known of the others any more.
	wins := checkGroupSteps(t, "wins again", 3, append(slices.Clone(ahead), grStep{grPropose(0, "b"), grOut(0, 0, 1)}, grStep{grElect(0, 1), grOut(0, 2, 1)}, grStep{grPropose(0, "c"), grOut(0, 0, 1)}))
	checkThatMember(t, "wins again", wins[0], impl.Member{Term: 2, Vote: 0, Leads: true, Commit: 1, Log: grLog("1a1b2c"), Match: []int64{3, 0, 0}})
	copied := checkGroupSteps(t, "copied to", 3, append(slices.Clone(ahead), grStep{grElect(1, 2), grOut(0, 2, 1)}, grStep{grCopy(1, 0), grOut(0, 0, 1)}, grStep{grPropose(0, "b"), grOut(impl.ErrState, 0, 1)}))
	checkThatMember(t, "copied to", copied[0], impl.Member{Term: 2, Vote: -1, Commit: 1, Log: grLog("1a"), Match: []int64{1, 1, 0}})
}

// A crash takes what a member knew of the others and of what is committed, and leaves its term, its vote and its log.
func TestP18Crashes(t *testing.T) {
	ahead := []grStep{{grElectAll(3, 0), grOut(0, 3, 0)}, {grPropose(0, "a"), grOut(0, 0, 0)}, {grCopy(0, 1), grOut(0, 0, 1)}, {grPropose(0, "b"), grOut(0, 0, 1)}, {grCopy(0, 2), grOut(0, 0, 2)}, {grCrash(0), grOut(0, 0, 0)}, {grCrash(2), grOut(0, 0, 0)}}
	members := checkGroupSteps(t, "crashed", 3, ahead)
	checkThatMember(t, "a leader", members[0], impl.Member{Term: 1, Vote: 0, Log: grLog("1a1b"), Match: []int64{0, 0, 0}})
	checkThatMember(t, "another one", members[1], impl.Member{Term: 1, Vote: 0, Commit: 1, Log: grLog("1a"), Match: []int64{0, 0, 0}})
	checkThatMember(t, "one that has all", members[2], impl.Member{Term: 1, Vote: 0, Log: grLog("1a1b"), Match: []int64{0, 0, 0}})
	// What was told as committed is told again, and one that lacks it is not elected.
	later := checkGroupSteps(t, "later", 3, append(ahead, []grStep{
		{grPropose(0, "c"), grOut(impl.ErrState, 0, 0)}, {grCopy(0, 1), grOut(impl.ErrState, 0, 0)}, {grElect(1, 0, 2), grOut(impl.ErrState, 1, 1)}, {grElect(2, 1, 0), grOut(0, 3, 0)}, {grCopy(2, 1), grOut(0, 0, 0)},
		{grCrash(2), grOut(0, 0, 0)}, {grElect(0, 1), grOut(0, 2, 0)}, {grCopy(0, 1), grOut(0, 0, 0)}, {grPropose(0, "d"), grOut(0, 0, 0)}, {grCopy(0, 1), grOut(0, 0, 3)}, {grCopy(0, 2), grOut(0, 0, 3)},
	}...))
	checkLogs(t, "later", later, "1a1b4d", "1a1b4d", "1a1b4d")
	first := checkGroupSteps(t, "at first", 2, []grStep{{grCrash(0), grOut(0, 0, 0)}, {grCrash(0), grOut(0, 0, 0)}, {grCrash(1), grOut(0, 0, 0)}})
	checkThatMember(t, "at first", first[0], impl.Member{Vote: -1, Match: []int64{0, 0}})
}

// grFull is a group of three whose leader has a log with room for so many entries, of which none is committed.
func grFull(room int) []impl.GroupOp {
	return append([]impl.GroupOp{grElectAll(3, 0)}, proposals(0, impl.MaxLog-room)...)
}

func TestP18ALogWithAllItsEntries(t *testing.T) {
	ops := append(grFull(1), grPropose(0, "entry 499"))
	if run := checkGroup(t, "the last", 3, ops); run.Outs[impl.MaxLog] != grOut(0, 0, 0) || len(run.Members[0].Log) != impl.MaxLog {
		t.Errorf("%+v, %d entries", run.Outs[impl.MaxLog], len(run.Members[0].Log))
	}
	checkRefusedInGroup(t, "full", 3, ops, grPropose(0, "x"), impl.ErrFull)
	checkRefusedInGroup(t, "full", 3, ops, grPropose(0, ""), impl.ErrFull)
	checkRefusedInGroup(t, "full, and too long", 3, ops, grPropose(0, times("x", 1001)), impl.ErrFull)
	checkRefusedInGroup(t, "room for one, but too long", 3, grFull(1), grPropose(0, times("x", 1001)), impl.ErrSize)
	checkRefusedInGroup(t, "another one", 3, ops, grPropose(1, "x"), impl.ErrState)
	copied := append(slices.Clone(ops), grCopy(0, 1), grCopy(0, 2), grCopy(0, 1))
	run := checkGroup(t, "copied", 3, copied)
	if !slices.Equal(run.Outs[len(ops):], []impl.GroupOut{grOut(0, 0, 500), grOut(0, 0, 500), grOut(0, 0, 500)}) {
		t.Errorf("%+v", run.Outs[len(ops):])
	}
	checkAllCommitted(t, "copied", run, impl.MaxLog)
	checkRefusedInGroup(t, "copied", 3, copied, grPropose(0, "x"), impl.ErrFull)
	// A log that is full can be led with, but no entry of its own comes behind those of an older term.
	old := append(slices.Clone(ops), grCopy(0, 1), grCrash(0), grCrash(1), grElect(1, 2, 0), grCopy(1, 0), grCopy(1, 2))
	run = checkGroup(t, "an older term", 3, old)
	if !slices.Equal(run.Outs[len(ops):], []impl.GroupOut{grOut(0, 0, 500), {}, {}, grOut(0, 3, 0), {}, {}}) || !slices.Equal(run.Members[1].Match, []int64{500, 500, 500}) {
		t.Errorf("%+v, %s", run.Outs[len(ops):], shortly(run.Members[1].Match))
	}
	checkRefusedInGroup(t, "an older term", 3, old, grPropose(1, "x"), impl.ErrFull)
	// A full log that parts from a shorter one becomes that one.
	cut := checkGroup(t, "cut", 3, append(slices.Clone(ops), grElect(1, 2), grPropose(1, "b"), grCopy(1, 0)))
	checkLogs(t, "cut", cut.Members, "2b", "2b", "")
}

// Logs that are nearly full.
func TestP18DrawnRunsWithFullLogs(t *testing.T) {
	x := newGroupRuns(59)
	full := 0
	for i := range 30 {
		members := 2 + x.chance.Int63n(4)
		ahead := append([]impl.GroupOp{grElectAll(members, 0)}, proposals(0, impl.MaxLog-x.chance.Intn(8))...)
		ahead = append(ahead, grCopyAll(members, 0)...)
		p := newPlainGroup(members)
		for _, op := range ahead {
			p.do(op)
		}
		ops := ahead
		for range 150 {
			op := x.op(p)
			if p.do(op).Code == impl.ErrFull {
				full++
			}
			ops = append(ops, op)
		}
		checkGroupAtEach(t, fmt.Sprint("full ", i), members, ops, 20)
	}
	if full < 100 {
		t.Errorf("only %d proposals to a full log", full)
	}
}

func TestP18TextsOfAnyLength(t *testing.T) {
	ahead := []impl.GroupOp{grElectAll(3, 0), grPropose(0, "first"), grCopy(0, 1)}
	texts := []string{"", "x", "\x00", "\xff\xfe\x00", allBytes(), mixedBytes(999), mixedBytes(1000)}
	ops := slices.Clone(ahead)
	for _, text := range texts {
		ops = append(ops, grPropose(0, text))
	}
	ops = append(ops, grCopy(0, 1), grCopy(0, 2), grCopy(0, 1))
	run := checkGroupAtEach(t, "texts", 3, ops, 1)
	for number, m := range run.Members {
		if len(m.Log) != len(texts)+1 || m.Commit != int64(len(texts)+1) {
			t.Fatalf("member %d: %s", number, shortly(m))
		}
		for i, text := range texts {
			if m.Log[i+1] != (impl.GroupEntry{Term: 1, Text: text}) {
				t.Errorf("member %d: %s, not %s", number, shortly(m.Log[i+1]), shortly(text))
			}
		}
	}
	for _, size := range []int{1001, 1002, 2000, 65536, impl.MaxBytes, impl.MaxBytes + 1, 4*impl.MaxBytes + 1} {
		checkRefusedInGroup(t, fmt.Sprint(size, " bytes"), 3, ahead, grPropose(0, times("x", size)), impl.ErrSize)
		checkRefusedInGroup(t, fmt.Sprint(size, " bytes, by another one"), 3, ahead, grPropose(1, times("x", size)), impl.ErrState)
		checkRefusedInGroup(t, fmt.Sprint(size, " bytes, by none"), 3, ahead, grPropose(3, times("x", size)), impl.ErrForm)
	}
}

// What an operation does not name plays no part, whatever stands there.
func TestP18WhatAnOperationDoesNotNamePlaysNoPart(t *testing.T) {
	ops := []impl.GroupOp{grElect(0, 1), grPropose(0, "a"), grCopy(0, 1), grPropose(0, "b"), grElect(1, 2), grPropose(1, "c"), grCopy(0, 1), grCopy(1, 0), grCopy(1, 2), grCrash(1), grCopy(1, 2), grElect(2, 1), grPropose(2, "d"), grCopy(2, 1), grCrash(0), grElect(0, 1)}
	want := checkGroupAtEach(t, "as named", 3, ops, 1)
	for name, junk := range map[string]impl.GroupOp{
		"small":   {To: 1, Peers: []int64{0, 1, 2}, Text: "junk"},
		"wrong":   {To: -1, Peers: []int64{-1}, Text: times("x", 1001)},
		"greater": {To: math.MaxInt64, Peers: []int64{0, math.MaxInt64, 3}, Text: times("x", impl.MaxBytes+1)},
		"least":   {To: math.MinInt64, Peers: []int64{math.MinInt64}, Text: "\x00"},
	} {
		full := slices.Clone(ops)
		for i := range full {
			op := &full[i]
			if op.Kind != impl.GrCopy {
				op.To = junk.To
			}
			if op.Kind != impl.GrElect {
				op.Peers = junk.Peers
			}
			if op.Kind != impl.GrPropose {
				op.Text = junk.Text
			}
		}
		if got := checkGroup(t, name, 3, full); !sameGroup(got, want) {
			t.Errorf("%s: %s, not %s", name, shortly(got), shortly(want))
		}
	}
}

func TestP18MembersFromOneToTheMost(t *testing.T) {
	for members := int64(1); members <= impl.MaxMembers; members++ {
		none := impl.RunGroup(members, nil)
		if len(none.Outs) != 0 || len(none.Members) != int(members) {
			t.Fatalf("%d members: %d outs and %d members", members, len(none.Outs), len(none.Members))
		}
		for number, m := range none.Members {
			checkThatMember(t, fmt.Sprintf("%d of %d", number, members), m, impl.Member{Vote: -1, Match: make([]int64, members)})
		}
		last := members - 1
		run := checkGroupAtEach(t, fmt.Sprint(members, " members"), members, []impl.GroupOp{grElectAll(members, last), grPropose(last, "x"), grElect(members, 0), grPropose(members, "x"), grCopy(last, members), grCopy(members, last), grCrash(members), grElect(last, members)}, 1)
		if run.Outs[0] != grOut(0, members, 0) || run.Outs[1].Code != impl.OK || slices.ContainsFunc(run.Outs[2:], func(out impl.GroupOut) bool { return out.Code != impl.ErrForm || out.Votes != 0 }) {
			t.Errorf("%d members: %+v", members, run.Outs)
		}
	}
}

func TestP18MembersOutsideTheirBounds(t *testing.T) {
	for _, members := range []int64{0, -1, -9, impl.MaxMembers + 1, 9999, 1 << 32, 1<<32 + 1, 1<<32 + 9, math.MaxInt64, math.MinInt64, math.MinInt64 + 1} {
		for _, list := range [][]impl.GroupOp{nil, {grElect(0)}, {grElect(0, 1), grCopy(0, 1)}, make([]impl.GroupOp, impl.MaxOps+1)} {
			if got := impl.RunGroup(members, list); !isNoGroup(got) {
				t.Errorf("%d members: %s", members, shortly(got))
			}
		}
	}
}

func TestP18AsManyOperationsAsThereMayBe(t *testing.T) {
	for members := int64(1); members <= impl.MaxMembers; members++ {
		x := newGroupRuns(61 + members)
		ops := x.ops(impl.MaxOps, members, met{})
		checkGroupAtEach(t, fmt.Sprint(members, " members"), members, ops, 40)
		for name, one := range map[string]impl.GroupOp{"an election": grElect(0), "one of no kind": {}, "by none": grCrash(members)} {
			if got := impl.RunGroup(members, append(slices.Clone(ops), one)); !isNoGroup(got) {
				t.Errorf("%d members: %d outs with %s too many", members, len(got.Outs), name)
			}
		}
	}
	// A term for each operation.
	run := checkGroup(t, "elections", 1, slices.Repeat([]impl.GroupOp{grElect(0)}, impl.MaxOps))
	if run.Outs[impl.MaxOps-1] != grOut(0, 1, 0) || run.Members[0].Term != impl.MaxOps {
		t.Errorf("%+v", run.Members)
	}
	if got := impl.RunGroup(9, make([]impl.GroupOp, 10*impl.MaxOps)); !isNoGroup(got) {
		t.Errorf("%d outs", len(got.Outs))
	}
}

// settledGroup are members that have something of all that a member can have: 0 leads in term 3, 1 still in term 2, and
// each tells something as committed but 3.
func settledGroup() []impl.GroupOp {
	return []impl.GroupOp{
		grElectAll(5, 0), grPropose(0, "a"), grPropose(0, "b"), grCopy(0, 1), grCopy(0, 2), grCopy(0, 4), grCopy(0, 1), grElect(1, 2, 4), grPropose(1, "c"), grCopy(1, 2), grElect(0, 3), grElect(0, 3, 4), grPropose(0, "d"), grCopy(0, 4),
	}
}

func TestP18ASettledGroupIsAsItSays(t *testing.T) {
	run := checkGroupAtEach(t, "settled", 5, settledGroup(), 1)
	checkLogs(t, "settled", run.Members, "1a1b3d", "1a1b2c", "1a1b2c", "", "1a1b3d")
	for number, want := range []int64{2, 2, 2, 0, 2} {
		if m := run.Members[number]; m.Commit != want || m.Leads != (number < 2) {
			t.Errorf("member %d: %s", number, shortly(m))
		}
	}
}

func TestP18OperationsOfNoKind(t *testing.T) {
	for _, kind := range []int64{0, -1, -2, 5, 6, 100, 1 << 32, 1<<32 + impl.GrElect, 1<<32 + impl.GrCrash, 1<<8 + impl.GrCrash, math.MaxInt64, math.MinInt64, math.MinInt64 + impl.GrPropose} {
		for member := range int64(5) {
			checkRefusedInGroup(t, "kind", 5, settledGroup(), impl.GroupOp{Kind: kind, Member: member, To: (member + 1) % 5, Peers: []int64{0, 1, 2, 3, 4}, Text: "x"}, impl.ErrForm)
		}
		checkRefusedInGroup(t, "kind, by none", 5, settledGroup(), impl.GroupOp{Kind: kind, Member: 5, To: 2, Text: "x"}, impl.ErrForm)
	}
}

func TestP18MembersThatAreNone(t *testing.T) {
	for _, none := range []int64{-1, -2, -5, 5, 6, impl.MaxMembers - 1, impl.MaxMembers, 1 << 32, 1<<32 + 1, math.MaxInt64, math.MinInt64} {
		for _, op := range []impl.GroupOp{grElect(none), grElect(none, 0, 1, 2, 3, 4), grElect(none, none), grPropose(none, "x"), grPropose(none, times("x", 1001)), grCopy(none, 0), grCopy(none, none), grCrash(none)} {
			checkRefusedInGroup(t, "Member", 5, settledGroup(), op, impl.ErrForm)
		}
		for member := range int64(5) {
			checkRefusedInGroup(t, "To", 5, settledGroup(), grCopy(member, none), impl.ErrForm)
			for _, peers := range [][]int64{{none}, {none, 1, 2, 3, 4}, {0, 1, 2, 3, 4, none}, {0, 1, none, 2, 3, 4}, {none, none}, {member, none}, {2, 2, none, 2}} {
				checkRefusedInGroup(t, "a peer", 5, settledGroup(), grElect(member, peers...), impl.ErrForm)
			}
		}
	}
	for member := range int64(5) {
		checkRefusedInGroup(t, "to itself", 5, settledGroup(), grCopy(member, member), impl.ErrForm)
	}
}

func TestP18WhoDoesNotLead(t *testing.T) {
	for member := int64(2); member < 5; member++ {
		for _, text := range []string{"", "x", times("x", 1000), times("x", 1001), times("x", impl.MaxBytes+1)} {
			checkRefusedInGroup(t, "a proposal", 5, settledGroup(), grPropose(member, text), impl.ErrState)
		}
		for to := range int64(5) {
			if to != member {
				checkRefusedInGroup(t, "a copy", 5, settledGroup(), grCopy(member, to), impl.ErrState)
			}
		}
	}
	for members := int64(1); members <= impl.MaxMembers; members++ {
		for member := range members {
			checkRefusedInGroup(t, "at first", members, nil, grPropose(member, "x"), impl.ErrState)
			checkRefusedInGroup(t, "at first", members, nil, grCopy(member, (member+1)%members), map[bool]int64{true: impl.ErrForm, false: impl.ErrState}[members == 1])
		}
	}
}

// Where an operation has several faults, the one told first is answered.
func TestP18TheFirstCodeOfAGroup(t *testing.T) {
	long := times("x", 1001)
	full := grFull(0)
	late := append(slices.Clone(full), grElect(2), grElect(2))
	for name, ops := range map[string][]impl.GroupOp{"full": full, "late": late} {
		for _, c := range []struct {
			op   impl.GroupOp
			code int64
		}{
			{grPropose(3, long), impl.ErrForm}, {grPropose(1, long), impl.ErrState}, {grPropose(0, long), impl.ErrFull}, {grPropose(0, "x"), impl.ErrFull}, {grCopy(3, 3), impl.ErrForm}, {grCopy(3, 0), impl.ErrForm}, {grCopy(0, 3), impl.ErrForm}, {grCopy(1, 3), impl.ErrForm}, {grCopy(0, 0), impl.ErrForm}, {grCopy(1, 1), impl.ErrForm},
			{grCopy(1, 0), impl.ErrState}, {grCopy(1, 2), impl.ErrState}, {grElect(3, 3), impl.ErrForm}, {grElect(1, 3), impl.ErrForm}, {impl.GroupOp{Kind: 5, Member: 3, To: 3, Text: long}, impl.ErrForm},
		} {
			checkRefusedInGroup(t, name, 3, ops, c.op, c.code)
		}
	}
	run := checkGroup(t, "late", 3, append(late, grCopy(0, 2), grCopy(0, 2), grPropose(0, long)))
	if got := run.Outs[len(late):]; !slices.Equal(got, []impl.GroupOut{grOut(impl.ErrLate, 0, 0), grOut(impl.ErrState, 0, 0), grOut(impl.ErrState, 0, 0)}) {
		t.Errorf("%+v", got)
	}
}

// lentGroup is a run of operations whose texts and lists the test can change.
type lentGroup struct {
	ops   []impl.GroupOp
	was   []impl.GroupOp
	texts []*loan
	peers []*listLoan
}

func lendGroup(ops []impl.GroupOp) *lentGroup {
	l := &lentGroup{}
	for _, op := range ops {
		text, peers := newLoan(op.Text), newListLoan(op.Peers)
		l.texts, l.peers = append(l.texts, text), append(l.peers, peers)
		op.Text, op.Peers = text.text(), peers.list()
		l.ops = append(l.ops, op)
	}
	// The room behind the list is the test's, too.
	l.ops = append(l.ops, impl.GroupOp{Kind: 77}, impl.GroupOp{Kind: 88})
	l.was = slices.Clone(l.ops)
	return l
}

func (l *lentGroup) given() []impl.GroupOp {
	return l.ops[:len(l.ops)-2]
}

func sameGroupOp(a, b impl.GroupOp) bool {
	return a.Kind == b.Kind && a.Member == b.Member && a.To == b.To && a.Text == b.Text && slices.Equal(a.Peers, b.Peers)
}

func (l *lentGroup) kept() bool {
	return slices.EqualFunc(l.ops, l.was, sameGroupOp) && !slices.ContainsFunc(l.texts, func(text *loan) bool { return !text.kept() }) && !slices.ContainsFunc(l.peers, func(list *listLoan) bool { return !list.kept() })
}

func (l *lentGroup) spoil() {
	for _, text := range l.texts {
		text.spoil()
	}
	for _, list := range l.peers {
		spoil(list.room)
	}
	clear(l.ops)
}

func TestP18TheAnswerIsNewMemory(t *testing.T) {
	x := newGroupRuns(67)
	for i := range 300 {
		members := 1 + x.chance.Int63n(impl.MaxMembers)
		ops := x.ops(80, members, met{})
		want := plainGroupRun(members, ops)
		lent := lendGroup(ops)
		got := impl.RunGroup(members, lent.given())
		kept := lent.kept()
		lent.spoil()
		if !kept || !sameGroup(got, want) {
			t.Fatalf("%d: written into, or shared", i)
		}
	}
	for _, logs := range [][2]string{{"1a2b", "1a1b1c"}, {"1a", "1a1b"}, {"1a", ""}, {"", ""}} {
		a, b := append(grLog(logs[0]), grLog("7x8y")...), append(grLog(logs[1]), grLog("7x8y")...)
		wasA, wasB := slices.Clone(a), slices.Clone(b)
		impl.NewerLog(a[:len(a)-2], b[:len(b)-2])
		if !slices.Equal(a, wasA) || !slices.Equal(b, wasB) {
			t.Errorf("%v: written into", logs)
		}
	}
}

// spoilGroup changes one list of a run, the room behind it included: the outs, or the log or the match of a member.
func spoilGroup(r impl.GroupRun, list int) {
	if list == 0 {
		for i, outs := 0, r.Outs[:cap(r.Outs)]; i < len(outs); i++ {
			outs[i] = impl.GroupOut{Code: 99, Votes: 99, Commit: 99}
		}
		return
	}
	m := r.Members[(list-1)/2]
	if list%2 == 0 {
		spoil(m.Match)
		return
	}
	for i, log := 0, m.Log[:cap(m.Log)]; i < len(log); i++ {
		log[i] = impl.GroupEntry{Term: -1, Text: "spoiled"}
	}
}

func TestP18NoTwoListsOfAGroupShareMemory(t *testing.T) {
	x := newGroupRuns(71)
	for i := range 100 {
		members := 1 + x.chance.Int63n(impl.MaxMembers)
		ops := append(x.ops(80, members, met{}), grElectAll(members, 0), grPropose(0, "x"))
		ops = append(ops, grCopyAll(members, 0)...)
		want := plainGroupRun(members, ops)
		for list := range 1 + 2*int(members) {
			run := impl.RunGroup(members, ops)
			spoilGroup(run, list)
			if list > 0 && !slices.Equal(run.Outs, want.Outs) {
				t.Fatalf("%d: the outs change with list %d", i, list)
			}
			for number, m := range run.Members {
				logKept, matchKept := slices.Equal(m.Log, want.Members[number].Log), slices.Equal(m.Match, want.Members[number].Match)
				if !logKept && list != 2*number+1 || !matchKept && list != 2*number+2 {
					t.Fatalf("%d: a list of member %d changes with list %d", i, number, list)
				}
			}
		}
	}
}

// wild draws operations of any numbers and texts.
func (x groupRuns) wild(count int) []impl.GroupOp {
	numbers := []int64{math.MinInt64, -2, -1, 0, 0, 0, 0, 1, 1, 1, 1, 2, 2, 2, 3, 3, 4, 8, 9, 1 << 32, math.MaxInt64}
	number := func() int64 { return numbers[x.chance.Intn(len(numbers))] }
	texts := []string{"", "a", "\x00", "\xff", times("t", 1000), times("t", 1001), times("t", impl.MaxBytes+1)}
	var ops []impl.GroupOp
	for range count {
		op := impl.GroupOp{Kind: x.chance.Int63n(7) - 1, Member: number(), To: number(), Text: texts[x.chance.Intn(len(texts))]}
		for range x.chance.Intn(4) {
			op.Peers = append(op.Peers, number())
		}
		ops = append(ops, op)
	}
	return ops
}

func TestP18NoCallOfAGroupPanics(t *testing.T) {
	x := newGroupRuns(73)
	for i := range 3000 {
		members := []int64{math.MinInt64, -1, 0, 1, 2, 2, 3, 3, 4, 9, 10, math.MaxInt64}[x.chance.Intn(12)]
		ops := x.wild(x.chance.Intn(80))
		noPanic(t, "RunGroup", func() {
			if got := impl.RunGroup(members, ops); !sameGroup(got, plainGroupRun(members, ops)) {
				t.Errorf("%d: run in another way", i)
			}
		})
		var a, b []impl.GroupEntry
		for _, op := range ops {
			a = append(a, impl.GroupEntry{Term: op.Member, Text: op.Text})
			b = append(b, impl.GroupEntry{Term: op.To})
			noPanic(t, "NewerLog", func() {
				impl.NewerLog(a, b)
				impl.NewerLog(b, a[:len(a)/2])
				impl.NewerLog(nil, a)
			})
		}
	}
	noPanic(t, "a very long list", func() {
		op := grElect(0, slices.Repeat([]int64{1, 2, 3}, 1000000)...)
		if got := impl.RunGroup(4, []impl.GroupOp{op, op}); got.Outs[1] != grOut(0, 4, 0) {
			t.Errorf("%+v", got.Outs)
		}
	})
}

func TestP18NothingOfAGroupGoesOnBehindTheAnswer(t *testing.T) {
	x := newGroupRuns(79)
	ahead := runtime.NumGoroutine()
	for i := range 500 {
		impl.RunGroup(x.chance.Int63n(13)-2, x.ops(x.chance.Intn(60), 9, met{}))
		impl.RunGroup(9, make([]impl.GroupOp, impl.MaxOps+x.chance.Intn(2)))
		impl.NewerLog(grLog("1a2b"), grLog("1a"))
		if i%50 == 0 && !isQuiet(ahead) {
			t.Fatalf("%d: %d go on, not %d", i, runtime.NumGoroutine(), ahead)
		}
	}
	if !isQuiet(ahead) {
		t.Errorf("%d go on, not %d", runtime.NumGoroutine(), ahead)
	}
}

// Calls at one time, and ones behind each other, answer the same.
func TestP18TheAnswerOfAGroupHangsOnTheArgumentsAlone(t *testing.T) {
	x := newGroupRuns(83)
	ops := x.ops(500, 9, met{})
	other := x.ops(500, 9, met{})
	want := checkGroup(t, "alone", 9, ops)
	var calls sync.WaitGroup
	same := make([]bool, 48)
	for i := range same {
		calls.Go(func() {
			impl.RunGroup(int64(1+i%9), other)
			same[i] = sameGroup(impl.RunGroup(9, ops), want)
		})
	}
	calls.Wait()
	if slices.Contains(same, false) {
		t.Error("a call at the same time answers another thing")
	}
}
