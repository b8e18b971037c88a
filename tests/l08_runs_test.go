package tests

import (
	"math"
	"math/rand"
	"reflect"
	"slices"
	"sort"
	"strconv"
	"strings"
	"testing"

	"loop.example/g00020/impl"
)

// topSeq is the greatest Seq that a table may have.
const topSeq = 1 << 62

// Short names for entries, runs and operations.
func entryOf(key string, seq int64, text string) impl.RunEntry {
	return impl.RunEntry{Key: key, Seq: seq, Text: text}
}
func goneOf(key string, seq int64) impl.RunEntry {
	return impl.RunEntry{Key: key, Seq: seq, Gone: true}
}
func runOf(entries ...impl.RunEntry) impl.SortedRun  { return impl.SortedRun{Entries: entries} }
func runsOf(runs ...impl.SortedRun) []impl.SortedRun { return runs }
func ruPut(key, text string) impl.TableOp {
	return impl.TableOp{Kind: impl.RuPut, Key: key, Text: text}
}
func ruDrop(key string) impl.TableOp   { return impl.TableOp{Kind: impl.RuDrop, Key: key} }
func ruFlush() impl.TableOp            { return impl.TableOp{Kind: impl.RuFlush} }
func ruCompact(seq int64) impl.TableOp { return impl.TableOp{Kind: impl.RuCompact, Seq: seq} }
func ruGet(key string, seq int64) impl.TableOp {
	return impl.TableOp{Kind: impl.RuGet, Key: key, Seq: seq}
}
func ruScan(from, to string, seq, most int64) impl.TableOp {
	return impl.TableOp{Kind: impl.RuScan, Key: from, To: to, Seq: seq, Limit: most}
}

// plainRunFault holds each entry of a run against each other one.
func plainRunFault(r impl.SortedRun) int64 {
	if len(r.Entries) > 1000 {
		return impl.ErrForm
	}
	for i, e := range r.Entries {
		if len(e.Key) < 1 || len(e.Key) > 200 || e.Seq < 1 || len(e.Text) > 100000 || e.Gone && len(e.Text) > 0 {
			return impl.ErrForm
		}
		for _, ahead := range r.Entries[:i] {
			if ahead.Key > e.Key || ahead.Key == e.Key && ahead.Seq < e.Seq || ahead.Seq == e.Seq {
				return impl.ErrForm
			}
		}
	}
	return impl.OK
}

func plainTableFault(t impl.Table) int64 {
	if t.Seq > topSeq || t.Floor < 0 || t.Floor > t.Seq || len(t.Runs) > 20 || plainRunFault(t.Fresh) != impl.OK {
		return impl.ErrForm
	}
	var seqs []int64
	for _, run := range t.Runs {
		if plainRunFault(run) != impl.OK {
			return impl.ErrForm
		}
		for _, e := range run.Entries {
			for _, fresh := range t.Fresh.Entries {
				if fresh.Seq <= e.Seq {
					return impl.ErrForm
				}
			}
		}
	}
	for _, e := range plainEntries(t) {
		if slices.Contains(seqs, e.Seq) || e.Seq > t.Seq {
			return impl.ErrForm
		}
		seqs = append(seqs, e.Seq)
	}
	if len(seqs) > 1000 {
		return impl.ErrForm
	}
	return impl.OK
}

// plainEntries are all of a table, in no order.
func plainEntries(t impl.Table) []impl.RunEntry {
	list := slices.Clone(t.Fresh.Entries)
	for _, run := range t.Runs {
		list = append(list, run.Entries...)
	}
	return list
}

// plainHas is the document's sentence: what a key has at a Seq.
func plainHas(entries []impl.RunEntry, key string, seq int64) impl.RunEntry {
	var best impl.RunEntry
	for _, e := range entries {
		if e.Key == key && e.Seq <= seq && e.Seq > best.Seq {
			best = e
		}
	}
	if best.Gone {
		return impl.RunEntry{}
	}
	return best
}

func plainTell(entries []impl.RunEntry, from, to string, seq, most int64) []impl.RunEntry {
	var keys []string
	for _, e := range entries {
		keys = append(keys, e.Key)
	}
	sort.Strings(keys)
	var list []impl.RunEntry
	for _, key := range slices.Compact(keys) {
		if key < from || to != "" && key >= to || int64(len(list)) >= most {
			continue
		}
		if e := plainHas(entries, key, seq); e != (impl.RunEntry{}) {
			list = append(list, e)
		}
	}
	return list
}

// plainSort puts entries in the order of a run; those of one place stay as they are.
func plainSort(entries []impl.RunEntry) {
	sort.SliceStable(entries, func(i, j int) bool {
		a, b := entries[i], entries[j]
		return a.Key < b.Key || a.Key == b.Key && a.Seq > b.Seq
	})
}

func plainMerge(runs []impl.SortedRun, floor int64) impl.SortedRun {
	var list []impl.RunEntry
	for _, run := range runs {
		if plainRunFault(run) != impl.OK {
			return impl.SortedRun{}
		}
		list = append(list, run.Entries...)
	}
	if len(runs) > 20 || len(list) > 1000 {
		return impl.SortedRun{}
	}
	plainSort(list)
	var out impl.SortedRun
	for i, e := range list {
		ahead := slices.ContainsFunc(list[:i], func(a impl.RunEntry) bool { return a.Key == e.Key && a.Seq <= floor })
		if e.Seq > floor || !ahead && !e.Gone {
			out.Entries = append(out.Entries, e)
		}
	}
	return out
}

func plainEnter(t *impl.Table, op impl.TableOp) int64 {
	e := impl.RunEntry{Key: op.Key, Seq: t.Seq + 1, Gone: op.Kind == 2}
	if op.Kind == 1 {
		e.Text = op.Text
	}
	switch {
	case len(op.Key) == 0 || len(op.Key) > 200:
		return impl.ErrForm
	case len(e.Text) > 100000:
		return impl.ErrSize
	case len(plainEntries(*t)) >= 1000 || t.Seq == topSeq:
		return impl.ErrFull
	}
	t.Seq++
	t.Fresh.Entries = append(slices.Clone(t.Fresh.Entries), e)
	plainSort(t.Fresh.Entries)
	return impl.OK
}

func plainFlush(t *impl.Table) int64 {
	if len(t.Fresh.Entries) == 0 {
		return impl.OK
	}
	if len(t.Runs) >= 20 {
		return impl.ErrFull
	}
	t.Runs = append(slices.Clone(t.Runs), t.Fresh)
	t.Fresh = impl.SortedRun{}
	return impl.OK
}

func plainCompact(t *impl.Table, floor int64) int64 {
	if floor < t.Floor || floor > t.Seq {
		return impl.ErrForm
	}
	t.Floor = floor
	one := plainMerge(t.Runs, floor)
	t.Runs = nil
	if len(one.Entries) > 0 {
		t.Runs = []impl.SortedRun{one}
	}
	return impl.OK
}

func plainLook(t impl.Table, op impl.TableOp) impl.TableOut {
	switch {
	case op.Seq < t.Floor:
		return impl.TableOut{Code: impl.ErrLate}
	case op.Seq > t.Seq:
		return impl.TableOut{Code: impl.ErrForm}
	case op.Kind == 6:
		return impl.TableOut{Entries: plainTell(plainEntries(t), op.Key, op.To, op.Seq, op.Limit)}
	}
	e := plainHas(plainEntries(t), op.Key, op.Seq)
	if e == (impl.RunEntry{}) {
		return impl.TableOut{Code: impl.ErrNone}
	}
	return impl.TableOut{Text: e.Text}
}

// plainTable looks at all of the table for each operation.
func plainTable(t impl.Table, ops []impl.TableOp) impl.TableRun {
	var outs []impl.TableOut
	for _, op := range ops {
		var out impl.TableOut
		switch op.Kind {
		case 1, 2:
			out.Code = plainEnter(&t, op)
		case 3:
			out.Code = plainFlush(&t)
		case 4:
			out.Code = plainCompact(&t, op.Seq)
		case 5, 6:
			out = plainLook(t, op)
		default:
			out.Code = impl.ErrForm
		}
		outs = append(outs, out)
	}
	return impl.TableRun{Table: t, Outs: outs}
}

func isRun(a, b impl.SortedRun) bool {
	return slices.Equal(a.Entries, b.Entries)
}

func isTable(a, b impl.Table) bool {
	return a.Seq == b.Seq && a.Floor == b.Floor && isRun(a.Fresh, b.Fresh) && slices.EqualFunc(a.Runs, b.Runs, isRun)
}

func isTold(a, b impl.TableOut) bool {
	return a.Code == b.Code && a.Text == b.Text && slices.Equal(a.Entries, b.Entries)
}

func isNoTable(r impl.TableRun) bool {
	return isTable(r.Table, impl.Table{}) && len(r.Outs) == 0
}

// checkTable holds a run of operations against the plain one; a right table stays right.
func checkTable(t *testing.T, what string, table impl.Table, ops []impl.TableOp) impl.TableRun {
	t.Helper()
	got, want := impl.RunTable(table, ops), plainTable(table, ops)
	if len(got.Outs) != len(want.Outs) {
		t.Fatalf("%s: %d outs for %d operations", what, len(got.Outs), len(ops))
	}
	for i := range want.Outs {
		if !isTold(got.Outs[i], want.Outs[i]) {
			t.Fatalf("%s: operation %d, %.80v:\n%.300v, not\n%.300v", what, i, ops[i], got.Outs[i], want.Outs[i])
		}
	}
	if !isTable(got.Table, want.Table) {
		t.Fatalf("%s: behind all\n%.500v, not\n%.500v", what, got.Table, want.Table)
	}
	if fault := impl.TableFault(got.Table); fault != impl.OK {
		t.Fatalf("%s: the table behind all has the fault %d", what, fault)
	}
	return got
}

// runTables draws tables and what happens to them.
type runTables struct {
	chance *rand.Rand
}

func newRunTables() runTables {
	return runTables{rand.New(rand.NewSource(9))}
}

var runKeys = []string{"a", "aa", "a\x00", "ab", "b", "\x00", "\xff", "\xff\xff", "key/1", "key/10", "key/2"}

func (x runTables) key() string {
	return runKeys[x.chance.Intn(len(runKeys))]
}

func (x runTables) entry(seq int64) impl.RunEntry {
	if x.chance.Intn(4) == 0 {
		return goneOf(x.key(), seq)
	}
	return entryOf(x.key(), seq, strings.Repeat("t", x.chance.Intn(2))+strconv.FormatInt(seq, 10)[:x.chance.Intn(2)])
}

// table is a right table of at most most entries in at most six runs, some of which are empty.
func (x runTables) table(most int) impl.Table {
	var t impl.Table
	for range x.chance.Intn(6) {
		t.Runs = append(t.Runs, impl.SortedRun{})
	}
	count := x.chance.Intn(most + 1)
	fresh := x.chance.Intn(count + 1)
	if len(t.Runs) == 0 {
		fresh = count
	}
	for i := range count {
		t.Seq += 1 + x.chance.Int63n(2)
		run := &t.Fresh
		if i < count-fresh {
			run = &t.Runs[x.chance.Intn(len(t.Runs))]
		}
		run.Entries = append(run.Entries, x.entry(t.Seq))
	}
	plainSort(t.Fresh.Entries)
	for _, run := range t.Runs {
		plainSort(run.Entries)
	}
	t.Seq += x.chance.Int63n(3)
	t.Floor = x.chance.Int63n(t.Seq + 1)
	return t
}

// runs are right runs; some entries of theirs are of one Key and Seq, and some of one Seq alone.
func (x runTables) runs(count, most int) []impl.SortedRun {
	var runs []impl.SortedRun
	for range count {
		var run impl.SortedRun
		for seq := int64(1); seq <= int64(most); seq++ {
			if x.chance.Intn(2) == 0 {
				run.Entries = append(run.Entries, x.entry(seq))
			}
		}
		plainSort(run.Entries)
		runs = append(runs, run)
	}
	return runs
}

func (x runTables) op(seq int64) impl.TableOp {
	at := x.chance.Int63n(seq+4) - 1
	switch kind := x.chance.Intn(24); {
	case kind < 7:
		return ruPut(x.key(), "text "+strconv.Itoa(x.chance.Intn(100)))
	case kind < 10:
		return ruDrop(x.key())
	case kind < 13:
		return ruFlush()
	case kind < 14:
		return ruCompact(at)
	case kind < 17:
		return ruGet(x.key(), at)
	case kind < 21:
		return ruScan(x.key(), x.key(), at, x.chance.Int63n(8)-1)
	case kind < 23:
		return ruScan("", "", at, math.MaxInt64)
	}
	return impl.TableOp{Kind: x.chance.Int63n(12) - 2, Key: x.key()[:x.chance.Intn(2)], Seq: at, Limit: 3}
}

func (x runTables) ops(count int, seq int64) []impl.TableOp {
	var ops []impl.TableOp
	for range count {
		ops = append(ops, x.op(seq))
		if kind := ops[len(ops)-1].Kind; kind == impl.RuPut || kind == impl.RuDrop {
			seq++
		}
	}
	return ops
}

// upTo are runs of n entries in all, a key each, with Seqs from 1 on.
func upTo(n int, runs int) []impl.SortedRun {
	list := make([]impl.SortedRun, runs)
	for i := range n {
		key := strings.Repeat("k", 8) + strconv.Itoa(100000+i)
		list[i%runs].Entries = append(list[i%runs].Entries, entryOf(key, int64(i)+1, strconv.Itoa(i)))
	}
	return list
}

func TestP9LimitsAndKindsAreTheDocuments(t *testing.T) {
	got := []int64{impl.MaxEntries, impl.MaxRuns, impl.RuPut, impl.RuDrop, impl.RuFlush, impl.RuCompact, impl.RuGet, impl.RuScan}
	if want := []int64{1000, 20, 1, 2, 3, 4, 5, 6}; !slices.Equal(got, want) {
		t.Errorf("%v, not %v", got, want)
	}
}

func TestP9TableAsKnown(t *testing.T) {
	ops := []impl.TableOp{
		ruPut("b", "1"), ruPut("a", "2"), ruPut("b", "3"), ruFlush(), ruDrop("b"), ruPut("c", ""),
		ruGet("b", 1), ruGet("b", 2), ruGet("b", 3), ruGet("b", 4), ruGet("c", 5), ruGet("c", 4), ruGet("a", 5), ruGet("a", 6), ruGet("a", 0),
		ruScan("", "", 3, 9), ruScan("", "", 5, 9), ruScan("b", "", 3, 9), ruScan("", "b", 3, 9), ruScan("", "", 5, 1),
		ruCompact(2), ruGet("b", 1), ruGet("b", 2), ruGet("b", 3), ruFlush(), ruCompact(4), ruScan("", "", 4, 9), ruScan("", "", 3, 9),
		ruCompact(5), ruDrop("a"), ruDrop("c"), ruFlush(), ruCompact(7), ruScan("", "", 7, 9), ruGet("a", 7),
	}
	b1, a2, b3, c5 := entryOf("b", 1, "1"), entryOf("a", 2, "2"), entryOf("b", 3, "3"), entryOf("c", 5, "")
	told := func(entries ...impl.RunEntry) impl.TableOut { return impl.TableOut{Entries: entries} }
	has := func(text string) impl.TableOut { return impl.TableOut{Text: text} }
	code := func(code int64) impl.TableOut { return impl.TableOut{Code: code} }
	done, none, late := code(impl.OK), code(impl.ErrNone), code(impl.ErrLate)
	want := []impl.TableOut{
		done, done, done, done, done, done,
		has("1"), has("1"), has("3"), none, has(""), none, has("2"), code(impl.ErrForm), none,
		told(a2, b3), told(a2, c5), told(b3), told(a2), told(a2),
		done, late, has("1"), has("3"), done, done, told(a2), late,
		done, done, done, done, done, told(), none,
	}
	got := impl.RunTable(impl.Table{}, ops)
	if len(got.Outs) != len(want) {
		t.Fatalf("%d outs", len(got.Outs))
	}
	for i := range want {
		if !isTold(got.Outs[i], want[i]) {
			t.Errorf("operation %d, %v: %v, not %v", i, ops[i], got.Outs[i], want[i])
		}
	}
	if !isTable(got.Table, impl.Table{Seq: 7, Floor: 7}) {
		t.Errorf("behind all: %v", got.Table)
	}
	for i, step := range []struct {
		ops  int
		want impl.Table
	}{
		{0, impl.Table{}},
		{3, impl.Table{Seq: 3, Fresh: runOf(a2, b3, b1)}},
		{4, impl.Table{Seq: 3, Runs: runsOf(runOf(a2, b3, b1))}},
		{20, impl.Table{Seq: 5, Fresh: runOf(goneOf("b", 4), c5), Runs: runsOf(runOf(a2, b3, b1))}},
		{21, impl.Table{Seq: 5, Floor: 2, Fresh: runOf(goneOf("b", 4), c5), Runs: runsOf(runOf(a2, b3, b1))}},
		{25, impl.Table{Seq: 5, Floor: 2, Runs: runsOf(runOf(a2, b3, b1), runOf(goneOf("b", 4), c5))}},
		{26, impl.Table{Seq: 5, Floor: 4, Runs: runsOf(runOf(a2, c5))}},
		{32, impl.Table{Seq: 7, Floor: 5, Runs: runsOf(runOf(a2, c5), runOf(goneOf("a", 6), goneOf("c", 7)))}},
	} {
		if got := impl.RunTable(impl.Table{}, ops[:step.ops]); !isTable(got.Table, step.want) {
			t.Errorf("%d, behind %d operations: %v, not %v", i, step.ops, got.Table, step.want)
		}
	}
}

// rightRuns and wrongRuns stand at the edges that the document names.
func rightRuns() map[string]impl.SortedRun {
	return map[string]impl.SortedRun{
		"no entry":               {},
		"one":                    runOf(entryOf("a", 1, "")),
		"a Seq of 2^62":          runOf(entryOf("a", topSeq, "")),
		"the greatest Seq":       runOf(entryOf("a", math.MaxInt64, "1"), entryOf("a", 1, "")),
		"gone":                   runOf(goneOf("a", 1)),
		"a key of 200 bytes":     runOf(entryOf(strings.Repeat("k", impl.MaxKey), 3, "")),
		"a key of one byte 0":    runOf(entryOf("\x00", 3, ""), entryOf("\x00\x00", 2, "")),
		"a Text of 100000 bytes": runOf(entryOf("a", 1, strings.Repeat("t", impl.MaxBytes))),
		"falling Seqs":           runOf(entryOf("a", 7, ""), goneOf("a", 5), entryOf("a", 1, "")),
		"rising keys":            runOf(entryOf("B", 1, ""), entryOf("a", 2, ""), entryOf("aa", 3, ""), entryOf("b", 4, "")),
		"bytes and not letters":  runOf(entryOf("z", 2, ""), entryOf("\x80", 1, ""), entryOf("\xff", 3, "")),
		"1000 entries":           upTo(impl.MaxEntries, 1)[0],
	}
}

func wrongRuns() map[string]impl.SortedRun {
	return map[string]impl.SortedRun{
		"an empty key":             runOf(entryOf("", 1, "")),
		"an empty key ahead":       runOf(entryOf("", 1, ""), entryOf("a", 2, "")),
		"a key of 201 bytes":       runOf(entryOf(strings.Repeat("k", impl.MaxKey+1), 1, "")),
		"a key of 100001 bytes":    runOf(entryOf(strings.Repeat("k", impl.MaxBytes+1), 1, "")),
		"a Text of 100001 bytes":   runOf(entryOf("a", 1, strings.Repeat("t", impl.MaxBytes+1))),
		"a Text where one is gone": runOf(impl.RunEntry{Key: "a", Seq: 1, Gone: true, Text: "t"}),
		"a Seq of 0":               runOf(entryOf("a", 0, "")),
		"a Seq of -1":              runOf(entryOf("a", -1, "")),
		"the lowest Seq":           runOf(goneOf("a", math.MinInt64)),
		"the second of Seq 0":      runOf(entryOf("a", 1, ""), entryOf("b", 0, "")),
		"keys that fall":           runOf(entryOf("b", 1, ""), entryOf("a", 2, "")),
		"keys that fall later":     runOf(entryOf("a", 4, ""), entryOf("c", 3, ""), entryOf("b", 2, "")),
		"a key that comes again":   runOf(entryOf("a", 4, ""), entryOf("b", 3, ""), entryOf("a", 2, "")),
		"a longer key ahead":       runOf(entryOf("aa", 1, ""), entryOf("a", 2, "")),
		"a letter for a byte":      runOf(entryOf("\x80", 1, ""), entryOf("z", 2, "")),
		"Seqs that rise":           runOf(entryOf("a", 1, ""), entryOf("a", 2, "")),
		"one entry twice":          runOf(entryOf("a", 1, ""), entryOf("a", 1, "")),
		"one gone entry twice":     runOf(goneOf("a", 1), goneOf("a", 1)),
		"one place, two Texts":     runOf(entryOf("a", 1, "1"), entryOf("a", 1, "2")),
		"two of one Seq":           runOf(entryOf("a", 1, ""), entryOf("b", 1, "")),
		"two of one Seq far apart": runOf(entryOf("a", 5, ""), entryOf("b", 2, ""), entryOf("c", 4, ""), goneOf("d", 5)),
		"1001 entries":             upTo(impl.MaxEntries+1, 1)[0],
	}
}

func TestP9RunsRightAndWrong(t *testing.T) {
	for what, run := range rightRuns() {
		if got := impl.RunFault(run); got != impl.OK {
			t.Errorf("%s: %d", what, got)
		}
	}
	for what, run := range wrongRuns() {
		if got := impl.RunFault(run); got != impl.ErrForm {
			t.Errorf("%s: %d", what, got)
		}
	}
	x := newRunTables()
	seen := map[int64]int{}
	for range 20000 {
		var run impl.SortedRun
		for range x.chance.Intn(4) {
			run.Entries = append(run.Entries, x.entry(x.chance.Int63n(7)))
		}
		got := impl.RunFault(run)
		if got != plainRunFault(run) {
			t.Fatalf("%v: %d", run, got)
		}
		seen[got]++
	}
	if len(seen) != 2 {
		t.Errorf("drawn are %v", seen)
	}
}

// withSeq is a right table of four entries, but for its Seq and Floor.
func withSeq(seq, floor int64) impl.Table {
	return impl.Table{Seq: seq, Floor: floor, Fresh: runOf(goneOf("a", 4), entryOf("b", 5, "5")),
		Runs: runsOf(runOf(entryOf("a", 3, "3"), entryOf("a", 1, "1")), runOf(entryOf("b", 2, "2")))}
}

func rightTables() map[string]impl.Table {
	return map[string]impl.Table{
		"none":                        {},
		"empty with a Seq":            {Seq: 9},
		"a Floor of Seq":              {Seq: 9, Floor: 9},
		"a Floor of 0":                withSeq(5, 0),
		"a Floor between":             withSeq(5, 3),
		"a Floor at the top":          withSeq(5, 5),
		"a Seq far above":             withSeq(1000, 7),
		"a Seq of 2^62":               withSeq(topSeq, topSeq),
		"an entry of 2^62":            {Seq: topSeq, Fresh: runOf(entryOf("a", topSeq, ""))},
		"an entry of 2^62 in a run":   {Seq: topSeq, Runs: runsOf(runOf(entryOf("a", topSeq, "")))},
		"empty runs":                  {Runs: make([]impl.SortedRun, 3)},
		"20 runs":                     {Runs: make([]impl.SortedRun, impl.MaxRuns)},
		"20 runs with entries":        {Seq: 40, Runs: upTo(40, 20)},
		"runs across one another":     {Seq: 6, Runs: runsOf(runOf(entryOf("a", 6, ""), entryOf("a", 1, "")), runOf(entryOf("a", 5, ""), entryOf("a", 2, "")))},
		"later runs of lower Seqs":    {Seq: 6, Runs: runsOf(runOf(entryOf("a", 6, "")), runOf(entryOf("b", 1, "")))},
		"1000 entries in one":         {Seq: 1000, Runs: upTo(impl.MaxEntries, 1)},
		"1000 entries in 20":          {Seq: 1000, Runs: upTo(impl.MaxEntries, 20)},
		"1000 fresh entries":          {Seq: 1000, Fresh: upTo(impl.MaxEntries, 1)[0]},
		"999 entries and a fresh one": {Seq: 1000, Runs: upTo(impl.MaxEntries-1, 7), Fresh: runOf(goneOf("k", 1000))},
	}
}

func wrongTables() map[string]impl.Table {
	list := map[string]impl.Table{
		"a Floor below 0":                 withSeq(5, -1),
		"the lowest Floor":                withSeq(5, math.MinInt64),
		"a Floor above Seq":               withSeq(5, 6),
		"the greatest Floor":              withSeq(5, math.MaxInt64),
		"an empty one's Floor above Seq":  {Floor: 1},
		"a Seq below 0":                   {Seq: -1, Floor: -1},
		"a Seq of -1 with Floor 0":        {Seq: -1},
		"the lowest Seq":                  {Seq: math.MinInt64, Floor: math.MinInt64},
		"a Seq above 2^62":                withSeq(topSeq+1, 0),
		"the greatest Seq":                {Seq: math.MaxInt64},
		"a fresh entry above Seq":         withSeq(4, 0),
		"an entry of a run above Seq":     {Seq: 4, Runs: runsOf(runOf(entryOf("a", 5, "")))},
		"all above Seq":                   withSeq(0, 0),
		"the greatest Seq of an entry":    {Seq: topSeq, Fresh: runOf(entryOf("a", math.MaxInt64, ""))},
		"Fresh below Runs":                {Seq: 9, Fresh: runOf(entryOf("a", 1, "")), Runs: runsOf(runOf(entryOf("b", 2, "")))},
		"one of Fresh below Runs":         {Seq: 9, Fresh: runOf(entryOf("a", 5, ""), entryOf("a", 3, "")), Runs: runsOf(runOf(entryOf("b", 4, "")), runOf())},
		"Fresh below the last of Runs":    {Seq: 9, Fresh: runOf(entryOf("a", 5, "")), Runs: runsOf(runOf(entryOf("b", 4, "")), runOf(entryOf("c", 6, "")))},
		"Fresh as high as Runs":           {Seq: 9, Fresh: runOf(entryOf("a", 5, "")), Runs: runsOf(runOf(entryOf("b", 5, "")))},
		"one Seq in two runs":             {Seq: 9, Runs: runsOf(runOf(entryOf("a", 3, "")), runOf(entryOf("b", 3, "")))},
		"one entry in two runs":           {Seq: 9, Runs: runsOf(runOf(entryOf("a", 3, "")), runOf(), runOf(entryOf("a", 3, "")))},
		"one Seq in runs and below":       {Seq: 9, Runs: runsOf(runOf(entryOf("a", 7, ""), entryOf("a", 3, "")), runOf(entryOf("b", 8, ""), entryOf("b", 3, "")))},
		"21 empty runs":                   {Runs: make([]impl.SortedRun, impl.MaxRuns+1)},
		"21 runs":                         {Seq: 40, Runs: upTo(40, impl.MaxRuns+1)},
		"1001 entries":                    {Seq: 2000, Runs: upTo(impl.MaxEntries+1, 20)},
		"1001 entries with the fresh one": {Seq: 2000, Runs: upTo(impl.MaxEntries, 2), Fresh: runOf(entryOf("k", 1001, ""))},
		"1001 with one in a run":          {Seq: 2000, Runs: runsOf(runOf(entryOf("k", 1, ""))), Fresh: shifted(upTo(impl.MaxEntries, 1)[0], 1)},
	}
	for what, run := range wrongRuns() {
		list["fresh: "+what] = impl.Table{Seq: topSeq, Fresh: run}
		list["a run: "+what] = impl.Table{Seq: topSeq, Runs: runsOf(run)}
		list["the last run: "+what] = impl.Table{Seq: topSeq, Runs: append(make([]impl.SortedRun, impl.MaxRuns-1), run)}
	}
	return list
}

// shifted is a run with greater Seqs.
func shifted(run impl.SortedRun, by int64) impl.SortedRun {
	var out impl.SortedRun
	for _, e := range run.Entries {
		e.Seq += by
		out.Entries = append(out.Entries, e)
	}
	return out
}

func TestP9TablesRightAndWrong(t *testing.T) {
	for what, table := range rightTables() {
		if got := impl.TableFault(table); got != impl.OK {
			t.Errorf("%s: %d", what, got)
		}
		got := impl.RunTable(table, nil)
		if !isTable(got.Table, table) || len(got.Outs) != 0 {
			t.Errorf("%s, no operations: %.200v", what, got)
		}
	}
	for what, table := range wrongTables() {
		if got := impl.TableFault(table); got != impl.ErrForm {
			t.Errorf("%s: %d", what, got)
		}
	}
	x := newRunTables()
	seen := map[int64]int{}
	for range 20000 {
		table := x.table(5)
		for _, run := range append(runsOf(table.Fresh), table.Runs...) {
			if len(run.Entries) > 0 && x.chance.Intn(6) == 0 {
				run.Entries[x.chance.Intn(len(run.Entries))].Seq += x.chance.Int63n(5) - 2
			}
		}
		table.Seq += x.chance.Int63n(12) / 11 * -1
		got := impl.TableFault(table)
		if got != plainTableFault(table) {
			t.Fatalf("%v: %d", table, got)
		}
		seen[got]++
	}
	if len(seen) != 2 {
		t.Errorf("drawn are %v", seen)
	}
}

// Of a wrong table nothing is answered.
func TestP9WrongTablesAnswerNothing(t *testing.T) {
	for what, table := range wrongTables() {
		for _, seq := range []int64{0, 1, 5, topSeq, math.MaxInt64} {
			for _, key := range []string{"", "a", "b", "kkkkkkkk100000", strings.Repeat("k", impl.MaxKey+1)} {
				if got := impl.FindEntry(table, key, seq); got != (impl.RunEntry{}) {
					t.Errorf("%s: %q at %d: %.100v", what, key, seq, got)
				}
			}
			if got := impl.ScanTable(table, "", "", seq, 9); len(got) != 0 {
				t.Errorf("%s: a scan at %d: %.100v", what, seq, got)
			}
		}
		for i, ops := range [][]impl.TableOp{nil, {ruPut("a", "1")}, {ruFlush(), ruCompact(0)}, {ruGet("a", 1)}} {
			if got := impl.RunTable(table, ops); !isNoTable(got) {
				t.Errorf("%s, run %d: %.100v", what, i, got)
			}
		}
	}
}

func TestP9MergeAsKnown(t *testing.T) {
	one := runOf(goneOf("a", 4), entryOf("a", 2, "a2"), entryOf("c", 6, "c6"), entryOf("c", 1, "c1"))
	two := runOf(entryOf("a", 3, "a3"), entryOf("b", 5, "b5"), goneOf("c", 2))
	all := []impl.RunEntry{one.Entries[0], two.Entries[0], one.Entries[1], two.Entries[1], one.Entries[2], two.Entries[2], one.Entries[3]}
	for floor, want := range map[int64][]impl.RunEntry{
		math.MinInt64: all,
		-1:            all,
		0:             all,
		1:             all,
		2:             {all[0], all[1], all[2], all[3], all[4]},
		3:             {all[0], all[1], all[3], all[4]},
		4:             {all[3], all[4]},
		5:             {all[3], all[4]},
		6:             {all[3], all[4]},
		math.MaxInt64: {all[3], all[4]},
	} {
		for _, runs := range [][]impl.SortedRun{runsOf(one, two), runsOf(two, one), runsOf(runOf(), one, runOf(), two, runOf())} {
			if got := impl.MergeRuns(runs, floor); !slices.Equal(got.Entries, want) {
				t.Errorf("floor %d: %v, not %v", floor, got.Entries, want)
			}
		}
	}
}

// Entries of one Key and Seq stand in the order of their runs; of such as are at most floor one alone is kept, the first.
func TestP9MergeOfOnePlaceInTwoRuns(t *testing.T) {
	first, second, third := entryOf("a", 5, "first"), entryOf("a", 5, "second"), goneOf("a", 5)
	for i, step := range []struct {
		runs  []impl.SortedRun
		floor int64
		want  []impl.RunEntry
	}{
		{runsOf(runOf(first), runOf(second)), 4, []impl.RunEntry{first, second}},
		{runsOf(runOf(second), runOf(first)), 4, []impl.RunEntry{second, first}},
		{runsOf(runOf(third), runOf(second), runOf(first)), 4, []impl.RunEntry{third, second, first}},
		{runsOf(runOf(first), runOf(first), runOf(first)), 0, []impl.RunEntry{first, first, first}},
		{runsOf(runOf(first), runOf(second)), 5, []impl.RunEntry{first}},
		{runsOf(runOf(second), runOf(first)), 5, []impl.RunEntry{second}},
		{runsOf(runOf(first), runOf(third)), 6, []impl.RunEntry{first}},
		{runsOf(runOf(third), runOf(first)), 5, nil},
		{runsOf(runOf(first), runOf(entryOf("b", 5, "other key"))), 5, []impl.RunEntry{first, entryOf("b", 5, "other key")}},
		{runsOf(runOf(entryOf("b", 5, "other key")), runOf(first)), 4, []impl.RunEntry{first, entryOf("b", 5, "other key")}},
		{runsOf(runOf(first, entryOf("a", 2, "old")), runOf(second, entryOf("a", 2, "older"))), 2, []impl.RunEntry{first, second, entryOf("a", 2, "old")}},
	} {
		if got := impl.MergeRuns(step.runs, step.floor); !slices.Equal(got.Entries, step.want) {
			t.Errorf("%d: %v, not %v", i, got.Entries, step.want)
		}
	}
	// As many runs as there can be, all of one place.
	var runs []impl.SortedRun
	for i := range impl.MaxRuns {
		runs = append(runs, runOf(entryOf("a", 7, strconv.Itoa(i)), entryOf("b", 6, strconv.Itoa(i))))
	}
	got := impl.MergeRuns(runs, 5).Entries
	for i, e := range got {
		want := entryOf("a", 7, strconv.Itoa(i))
		if i >= impl.MaxRuns {
			want = entryOf("b", 6, strconv.Itoa(i-impl.MaxRuns))
		}
		if len(got) != 2*impl.MaxRuns || e != want {
			t.Fatalf("entry %d of %d: %v", i, len(got), e)
		}
	}
}

func TestP9MergeByTheWords(t *testing.T) {
	x := newRunTables()
	for range 3000 {
		runs := x.runs(x.chance.Intn(7), 12)
		for _, floor := range []int64{0, 1, 11, 12, 13, x.chance.Int63n(14) - 1} {
			got, want := impl.MergeRuns(runs, floor), plainMerge(runs, floor)
			if !isRun(got, want) {
				t.Fatalf("%v to %d:\n%v, not\n%v", runs, floor, got, want)
			}
			slices.Reverse(runs)
			if got, want := impl.MergeRuns(runs, floor), plainMerge(runs, floor); !isRun(got, want) {
				t.Fatalf("%v to %d:\n%v, not\n%v", runs, floor, got, want)
			}
		}
	}
}

// Of runs that have no place twice, the order plays no part, and the empty run none either; merging again changes nothing.
func TestP9MergeInEitherOrder(t *testing.T) {
	x := newRunTables()
	for range 1000 {
		table := x.table(25)
		floor := x.chance.Int63n(table.Seq + 2)
		runs := append(slices.Clone(table.Runs), table.Fresh)
		want := impl.MergeRuns(runs, floor)
		x.chance.Shuffle(len(runs), func(i, j int) { runs[i], runs[j] = runs[j], runs[i] })
		if got := impl.MergeRuns(runs, floor); !isRun(got, want) {
			t.Fatalf("%v to %d:\n%v, not\n%v", runs, floor, got, want)
		}
		at := x.chance.Intn(len(runs) + 1)
		if got := impl.MergeRuns(slices.Insert(slices.Clone(runs), at, runOf()), floor); !isRun(got, want) {
			t.Fatalf("%v with an empty one to %d:\n%v, not\n%v", runs, floor, got, want)
		}
		if got := impl.MergeRuns(runsOf(want), floor); !isRun(got, want) || impl.RunFault(want) != impl.OK {
			t.Fatalf("%v merged again: %v", want, got)
		}
		half := x.chance.Intn(len(runs) + 1)
		some := impl.MergeRuns(runs[:half], 0)
		if got := impl.MergeRuns(append(runsOf(some), runs[half:]...), floor); !isRun(got, want) {
			t.Fatalf("%v, %d of them merged ahead, to %d:\n%v, not\n%v", runs, half, floor, got, want)
		}
	}
}

func TestP9MergeAtTheEdges(t *testing.T) {
	full := upTo(impl.MaxEntries, impl.MaxRuns)
	for i, runs := range [][]impl.SortedRun{nil, runsOf(runOf()), make([]impl.SortedRun, impl.MaxRuns), full, upTo(impl.MaxEntries, 1)} {
		for _, floor := range []int64{0, 500, 1000} {
			got, want := impl.MergeRuns(runs, floor), plainMerge(runs, floor)
			if !isRun(got, want) || i >= 3 && len(got.Entries) != impl.MaxEntries {
				t.Errorf("%d, floor %d: %d entries, not %d", i, floor, len(got.Entries), len(want.Entries))
			}
		}
	}
	for what, run := range rightRuns() {
		got := impl.MergeRuns(runsOf(runOf(), run), 0)
		if !isRun(got, run) {
			t.Errorf("%s: %.100v", what, got)
		}
	}
	wrong := map[string][]impl.SortedRun{
		"21 runs":             append(slices.Clone(full[:1]), make([]impl.SortedRun, impl.MaxRuns)...),
		"1001 entries":        upTo(impl.MaxEntries+1, impl.MaxRuns),
		"1001 in two":         runsOf(full[0], upTo(impl.MaxEntries-len(full[0].Entries)+1, 1)[0]),
		"1001, all but three": append(upTo(impl.MaxEntries, 2), runOf(entryOf("a", 2000, ""))),
	}
	for what, run := range wrongRuns() {
		wrong["first: "+what] = runsOf(run, runOf(entryOf("x", 99, "")))
		wrong["last: "+what] = runsOf(runOf(entryOf("x", 99, "")), run)
	}
	for what, runs := range wrong {
		for _, floor := range []int64{0, 1, math.MaxInt64} {
			if got := impl.MergeRuns(runs, floor); len(got.Entries) != 0 {
				t.Errorf("%s, floor %d: %d entries", what, floor, len(got.Entries))
			}
		}
	}
	two := runsOf(runOf(entryOf("a", math.MaxInt64, "1"), goneOf("a", math.MaxInt64-1)), runOf(entryOf("a", topSeq, "3"), entryOf("b", 1, "4")))
	for floor, want := range map[int64]int{0: 4, topSeq - 1: 4, topSeq: 4, math.MaxInt64 - 1: 2, math.MaxInt64: 2} {
		if got := impl.MergeRuns(two, floor); len(got.Entries) != want {
			t.Errorf("floor %d: %v", floor, got)
		}
	}
}

func TestP9FindAndScanByTheWords(t *testing.T) {
	x := newRunTables()
	bounds := append([]string{"", "b\x00", "\xff\xff\xff", "key", "z"}, runKeys...)
	for range 400 {
		table := x.table(30)
		entries := plainEntries(table)
		for seq := int64(-1); seq <= table.Seq+1; seq++ {
			for _, key := range append([]string{"", "none", "a\x00\x00"}, runKeys...) {
				if got, want := impl.FindEntry(table, key, seq), plainHas(entries, key, seq); got != want {
					t.Fatalf("%v:\n%q at %d: %v, not %v", table, key, seq, got, want)
				}
			}
			for range 4 {
				from, to := bounds[x.chance.Intn(len(bounds))], bounds[x.chance.Intn(len(bounds))]
				most := []int64{math.MinInt64, -1, 0, 1, 2, 3, 11, math.MaxInt64}[x.chance.Intn(8)]
				got, want := impl.ScanTable(table, from, to, seq, most), plainTell(entries, from, to, seq, most)
				if !slices.Equal(got, want) {
					t.Fatalf("%v:\n%q to %q at %d, %d of them: %v, not %v", table, from, to, seq, most, got, want)
				}
			}
		}
		for _, seq := range []int64{math.MinInt64, topSeq, math.MaxInt64} {
			if got, want := impl.ScanTable(table, "", "", seq, 99), plainTell(entries, "", "", seq, 99); !slices.Equal(got, want) {
				t.Fatalf("%v at %d: %v, not %v", table, seq, got, want)
			}
		}
	}
}

func TestP9ScanAtTheEdges(t *testing.T) {
	table := impl.Table{Seq: 9, Floor: 5, Fresh: runOf(goneOf("b", 8), entryOf("d", 9, "d9")),
		Runs: runsOf(runOf(entryOf("a", 1, "a1"), entryOf("c", 3, "c3")), runOf(entryOf("b", 2, "b2"), entryOf("c", 7, "c7"), entryOf("c", 6, "")))}
	a, b, c, d := entryOf("a", 1, "a1"), entryOf("b", 2, "b2"), entryOf("c", 7, "c7"), entryOf("d", 9, "d9")
	for i, step := range []struct {
		from, to  string
		seq, most int64
		want      []impl.RunEntry
	}{
		{"", "", 9, 3, []impl.RunEntry{a, c, d}}, {"", "", 9, 4, []impl.RunEntry{a, c, d}}, {"", "", 9, 2, []impl.RunEntry{a, c}},
		{"", "", 9, 1, []impl.RunEntry{a}}, {"", "", 9, 0, nil}, {"", "", 9, -1, nil}, {"", "", 9, math.MinInt64, nil},
		{"", "", 7, 9, []impl.RunEntry{a, b, c}}, {"", "", 6, 9, []impl.RunEntry{a, b, entryOf("c", 6, "")}}, {"", "", 5, 9, []impl.RunEntry{a, b, entryOf("c", 3, "c3")}},
		{"", "", 2, 9, []impl.RunEntry{a, b}}, {"", "", 1, 9, []impl.RunEntry{a}}, {"", "", 0, 9, nil}, {"", "", -1, 9, nil}, {"", "", 100, 9, []impl.RunEntry{a, c, d}},
		{"a", "d", 9, 9, []impl.RunEntry{a, c}}, {"a", "d\x00", 9, 9, []impl.RunEntry{a, c, d}}, {"a\x00", "", 9, 9, []impl.RunEntry{c, d}}, {"b", "c", 9, 9, nil},
		{"b", "c", 7, 9, []impl.RunEntry{b}}, {"c", "c", 9, 9, nil}, {"d", "c", 9, 9, nil}, {"d", "", 9, 9, []impl.RunEntry{d}}, {"d\x00", "", 9, 9, nil},
		{"", "a", 9, 9, nil}, {"", "a\x00", 9, 9, []impl.RunEntry{a}}, {"\xff", "", 9, 9, nil}, {"", "\xff", 9, 9, []impl.RunEntry{a, c, d}},
		{strings.Repeat("b", impl.MaxBytes), "", 9, 9, []impl.RunEntry{c, d}}, {"", strings.Repeat("b", impl.MaxBytes), 9, 9, []impl.RunEntry{a}},
		{strings.Repeat("b", impl.MaxKey+1), strings.Repeat("c", impl.MaxKey+1), 9, 9, []impl.RunEntry{c}},
		// A text of more than MaxBytes bytes is refused with the zero answer.
		{strings.Repeat("b", impl.MaxBytes+1), "", 9, 9, nil}, {"", strings.Repeat("b", impl.MaxBytes+1), 9, 9, nil},
	} {
		if got := impl.ScanTable(table, step.from, step.to, step.seq, step.most); !slices.Equal(got, step.want) {
			t.Errorf("%d: %v, not %v", i, got, step.want)
		}
		if step.seq < table.Floor || step.seq > table.Seq {
			continue
		}
		got := impl.RunTable(table, []impl.TableOp{ruScan(step.from, step.to, step.seq, step.most)})
		if len(got.Outs) != 1 || !isTold(got.Outs[0], impl.TableOut{Entries: step.want}) {
			t.Errorf("%d: the run told %v, not %v", i, got.Outs, step.want)
		}
	}
	for _, key := range []string{"", "b", "e", "a\x00", strings.Repeat("k", impl.MaxKey), strings.Repeat("k", impl.MaxKey+1), strings.Repeat("k", impl.MaxBytes+1)} {
		if got := impl.FindEntry(table, key, 9); got != (impl.RunEntry{}) {
			t.Errorf("%.10q: %v", key, got)
		}
		if got := impl.RunTable(table, []impl.TableOp{ruGet(key, 9)}).Outs; len(got) != 1 || !isTold(got[0], impl.TableOut{Code: impl.ErrNone}) {
			t.Errorf("%.10q: the run told %v", key, got)
		}
	}
}

func TestP9TheLongestKeyAndText(t *testing.T) {
	long, most := strings.Repeat("k", impl.MaxKey), strings.Repeat("t", impl.MaxBytes)
	ops := []impl.TableOp{ruPut(long, most), ruPut(long[1:], ""), ruPut("k", most[1:]), ruFlush(), ruPut(long, ""), ruDrop(long[1:]),
		ruGet(long, 3), ruGet(long, 5), ruGet("k", 5), ruGet(long[1:], 4), ruGet(long[1:], 5), ruScan(long, "", 3, 9), ruScan("", "", 5, 9), ruCompact(3), ruGet(long, 3)}
	got := checkTable(t, "long", impl.Table{}, ops)
	for i, want := range map[int]impl.TableOut{6: {Text: most}, 7: {}, 8: {Text: most[1:]}, 9: {}, 10: {Code: impl.ErrNone},
		11: {Entries: []impl.RunEntry{entryOf(long, 1, most)}}, 14: {Text: most}} {
		if !isTold(got.Outs[i], want) {
			t.Errorf("operation %d: %.100v", i, got.Outs[i])
		}
	}
}

func TestP9RunsByTheWords(t *testing.T) {
	x := newRunTables()
	seen := map[[2]int64]int{}
	for range 1500 {
		table := x.table(x.chance.Intn(20))
		ops := x.ops(60, table.Seq)
		for i, out := range checkTable(t, "drawn", table, ops).Outs {
			seen[[2]int64{ops[i].Kind, out.Code}]++
		}
	}
	for _, pair := range [][2]int64{{1, 0}, {2, 0}, {3, 0}, {4, 0}, {4, impl.ErrForm}, {5, 0}, {5, impl.ErrLate}, {5, impl.ErrForm}, {5, impl.ErrNone},
		{6, 0}, {6, impl.ErrLate}, {6, impl.ErrForm}, {1, impl.ErrForm}, {2, impl.ErrForm}, {0, impl.ErrForm}, {7, impl.ErrForm}} {
		if seen[pair] == 0 {
			t.Errorf("kind %d never answered %d", pair[0], pair[1])
		}
	}
}

// readsOf tells all that can be read of a table from a Seq on: each key, and scans of all keys and of some.
func readsOf(table impl.Table, from int64) []impl.TableOut {
	var outs []impl.TableOut
	for seq := from; seq <= table.Seq; seq++ {
		for _, key := range runKeys {
			outs = append(outs, impl.TableOut{Code: seq, Entries: []impl.RunEntry{impl.FindEntry(table, key, seq)}})
		}
		outs = append(outs, impl.TableOut{Code: seq, Entries: impl.ScanTable(table, "", "", seq, math.MaxInt64)})
		outs = append(outs, impl.TableOut{Code: seq, Entries: impl.ScanTable(table, "a\x00", "key/2", seq, 4)})
	}
	return outs
}

// lookAll are operations that read likewise.
func lookAll(from, to int64) []impl.TableOp {
	var ops []impl.TableOp
	for seq := from; seq <= to; seq++ {
		for _, key := range append([]string{"none"}, runKeys...) {
			ops = append(ops, ruGet(key, seq))
		}
		ops = append(ops, ruScan("", "", seq, math.MaxInt64), ruScan("a\x00", "key/2", seq, 4))
	}
	return ops
}

func sameTold(a, b []impl.TableOut) bool {
	return slices.EqualFunc(a, b, isTold)
}

func TestP9AFlushChangesNoRead(t *testing.T) {
	x := newRunTables()
	for range 600 {
		table := x.table(30)
		got := impl.RunTable(table, []impl.TableOp{ruFlush()})
		if len(got.Outs) != 1 || !isTold(got.Outs[0], impl.TableOut{}) || len(got.Table.Fresh.Entries) != 0 || got.Table.Floor != table.Floor {
			t.Fatalf("%v: %v", table, got)
		}
		if !sameTold(readsOf(got.Table, 0), readsOf(table, 0)) {
			t.Fatalf("a flush changes what is read of %v", table)
		}
		looks := lookAll(table.Floor, table.Seq)
		ops := slices.Concat(looks, []impl.TableOp{ruFlush()}, looks, []impl.TableOp{ruFlush()}, looks)
		if len(ops) > impl.MaxOps {
			continue
		}
		outs, n := impl.RunTable(table, ops).Outs, len(looks)
		if len(outs) != len(ops) || !sameTold(outs[:n], outs[n+1:2*n+1]) || !sameTold(outs[:n], outs[2*n+2:]) {
			t.Fatalf("a flush changes what is told of %v", table)
		}
	}
}

func TestP9ACompactionChangesNoReadFromItsFloorOn(t *testing.T) {
	x := newRunTables()
	for range 250 {
		table := x.table(30)
		for floor := table.Floor; floor <= table.Seq; floor++ {
			got := impl.RunTable(table, []impl.TableOp{ruCompact(floor)})
			if len(got.Outs) != 1 || !isTold(got.Outs[0], impl.TableOut{}) || len(got.Table.Runs) > 1 || got.Table.Floor != floor ||
				got.Table.Seq != table.Seq || !isRun(got.Table.Fresh, table.Fresh) {
				t.Fatalf("%v to %d: %v", table, floor, got)
			}
			if !sameTold(readsOf(got.Table, floor), readsOf(table, floor)) {
				t.Fatalf("a compaction to %d changes what is read of %v: %v", floor, table, got.Table)
			}
			if len(got.Table.Runs) == 1 && len(got.Table.Runs[0].Entries) == 0 {
				t.Fatalf("%v to %d: an empty run", table, floor)
			}
		}
		floor := table.Floor + x.chance.Int63n(table.Seq-table.Floor+1)
		looks := lookAll(floor, table.Seq)
		ops := slices.Concat(looks, []impl.TableOp{ruCompact(floor)}, looks, []impl.TableOp{ruFlush(), ruCompact(floor)}, looks)
		if len(ops) > impl.MaxOps {
			continue
		}
		outs, n := impl.RunTable(table, ops).Outs, len(looks)
		if len(outs) != len(ops) || !sameTold(outs[:n], outs[n+1:2*n+1]) || !sameTold(outs[:n], outs[2*n+3:]) {
			t.Fatalf("a compaction to %d changes what is told of %v", floor, table)
		}
	}
}

// Whatever was flushed and compacted between puts and drops: from Floor on all keys have what the puts and drops alone say.
func TestP9ReadsAreThoseOfAllThatWasPut(t *testing.T) {
	x := newRunTables()
	for range 300 {
		var table impl.Table
		var all []impl.RunEntry
		for range 12 {
			for _, op := range x.ops(8, table.Seq) {
				run := impl.RunTable(table, []impl.TableOp{op})
				if run.Outs[0].Code == impl.OK && (op.Kind == impl.RuPut || op.Kind == impl.RuDrop) {
					all = append(all, impl.RunEntry{Key: op.Key, Seq: int64(len(all)) + 1, Gone: op.Kind == impl.RuDrop, Text: op.Text})
				}
				table = run.Table
			}
			if table.Seq != int64(len(all)) {
				t.Fatalf("Seq %d behind %d puts and drops", table.Seq, len(all))
			}
			for seq := table.Floor; seq <= table.Seq; seq++ {
				if got, want := impl.ScanTable(table, "", "", seq, 99), plainTell(all, "", "", seq, 99); !slices.Equal(got, want) {
					t.Fatalf("%v\nbehind %v at %d:\n%v, not\n%v", table, all, seq, got, want)
				}
				for _, key := range runKeys {
					if got, want := impl.FindEntry(table, key, seq), plainHas(all, key, seq); got != want {
						t.Fatalf("%v\nbehind %v, %q at %d: %v, not %v", table, all, key, seq, got, want)
					}
				}
			}
		}
	}
}

// Seqs of one key at the floor, just above and just below it, Gone or not, in one run or in several.
func TestP9EntriesAroundTheFloor(t *testing.T) {
	for kinds := range 8 {
		var entries []impl.RunEntry
		for i := range int64(3) {
			e := entryOf("k", 6-i, strconv.FormatInt(6-i, 10))
			if kinds>>i&1 == 1 {
				e = goneOf("k", 6-i)
			}
			entries = append(entries, e)
		}
		for _, runs := range [][]impl.SortedRun{runsOf(runOf(entries...)), runsOf(runOf(entries[2]), runOf(entries[1]), runOf(entries[0])),
			runsOf(runOf(entries[0], entries[2]), runOf(), runOf(entries[1]))} {
			table := impl.Table{Seq: 7, Runs: runs}
			for floor := int64(0); floor <= 7; floor++ {
				got := checkTable(t, "around", table, []impl.TableOp{ruCompact(floor), ruGet("k", floor), ruGet("k", 7), ruGet("k", floor-1), ruCompact(floor)})
				if want := plainMerge(runs, floor).Entries; len(want) == 0 != (len(got.Table.Runs) == 0) {
					t.Errorf("%v to %d: %v", runs, floor, got.Table)
				}
			}
		}
	}
	got := checkTable(t, "all goes", impl.Table{Seq: 3, Runs: runsOf(runOf(goneOf("a", 3), entryOf("a", 1, "1")), runOf(goneOf("b", 2)))}, []impl.TableOp{ruCompact(3)})
	if len(got.Table.Runs) != 0 {
		t.Errorf("%v", got.Table)
	}
	got = checkTable(t, "empty runs go", impl.Table{Seq: 3, Runs: make([]impl.SortedRun, impl.MaxRuns)}, []impl.TableOp{ruCompact(0)})
	if len(got.Table.Runs) != 0 {
		t.Errorf("%v", got.Table)
	}
	got = checkTable(t, "what is above stays", impl.Table{Seq: 3, Runs: runsOf(runOf(goneOf("a", 3), entryOf("a", 1, "1")))}, []impl.TableOp{ruCompact(2)})
	if len(got.Table.Runs) != 1 || len(got.Table.Runs[0].Entries) != 2 {
		t.Errorf("%v", got.Table)
	}
}

func TestP9AFullTable(t *testing.T) {
	var ops []impl.TableOp
	for i := range impl.MaxEntries {
		ops = append(ops, ruPut("key "+strconv.Itoa(i%7), strconv.Itoa(i)))
		if i%100 == 50 {
			ops = append(ops, ruFlush())
		}
	}
	ops = append(ops, ruPut("a", "1"), ruDrop("key 1"), ruFlush(), ruDrop("key 1"), ruGet("key 1", 1000), ruScan("", "", 1000, 3), ruCompact(999), ruPut("a", "1"), ruDrop("key 1"))
	got := checkTable(t, "full", impl.Table{}, ops).Outs[len(ops)-9:]
	want := []int64{impl.ErrFull, impl.ErrFull, impl.OK, impl.ErrFull, impl.OK, impl.OK, impl.OK, impl.OK, impl.OK}
	for i := range want {
		if got[i].Code != want[i] {
			t.Errorf("%d: %v, not %d", i, got[i], want[i])
		}
	}
	for what, table := range rightTables() {
		if len(plainEntries(table)) != impl.MaxEntries {
			continue
		}
		got := checkTable(t, what, table, []impl.TableOp{ruPut("a", "1"), ruDrop("a"), ruPut("", ""), ruFlush(), ruPut("a", "1")})
		if got.Outs[0].Code != impl.ErrFull || got.Outs[1].Code != impl.ErrFull || got.Outs[2].Code != impl.ErrForm || got.Table.Seq != table.Seq {
			t.Errorf("%s: %v", what, got.Outs)
		}
	}
}

func TestP9AsManyRunsAsCanBe(t *testing.T) {
	var ops []impl.TableOp
	for i := range impl.MaxRuns {
		ops = append(ops, ruPut("key "+strconv.Itoa(i), "1"), ruFlush())
	}
	got := checkTable(t, "20", impl.Table{}, ops)
	if len(got.Table.Runs) != impl.MaxRuns || got.Outs[len(got.Outs)-1].Code != impl.OK {
		t.Errorf("%d runs, %v", len(got.Table.Runs), got.Outs)
	}
	// A flush of nothing needs no room.
	more := checkTable(t, "21", got.Table, []impl.TableOp{ruFlush(), ruPut("more", "2"), ruFlush(), ruGet("more", 21), ruFlush(), ruCompact(0), ruFlush(), ruFlush()})
	for i, want := range []int64{impl.OK, impl.OK, impl.ErrFull, impl.OK, impl.ErrFull, impl.OK, impl.OK, impl.OK} {
		if more.Outs[i].Code != want {
			t.Errorf("%d: %v, not %d", i, more.Outs[i], want)
		}
	}
	if len(more.Table.Runs) != 2 || len(more.Table.Runs[0].Entries) != impl.MaxRuns || len(more.Table.Fresh.Entries) != 0 {
		t.Errorf("%v", more.Table)
	}
	none := checkTable(t, "nothing", impl.Table{Seq: 4, Runs: runsOf(runOf(), runOf(entryOf("a", 2, "")))}, []impl.TableOp{ruFlush(), ruFlush()})
	if len(none.Table.Runs) != 2 {
		t.Errorf("%v", none.Table)
	}
	kept := checkTable(t, "full of empty runs", impl.Table{Runs: make([]impl.SortedRun, impl.MaxRuns)}, []impl.TableOp{ruPut("a", "1"), ruFlush()})
	if kept.Outs[1].Code != impl.ErrFull || len(kept.Table.Fresh.Entries) != 1 || len(kept.Table.Runs) != impl.MaxRuns {
		t.Errorf("%v", kept)
	}
}

func TestP9TheGreatestSeq(t *testing.T) {
	ops := []impl.TableOp{ruPut("a", "1"), ruPut("a", "2"), ruDrop("a"), ruGet("a", topSeq), ruGet("a", topSeq-1), ruGet("a", topSeq+1), ruGet("a", math.MaxInt64),
		ruScan("", "", topSeq, 1), ruFlush(), ruCompact(topSeq), ruGet("a", topSeq), ruCompact(topSeq + 1), ruPut("", ""), ruPut("a", strings.Repeat("t", impl.MaxBytes+1))}
	got := checkTable(t, "top", impl.Table{Seq: topSeq - 1}, ops)
	for i, want := range []int64{impl.OK, impl.ErrFull, impl.ErrFull, impl.OK, impl.ErrNone, impl.ErrForm, impl.ErrForm, impl.OK, impl.OK, impl.OK, impl.OK, impl.ErrForm,
		impl.ErrForm, impl.ErrSize} {
		if got.Outs[i].Code != want {
			t.Errorf("%d: %v, not %d", i, got.Outs[i], want)
		}
	}
	if got.Table.Seq != topSeq || got.Table.Runs[0].Entries[0] != entryOf("a", topSeq, "1") {
		t.Errorf("%v", got.Table)
	}
}

func TestP9AsManyOperationsAsCanBeOnATable(t *testing.T) {
	ops := slices.Repeat([]impl.TableOp{ruPut("a", "1"), ruFlush(), ruCompact(0), ruGet("a", 1)}, impl.MaxOps/4)
	got := checkTable(t, "2000", impl.Table{}, ops)
	if len(got.Outs) != impl.MaxOps || got.Table.Seq != 500 {
		t.Errorf("%d outs, Seq %d", len(got.Outs), got.Table.Seq)
	}
	if got := impl.RunTable(impl.Table{}, append(ops, ruGet("a", 1))); !isNoTable(got) {
		t.Errorf("one more: %.100v", got)
	}
	if got := impl.RunTable(withSeq(5, 2), slices.Repeat(ops, 20)); !isNoTable(got) {
		t.Errorf("40000: %.100v", got)
	}
	for i, none := range [][]impl.TableOp{nil, {}} {
		if got := impl.RunTable(withSeq(5, 2), none); !isTable(got.Table, withSeq(5, 2)) || len(got.Outs) != 0 {
			t.Errorf("%d: %v", i, got)
		}
	}
}

// What is wrong answers its code, and does nothing.
func TestP9WrongOperationsOnATable(t *testing.T) {
	long := strings.Repeat("k", impl.MaxBytes+1)
	table := withSeq(7, 3)
	wrong := map[int64][]impl.TableOp{
		impl.ErrForm: {
			ruPut("", ""), ruPut("", "t"), ruPut(strings.Repeat("k", impl.MaxKey+1), "t"), ruPut(long, "t"), ruPut("", long), ruPut(long, long),
			ruDrop(""), ruDrop(strings.Repeat("k", impl.MaxKey+1)), ruDrop(long), ruCompact(2), ruCompact(0), ruCompact(-1), ruCompact(8),
			ruCompact(math.MinInt64), ruCompact(math.MaxInt64), ruGet("a", 8), ruGet("none", 8), ruGet("", 8), ruGet("a", math.MaxInt64),
			ruScan("", "", 8, 9), ruScan("", "", 8, 0), ruScan(long, long, 8, 9), ruScan("", "", math.MaxInt64, 9),
			{}, {Kind: 7}, {Kind: -1}, {Kind: 0, Key: "a", Text: "t", Seq: 5}, {Kind: 8, Key: "a", Seq: 5}, {Kind: math.MinInt64}, {Kind: math.MaxInt64},
			{Kind: 1<<32 + 1, Key: "a", Text: "t"}, {Kind: 256 + 3},
		},
		impl.ErrSize: {ruPut("a", long), ruPut(strings.Repeat("k", impl.MaxKey), long), ruPut("a", strings.Repeat(long, 9))},
		impl.ErrLate: {
			ruGet("a", 2), ruGet("a", 0), ruGet("a", -1), ruGet("none", 2), ruGet("", math.MinInt64), ruScan("", "", 2, 9), ruScan("", "", 2, 0),
			ruScan("b", "a", -1, 9), ruScan("", "", math.MinInt64, 9), ruScan(long, "", 2, 9),
		},
		impl.ErrNone: {ruGet("a", 4), ruGet("a", 7), ruGet("none", 3), ruGet("", 3), ruGet(long, 3), ruGet(strings.Repeat("k", impl.MaxKey), 7)},
	}
	for code, ops := range wrong {
		for i, op := range ops {
			got := impl.RunTable(table, []impl.TableOp{op, ruScan("", "", 7, 9)})
			if len(got.Outs) != 2 || !isTold(got.Outs[0], impl.TableOut{Code: code}) || !isTable(got.Table, table) {
				t.Errorf("%d of code %d, %.60v: %.200v", i, code, op, got)
			}
			if want := []impl.RunEntry{entryOf("b", 5, "5")}; len(got.Outs) == 2 && !slices.Equal(got.Outs[1].Entries, want) {
				t.Errorf("behind %d of code %d: %v", i, code, got.Outs[1])
			}
		}
	}
	// What an operation does not need plays no part.
	for i, op := range []impl.TableOp{
		{Kind: impl.RuPut, Key: "a", Seq: -1, To: long, Limit: -1}, {Kind: impl.RuDrop, Key: "a", Text: long, Seq: -1}, {Kind: impl.RuDrop, Key: "a", Text: "t"},
		{Kind: impl.RuFlush, Key: long, Text: long, Seq: -1}, {Kind: impl.RuCompact, Seq: 3, Key: long, Text: long}, {Kind: impl.RuGet, Key: "b", Seq: 7, Text: long, To: "a", Limit: -1},
		{Kind: impl.RuScan, Seq: 7, Limit: 9, Text: long},
	} {
		if got := checkTable(t, "more than is needed "+strconv.Itoa(i), table, []impl.TableOp{op}); got.Outs[0].Code != impl.OK {
			t.Errorf("%d: code %d", i, got.Outs[0].Code)
		}
	}
}

// Of several faults the one told first: an ill key, a long Text, no room; too late, ahead of its time, nothing there.
func TestP9TheFirstOfItsCodes(t *testing.T) {
	full := impl.Table{Seq: 1000, Floor: 400, Runs: upTo(impl.MaxEntries, 20), Fresh: runOf()}
	long, illKey := strings.Repeat("t", impl.MaxBytes+1), strings.Repeat("k", impl.MaxKey+1)
	for i, step := range []struct {
		table impl.Table
		op    impl.TableOp
		want  int64
	}{
		{full, ruPut("", long), impl.ErrForm}, {full, ruPut(illKey, long), impl.ErrForm}, {full, ruPut("a", long), impl.ErrSize}, {full, ruPut("a", "1"), impl.ErrFull},
		{full, ruDrop(""), impl.ErrForm}, {full, ruDrop(illKey), impl.ErrForm}, {full, ruDrop("a"), impl.ErrFull}, {full, impl.TableOp{Kind: impl.RuDrop, Key: "a", Text: long}, impl.ErrFull},
		{impl.Table{Seq: topSeq}, ruPut("", "1"), impl.ErrForm}, {impl.Table{Seq: topSeq}, ruPut("a", long), impl.ErrSize}, {impl.Table{Seq: topSeq}, ruPut("a", "1"), impl.ErrFull},
		{impl.Table{Seq: topSeq}, ruDrop("a"), impl.ErrFull}, {full, ruFlush(), impl.OK}, {full, ruGet("none", 399), impl.ErrLate}, {full, ruGet("none", 1001), impl.ErrForm},
		{full, ruGet("none", 1000), impl.ErrNone}, {full, ruScan("b", "a", 399, -1), impl.ErrLate}, {full, ruScan("b", "a", 1001, -1), impl.ErrForm},
		{full, ruScan("b", "a", 400, -1), impl.OK}, {full, ruGet("kkkkkkkk100399", 400), impl.OK}, {full, ruGet("kkkkkkkk100400", 400), impl.ErrNone},
	} {
		if got := checkTable(t, strconv.Itoa(i), step.table, []impl.TableOp{step.op}); got.Outs[0].Code != step.want {
			t.Errorf("%d: code %d, not %d", i, got.Outs[0].Code, step.want)
		}
	}
}

// lentTable is a table with operations, all of whose texts and lists the test can look into.
type lentTable struct {
	table impl.Table
	ops   []impl.TableOp
	texts []*loan
	rooms [][]impl.RunEntry
	was   [][]impl.RunEntry
	runs  []impl.SortedRun
	ahead []impl.SortedRun
	given []impl.TableOp
}

func (l *lentTable) text(text string) string {
	lent := newLoan(text)
	l.texts = append(l.texts, lent)
	return lent.text()
}

func (l *lentTable) run(run impl.SortedRun) impl.SortedRun {
	var room []impl.RunEntry
	for _, e := range run.Entries {
		room = append(room, impl.RunEntry{Key: l.text(e.Key), Seq: e.Seq, Gone: e.Gone, Text: l.text(e.Text)})
	}
	room = append(room, entryOf("room", 77, "behind"), entryOf("room", 88, "behind"))
	l.rooms = append(l.rooms, room)
	l.was = append(l.was, slices.Clone(room))
	return impl.SortedRun{Entries: room[:len(run.Entries)]}
}

func lendTable(table impl.Table, ops []impl.TableOp) *lentTable {
	l := &lentTable{table: table}
	l.table.Fresh = l.run(table.Fresh)
	for _, run := range table.Runs {
		l.runs = append(l.runs, l.run(run))
	}
	l.runs = append(l.runs, runOf(entryOf("room", 66, "behind")), runOf())
	l.ahead = slices.Clone(l.runs)
	l.table.Runs = l.runs[:len(table.Runs)]
	for _, op := range ops {
		op.Key, op.Text, op.To = l.text(op.Key), l.text(op.Text), l.text(op.To)
		l.ops = append(l.ops, op)
	}
	l.ops = append(l.ops, ruPut("room", "behind"), ruDrop("room"))
	l.given = slices.Clone(l.ops)
	return l
}

// list are the operations, with room behind them.
func (l *lentTable) list() []impl.TableOp {
	return l.ops[:len(l.ops)-2]
}

func (l *lentTable) kept() bool {
	for _, text := range l.texts {
		if !text.kept() {
			return false
		}
	}
	for i := range l.runs {
		if !isRun(l.runs[i], l.ahead[i]) || len(l.runs[i].Entries) > 0 && &l.runs[i].Entries[0] != &l.ahead[i].Entries[0] {
			return false
		}
	}
	return slices.Equal(l.ops, l.given) && slices.EqualFunc(l.rooms, l.was, slices.Equal)
}

// spoil changes all that was lent.
func (l *lentTable) spoil() {
	for _, text := range l.texts {
		text.spoil()
	}
	for _, room := range l.rooms {
		spoilEntries(room)
	}
	for i := range l.runs {
		l.runs[i] = runOf(entryOf("spoiled", 1, ""))
	}
	for i := range l.ops {
		l.ops[i] = impl.TableOp{Kind: -1}
	}
}

// spoilEntries changes all of a list, the room behind it included.
func spoilEntries(entries []impl.RunEntry) {
	entries = entries[:cap(entries)]
	for i := range entries {
		entries[i] = entryOf("spoiled "+entries[i].Key, entries[i].Seq+1, "")
	}
}

func copyText(entries []impl.RunEntry) []impl.RunEntry {
	var list []impl.RunEntry
	for _, e := range entries {
		list = append(list, impl.RunEntry{Key: strings.Clone(e.Key), Seq: e.Seq, Gone: e.Gone, Text: strings.Clone(e.Text)})
	}
	return list
}

// listsOf are all lists of entries that a run answers.
func listsOf(r impl.TableRun) [][]impl.RunEntry {
	lists := [][]impl.RunEntry{r.Table.Fresh.Entries}
	for _, run := range r.Table.Runs {
		lists = append(lists, run.Entries)
	}
	for _, out := range r.Outs {
		lists = append(lists, out.Entries, []impl.RunEntry{entryOf("a Text", 1, out.Text)})
	}
	return lists
}

func copyLists(lists [][]impl.RunEntry) [][]impl.RunEntry {
	var list [][]impl.RunEntry
	for _, entries := range lists {
		list = append(list, copyText(entries))
	}
	return list
}

func TestP9AnswersOfTablesAreNewMemory(t *testing.T) {
	x := newRunTables()
	for i := range 300 {
		table := x.table(12)
		ops := x.ops(x.chance.Intn(25), table.Seq)
		if i%3 == 0 {
			ops = append(ops, ruScan("", "", table.Floor, 99), ruScan("", "", table.Floor, 99), ruFlush(), ruScan("", "", table.Floor, 99))
		}
		if i%7 == 0 {
			ops = nil
		}
		lent := lendTable(table, ops)
		got := impl.RunTable(lent.table, lent.list())
		lists := listsOf(got)
		was := copyLists(lists)
		if !lent.kept() {
			t.Fatalf("run %d wrote into an argument", i)
		}
		lent.spoil()
		if want := plainTable(table, ops); !reflect.DeepEqual(copyLists(lists), was) || !isTable(got.Table, want.Table) || !sameTold(got.Outs, want.Outs) {
			t.Fatalf("run %d shares memory with an argument", i)
		}
		for k, entries := range lists {
			if !slices.Equal(entries, was[k]) {
				t.Fatalf("run %d: list %d shares memory with one ahead of it", i, k)
			}
			spoilEntries(entries)
		}
		runs := got.Table.Runs[:cap(got.Table.Runs)]
		for k := range runs {
			runs[k] = runOf(entryOf("spoiled", 1, ""))
		}
	}
}

func TestP9AnswersOfReadsAreNewMemory(t *testing.T) {
	x := newRunTables()
	for i := range 300 {
		table := x.table(12)
		floor := x.chance.Int63n(table.Seq + 1)
		lent := lendTable(table, nil)
		key, from, to := newLoan(x.key()), newLoan(""), newLoan("key/2")
		found := impl.FindEntry(lent.table, key.text(), table.Seq)
		told := impl.ScanTable(lent.table, from.text(), to.text(), table.Seq, 99)
		merged := impl.MergeRuns(lent.table.Runs, floor)
		fault := impl.TableFault(lent.table) + impl.RunFault(lent.table.Fresh)
		if !lent.kept() || !key.kept() || !from.kept() || !to.kept() || fault != impl.OK {
			t.Fatalf("%d: a call wrote into an argument", i)
		}
		want := copyText(slices.Concat([]impl.RunEntry{found}, told, merged.Entries))
		lent.spoil()
		key.spoil()
		to.spoil()
		if got := slices.Concat([]impl.RunEntry{found}, told, merged.Entries); !slices.Equal(got, want) {
			t.Fatalf("%d: an answer shares memory with an argument", i)
		}
		if !isRun(merged, plainMerge(table.Runs, floor)) {
			t.Fatalf("%d: %v", i, merged)
		}
	}
}

func TestP9NoCallOfRunsPanics(t *testing.T) {
	x := newRunTables()
	numbers := []int64{math.MinInt64, -1, 0, 1, 2, 3, 5, 1000, topSeq, topSeq + 1, math.MaxInt64}
	number := func() int64 { return numbers[x.chance.Intn(len(numbers))] }
	texts := []string{"", "a", "b", "\x00", strings.Repeat("k", impl.MaxKey), strings.Repeat("k", impl.MaxKey+1), strings.Repeat("t", impl.MaxBytes+1)}
	text := func() string { return texts[x.chance.Intn(len(texts))] }
	wild := func() impl.SortedRun {
		var run impl.SortedRun
		for range x.chance.Intn(4) {
			run.Entries = append(run.Entries, impl.RunEntry{Key: text(), Seq: number(), Gone: x.chance.Intn(2) == 0, Text: text()})
		}
		return run
	}
	for i := range 5000 {
		table := impl.Table{Seq: number(), Floor: number(), Fresh: wild()}
		for range x.chance.Intn(3) {
			table.Runs = append(table.Runs, wild())
		}
		if i%2 == 0 {
			table = x.table(8)
		}
		key, to, seq, most := text(), text(), number(), number()
		var ops []impl.TableOp
		for range x.chance.Intn(5) {
			ops = append(ops, impl.TableOp{Kind: x.chance.Int63n(9) - 1, Key: text(), Text: text(), Seq: number(), To: text(), Limit: number()})
		}
		noPanic(t, "RunFault", func() { impl.RunFault(table.Fresh) })
		noPanic(t, "TableFault", func() { impl.TableFault(table) })
		noPanic(t, "MergeRuns", func() { impl.MergeRuns(table.Runs, seq) })
		noPanic(t, "FindEntry", func() { impl.FindEntry(table, key, seq) })
		noPanic(t, "ScanTable", func() { impl.ScanTable(table, key, to, seq, most) })
		noPanic(t, "RunTable", func() { impl.RunTable(table, ops) })
	}
}

// As many entries, as many operations, and Texts as long as there can be: to copy them for each scan would take up all the
// memory that there is.
func TestP9TheGreatestRunsOfATableEnd(t *testing.T) {
	most := strings.Repeat("t", impl.MaxBytes)
	table := impl.Table{Seq: impl.MaxEntries, Fresh: upTo(impl.MaxEntries, 1)[0]}
	for i := range table.Fresh.Entries {
		table.Fresh.Entries[i].Text = most
	}
	ops := slices.Repeat([]impl.TableOp{ruScan("", "", impl.MaxEntries, math.MaxInt64)}, impl.MaxOps)
	got := impl.RunTable(table, ops)
	for i, out := range got.Outs {
		if len(out.Entries) != impl.MaxEntries || out.Code != impl.OK {
			t.Fatalf("operation %d: %d entries", i, len(out.Entries))
		}
	}
	if len(got.Outs) != impl.MaxOps {
		t.Errorf("%d outs", len(got.Outs))
	}
	lead := strings.Repeat("k", impl.MaxKey-4)
	ops = nil
	for i := range impl.MaxOps / 2 {
		ops = append(ops, ruPut(lead+strconv.Itoa(9999-i), ""), ruScan(lead, "", int64(i), math.MaxInt64))
	}
	got = impl.RunTable(impl.Table{}, ops)
	if last := got.Outs[len(got.Outs)-1]; len(last.Entries) != 999 || last.Entries[0].Key != lead+"9001" {
		t.Errorf("%d entries", len(last.Entries))
	}
	ops = slices.Repeat([]impl.TableOp{ruCompact(0), ruGet("kkkkkkkk100999", 1000), ruCompact(0), ruScan("", "", 1000, 1)}, impl.MaxOps/4)
	got = impl.RunTable(impl.Table{Seq: impl.MaxEntries, Runs: upTo(impl.MaxEntries, impl.MaxRuns)}, ops)
	if out := got.Outs[len(got.Outs)-3]; out.Text != "999" {
		t.Errorf("%v", out)
	}
}
