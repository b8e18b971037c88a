package tests

import (
	"fmt"
	"math"
	"slices"
	"strings"
	"testing"

	"loop.example/g00020/impl"
)

// Short names for operations.
func upStart(key string) impl.UploadOp {
	return impl.UploadOp{Kind: impl.UpStart, Key: key}
}
func upPart(upload, part int64, data string) impl.UploadOp {
	return impl.UploadOp{Kind: impl.UpPart, Upload: upload, Part: part, Data: data}
}
func upCopy(upload, part int64, key string, from, count int64) impl.UploadOp {
	return impl.UploadOp{Kind: impl.UpCopy, Upload: upload, Part: part, Key: key, From: from, Count: count}
}
func upDone(upload int64, parts, sums []int64) impl.UploadOp {
	return impl.UploadOp{Kind: impl.UpDone, Upload: upload, Parts: parts, Sums: sums}
}
func upDrop(upload int64) impl.UploadOp {
	return impl.UploadOp{Kind: impl.UpDrop, Upload: upload}
}
func upBucket(op impl.BucketOp) impl.UploadOp {
	return impl.UploadOp{Kind: impl.UpBucket, Op: op}
}

// numbered is a part as an upload is done with it.
type numbered struct {
	part int64
	data string
}

func partSum(data string) int64 {
	return impl.SumOf(data, 2)
}

// upDoneOf is a done with the right sums.
func upDoneOf(upload int64, parts ...numbered) impl.UploadOp {
	op := upDone(upload, nil, nil)
	for _, p := range parts {
		op.Parts = append(op.Parts, p.part)
		op.Sums = append(op.Sums, partSum(p.data))
	}
	return op
}

// under is a done at a time, with a lock and a condition.
func under(op impl.UploadOp, now, until, ifId int64) impl.UploadOp {
	op.Op.Time, op.Op.Until, op.Op.IfId = now, until, ifId
	return op
}

// plainUpload is an upload with a place for each part that it may have.
type plainUpload struct {
	key   string
	parts [101]*string
}

// plainDock is the document's sentences: a bucket, all uploads that were ever started (nil where one is open no more),
// and which operations the bucket was asked for by which of the run's.
type plainDock struct {
	bucket  impl.Bucket
	uploads []*plainUpload
	asked   []impl.BucketOp
	askedBy []int
	turn    int
}

func (d *plainDock) open() int64 {
	var count int64
	for _, u := range d.uploads {
		if u != nil {
			count++
		}
	}
	return count
}

func (d *plainDock) named(number int64) *plainUpload {
	if number < 1 || number > int64(len(d.uploads)) {
		return nil
	}
	return d.uploads[number-1]
}

func upCode(code int64) impl.UploadOut {
	return impl.UploadOut{Code: code}
}

func (d *plainDock) start(op impl.UploadOp) impl.UploadOut {
	if len(op.Key) == 0 || len(op.Key) > 200 {
		return upCode(impl.ErrForm)
	}
	if d.open() == 20 {
		return upCode(impl.ErrFull)
	}
	d.uploads = append(d.uploads, &plainUpload{key: op.Key})
	return impl.UploadOut{Upload: int64(len(d.uploads))}
}

func (d *plainDock) part(u *plainUpload, op impl.UploadOp) impl.UploadOut {
	if op.Part < 1 || op.Part > 100 {
		return upCode(impl.ErrForm)
	}
	data := op.Data
	if op.Kind == impl.UpCopy {
		got := plainBuGet(d.bucket, buPiece(op.Key, op.From, op.Count))
		if got.Code != impl.OK {
			return upCode(got.Code)
		}
		data = got.Data
	}
	if len(data) > 100000 {
		return upCode(impl.ErrSize)
	}
	u.parts[op.Part] = &data
	return impl.UploadOut{Sum: partSum(data)}
}

func (d *plainDock) ask(op impl.BucketOp) impl.UploadOut {
	d.asked = append(d.asked, op)
	d.askedBy = append(d.askedBy, d.turn)
	out := plainBuOp(&d.bucket, op)
	return impl.UploadOut{Code: out.Code, Out: out}
}

func (d *plainDock) done(u *plainUpload, op impl.UploadOp) impl.UploadOut {
	if len(op.Parts) == 0 || len(op.Sums) != len(op.Parts) {
		return upCode(impl.ErrForm)
	}
	for i, part := range op.Parts[1:] {
		if part <= op.Parts[i] {
			return upCode(impl.ErrForm)
		}
	}
	var data strings.Builder
	for i, part := range op.Parts {
		if part < 1 || part > 100 || u.parts[part] == nil || partSum(*u.parts[part]) != op.Sums[i] {
			return upCode(impl.ErrStale)
		}
		data.WriteString(*u.parts[part])
	}
	if data.Len() > 100000 {
		return upCode(impl.ErrSize)
	}
	out := d.ask(impl.BucketOp{Kind: impl.BuPut, Key: u.key, Data: data.String(), Time: op.Op.Time, Until: op.Op.Until, IfId: op.Op.IfId})
	if out.Code == impl.OK {
		d.uploads[op.Upload-1] = nil
	}
	return out
}

func (d *plainDock) doKind(op impl.UploadOp) impl.UploadOut {
	if op.Kind == 1 {
		return d.start(op)
	}
	if op.Kind == 6 {
		return d.ask(op.Op)
	}
	if op.Kind < 1 || op.Kind > 6 {
		return upCode(impl.ErrForm)
	}
	u := d.named(op.Upload)
	if u == nil {
		return upCode(impl.ErrNone)
	}
	if op.Kind == 4 {
		d.uploads[op.Upload-1] = nil
		return impl.UploadOut{}
	}
	if op.Kind == 3 {
		return d.done(u, op)
	}
	return d.part(u, op)
}

func (d *plainDock) do(op impl.UploadOp) impl.UploadOut {
	out := d.doKind(op)
	d.turn++
	out.Open = d.open()
	return out
}

// plainUploads gives what a right run answers, and the dock behind it.
func plainUploads(b impl.Bucket, ops []impl.UploadOp) (impl.UploadRun, *plainDock) {
	d := &plainDock{bucket: b}
	if plainBucketFault(b) != impl.OK || len(ops) > 2000 {
		return impl.UploadRun{}, d
	}
	var run impl.UploadRun
	for _, op := range ops {
		run.Outs = append(run.Outs, d.do(op))
	}
	run.Bucket = d.bucket
	return run, d
}

func sameUpOut(a, b impl.UploadOut) bool {
	return a.Code == b.Code && a.Upload == b.Upload && a.Sum == b.Sum && a.Open == b.Open && sameBuOut(a.Out, b.Out)
}

func sameUpOuts(a, b []impl.UploadOut) bool {
	return slices.EqualFunc(a, b, sameUpOut)
}

func sameUploads(a, b impl.UploadRun) bool {
	return sameBucket(a.Bucket, b.Bucket) && sameUpOuts(a.Outs, b.Outs)
}

func isNoUploads(r impl.UploadRun) bool {
	return sameBucket(r.Bucket, impl.Bucket{}) && len(r.Outs) == 0
}

// shortUp and shortUpOut are an operation and an answer as a message tells them.
func shortUp(op impl.UploadOp) string {
	return fmt.Sprintf("%.250v", fmt.Sprintf("%+v", op))
}
func shortUpOut(out impl.UploadOut) string {
	return fmt.Sprintf("%.250v", fmt.Sprintf("%+v", out))
}

// checkUploads holds a run against the plain one, and to what the promise says of it.
func checkUploads(t *testing.T, what string, b impl.Bucket, ops []impl.UploadOp) impl.UploadRun {
	t.Helper()
	got := impl.RunUploads(b, ops)
	want, dock := plainUploads(b, ops)
	if len(got.Outs) != len(ops) {
		t.Fatalf("%s: %d outs for %d operations", what, len(got.Outs), len(ops))
	}
	for i, op := range ops {
		if !sameUpOut(got.Outs[i], want.Outs[i]) {
			t.Fatalf("%s: operation %d, %s:\n%s, not\n%s", what, i, shortUp(op), shortUpOut(got.Outs[i]), shortUpOut(want.Outs[i]))
		}
	}
	if !sameBucket(got.Bucket, want.Bucket) || impl.BucketFault(got.Bucket) != impl.OK {
		t.Fatalf("%s: behind all\n%.500v, not\n%.500v", what, fmt.Sprintf("%+v", got.Bucket), fmt.Sprintf("%+v", want.Bucket))
	}
	checkPuts(t, what, b, got, dock)
	checkQuiet(t, what, b, ops, got)
	return got
}

// checkPuts holds the run against one of the bucket alone, in which each upload that is done is one put of its parts,
// and nothing else of uploads is seen.
func checkPuts(t *testing.T, what string, b impl.Bucket, got impl.UploadRun, dock *plainDock) {
	t.Helper()
	alone := impl.RunBucket(b, dock.asked)
	if !sameBucket(got.Bucket, alone.Bucket) {
		t.Fatalf("%s: the bucket is not as behind the puts alone", what)
	}
	for i, by := range dock.askedBy {
		if out := got.Outs[by]; !sameBuOut(out.Out, alone.Outs[i]) || out.Code != alone.Outs[i].Code {
			t.Fatalf("%s: operation %d: %s, but the put alone answers %.250v", what, by, shortUpOut(out), fmt.Sprintf("%+v", alone.Outs[i]))
		}
	}
}

// checkQuiet leaves out all operations that had a code: what the others answer, and the bucket, is the same without
// them.
func checkQuiet(t *testing.T, what string, b impl.Bucket, ops []impl.UploadOp, got impl.UploadRun) {
	t.Helper()
	var rest []impl.UploadOp
	var outs []impl.UploadOut
	for i, out := range got.Outs {
		if out.Code == impl.OK {
			rest = append(rest, ops[i])
			outs = append(outs, out)
			continue
		}
		if only := (impl.UploadOut{Code: out.Code, Out: impl.BucketOut{Code: out.Out.Code}, Open: out.Open}); !sameUpOut(out, only) {
			t.Fatalf("%s: operation %d: with a code more is told: %s", what, i, shortUpOut(out))
		}
	}
	if quiet := impl.RunUploads(b, rest); !sameUploads(quiet, impl.UploadRun{Bucket: got.Bucket, Outs: outs}) {
		t.Fatalf("%s: an operation with a code changed something", what)
	}
}

// checkBehindEach looks at the bucket behind each operation.
func checkBehindEach(t *testing.T, what string, b impl.Bucket, ops []impl.UploadOp) impl.UploadRun {
	t.Helper()
	got := checkUploads(t, what, b, ops)
	dock := &plainDock{bucket: b}
	for i, op := range ops {
		dock.do(op)
		if step := impl.RunUploads(b, ops[:i+1]); !sameBucket(step.Bucket, dock.bucket) || !sameUpOuts(step.Outs, got.Outs[:i+1]) {
			t.Fatalf("%s: behind operation %d, %s, the bucket is another", what, i, shortUp(op))
		}
	}
	return got
}

// upStep is an operation with the code that it is to answer.
type upStep struct {
	op   impl.UploadOp
	code int64
}

// checkUpCodes is checkBehindEach with the code of each operation.
func checkUpCodes(t *testing.T, what string, b impl.Bucket, steps []upStep) impl.UploadRun {
	t.Helper()
	var ops []impl.UploadOp
	for _, step := range steps {
		ops = append(ops, step.op)
	}
	run := checkBehindEach(t, what, b, ops)
	for i, step := range steps {
		if run.Outs[i].Code != step.code {
			t.Errorf("%s: operation %d, %s: code %d, not %d", what, i, shortUp(step.op), run.Outs[i].Code, step.code)
		}
	}
	return run
}

// probes are operations that tell all that uploads have: each is done under a condition that is none, which answers
// ErrForm just where the parts and their sums are right; then a new one is started, and each is done.
func probes(d *plainDock) []impl.UploadOp {
	var looks, dones []impl.UploadOp
	for number := range int64(len(d.uploads)) + 2 {
		u := d.named(number)
		op := upDone(number, nil, nil)
		for part := range int64(102) {
			if u != nil && part >= 1 && part <= 100 && u.parts[part] != nil {
				op.Parts = append(op.Parts, part)
				op.Sums = append(op.Sums, partSum(*u.parts[part]))
				looks = append(looks, under(upDone(number, []int64{part}, []int64{partSum(*u.parts[part])}), 1, 0, -2))
			} else if part < 8 || part > 98 {
				looks = append(looks, under(upDone(number, []int64{part}, []int64{partSum("")}), 1, 0, -2), under(upDone(number, []int64{part}, []int64{0}), 1, 0, -2))
			}
		}
		looks = append(looks, under(op, 1, 0, -2))
		dones = append(dones, under(op, 1, 0, 0))
	}
	looks = append(looks, upStart("a new one"))
	return append(append(looks, dones...), upBucket(buVersions("", 1000)))
}

// checkRefused does one operation more than a run: it answers a code, and the bucket and the uploads are as they were.
func checkRefused(t *testing.T, what string, b impl.Bucket, ops []impl.UploadOp, op impl.UploadOp, code int64) {
	t.Helper()
	ahead := impl.RunUploads(b, ops)
	_, dock := plainUploads(b, ops)
	got := checkUploads(t, what, b, append(slices.Clone(ops), op))
	out := got.Outs[len(ops)]
	if out.Code != code || out.Open != dock.open() {
		t.Errorf("%s: %s: %s, not code %d with %d open", what, shortUp(op), shortUpOut(out), code, dock.open())
	}
	if !sameBucket(got.Bucket, ahead.Bucket) {
		t.Errorf("%s: %s: the bucket is another", what, shortUp(op))
	}
	tell := probes(dock)
	was := impl.RunUploads(b, append(slices.Clone(ops), tell...))
	now := impl.RunUploads(b, append(append(slices.Clone(ops), op), tell...))
	if len(was.Outs) == 0 || !sameUpOuts(was.Outs[len(ops):], now.Outs[len(ops)+1:]) || !sameBucket(was.Bucket, now.Bucket) {
		t.Errorf("%s: %s: the uploads are others", what, shortUp(op))
	}
}

// uploads draws operations beside those that buckets draw.
type uploads struct {
	buckets
}

func newUploads(seed int64) uploads {
	return uploads{newBuckets(seed)}
}

// number is mostly that of an open upload.
func (x uploads) number(d *plainDock) int64 {
	var open []int64
	for i, u := range d.uploads {
		if u != nil {
			open = append(open, int64(i)+1)
		}
	}
	if len(open) == 0 || x.chance.Intn(10) == 0 {
		return x.chance.Int63n(int64(len(d.uploads))+3) - 1
	}
	return open[x.chance.Intn(len(open))]
}

// part is one of few, so that parts are often put again.
func (x uploads) part() int64 {
	return []int64{1, 2, 3, 4, 50, 99, 100, 2, 3, 4}[x.chance.Intn(10)]
}

// done names some of the parts that an upload has.
func (x uploads) done(d *plainDock) impl.UploadOp {
	op := upDone(x.number(d), nil, nil)
	if u := d.named(op.Upload); u != nil {
		most := 1 + x.chance.Intn(3)
		for part := range int64(101) {
			if u.parts[part] != nil && x.chance.Intn(most) == 0 {
				op.Parts = append(op.Parts, part)
				op.Sums = append(op.Sums, partSum(*u.parts[part]))
			}
		}
	}
	return under(op, x.now(), x.until(), x.ifId(d.bucket.NextId))
}

// spoiled is a done with a fault in its Parts or Sums, in most cases.
func (x uploads) spoiled(op impl.UploadOp) impl.UploadOp {
	if len(op.Parts) == 0 {
		return op
	}
	at := x.chance.Intn(len(op.Parts))
	switch x.chance.Intn(6) {
	case 0:
		op.Sums[at]++
	case 1:
		op.Parts[at]++
	case 2:
		op.Sums = op.Sums[1:]
	case 3:
		op.Sums = append(op.Sums, 0)
	case 4:
		slices.Reverse(op.Parts)
	case 5:
		op.Parts = append(op.Parts, op.Parts[len(op.Parts)-1])
		op.Sums = append(op.Sums, op.Sums[len(op.Sums)-1])
	}
	return op
}

// bucketOp is one on the bucket, often on a key that an upload is for or copies from.
func (x uploads) bucketOp(d *plainDock) impl.BucketOp {
	op := x.buckets.op(d.bucket.NextId)
	if u := d.named(x.number(d)); u != nil && x.chance.Intn(2) == 0 {
		op.Key = u.key
	}
	return op
}

// wrongUp is one that has a fault in itself.
func (x uploads) wrongUp(d *plainDock) impl.UploadOp {
	n := x.number(d)
	list := []impl.UploadOp{
		{Upload: n}, {Kind: 7, Upload: n, Key: "a", Part: 1}, {Kind: -1, Upload: n}, {Kind: 1 << 32, Upload: n, Key: "a", Part: 1}, upStart(""), upStart(times("k", impl.MaxKey+1)),
		upPart(n, 0, "x"), upPart(n, -1, "x"), upPart(n, 101, "x"), upPart(-n, 1, "x"), upPart(n, 1, times("x", impl.MaxBytes+1)), upCopy(n, 0, "a", 0, 0), upCopy(n, 101, "a", 0, 0),
		upCopy(n, 1, "", 0, 0), upCopy(n, 1, "a", -1, 0), upCopy(n, 1, "a", 0, -1), upCopy(n, 1, "a", math.MaxInt64, math.MaxInt64), upDone(n, nil, nil), upDone(n, []int64{1}, nil), upDone(n, nil, []int64{1}),
		under(x.done(d), -1, 0, 0), under(x.done(d), 1, -1, 0), under(x.done(d), 1, impl.MaxTime+1, 0), under(x.done(d), 1, 0, -2), upBucket(x.wrongOp()), upDrop(0), upDrop(-1),
	}
	return list[x.chance.Intn(len(list))]
}

func (x uploads) op(d *plainDock) impl.UploadOp {
	switch kind := x.chance.Intn(40); {
	case kind < 5:
		return upStart(x.key())
	case kind < 14:
		return upPart(x.number(d), x.part(), x.data())
	case kind < 19:
		return upCopy(x.number(d), x.part(), x.key(), x.chance.Int63n(5), x.chance.Int63n(5))
	case kind < 26:
		return x.done(d)
	case kind < 28:
		return x.spoiled(x.done(d))
	case kind < 29:
		return upDrop(x.number(d))
	case kind < 38:
		return upBucket(x.bucketOp(d))
	}
	return x.wrongUp(d)
}

// ops are drawn one by one, each at what the dock has behind those ahead of it.
func (x uploads) ops(count int, b impl.Bucket) []impl.UploadOp {
	d := &plainDock{bucket: b}
	var ops []impl.UploadOp
	for range count {
		op := x.op(d)
		d.do(op)
		ops = append(ops, op)
	}
	return ops
}

func TestP16LimitsAndKindsAsTheDocumentHasThem(t *testing.T) {
	got := []int{impl.MaxUploads, impl.MaxParts, impl.UpStart, impl.UpPart, impl.UpDone, impl.UpDrop, impl.UpCopy, impl.UpBucket}
	if !slices.Equal(got, []int{20, 100, 1, 2, 3, 4, 5, 6}) {
		t.Error(got)
	}
}

// A run whose answers are written out here, one for each operation.
func TestP16ARunAsKnown(t *testing.T) {
	ab, c, empty := bigSum("ab", 2), bigSum("c", 2), bigSum("", 2)
	ops := []impl.UploadOp{
		upStart("k"), upStart("k"), upPart(1, 7, "ab"), upPart(1, 3, "wrong"), upPart(1, 3, "c"), upPart(2, 1, ""),
		upBucket(buPut("k", "xaby", 4)), upCopy(2, 2, "k", 1, 2), upCopy(2, 3, "k", 4, 0), upCopy(2, 3, "k", 5, 0),
		under(upDone(1, []int64{3, 7}, []int64{c, ab}), 5, 9, 1), upBucket(buGet("k", 0)), upDone(1, []int64{3, 7}, []int64{c, ab}),
		under(upDone(2, []int64{1, 2, 3}, []int64{empty, ab, empty}), 6, 0, 1), under(upDone(2, []int64{1, 2, 3}, []int64{empty, ab, empty}), 6, 0, -2),
		under(upDone(2, []int64{1, 2, 3}, []int64{empty, ab, empty}), 6, 0, 2), upStart("m"), upDrop(3), upBucket(buVersions("", 9)), upBucket(buGet("m", 0)), {Kind: 9},
	}
	want := []impl.UploadOut{
		{Upload: 1, Open: 1}, {Upload: 2, Open: 2}, {Sum: ab, Open: 2}, {Sum: bigSum("wrong", 2), Open: 2}, {Sum: c, Open: 2}, {Sum: empty, Open: 2},
		{Out: impl.BucketOut{Id: 1}, Open: 2}, {Sum: ab, Open: 2}, {Sum: empty, Open: 2}, {Code: impl.ErrSize, Open: 2},
		{Out: impl.BucketOut{Id: 2}, Open: 1}, {Out: impl.BucketOut{Id: 2, Data: "cab"}, Open: 1}, {Code: impl.ErrNone, Open: 1},
		{Code: impl.ErrStale, Out: impl.BucketOut{Code: impl.ErrStale}, Open: 1}, {Code: impl.ErrForm, Out: impl.BucketOut{Code: impl.ErrForm}, Open: 1},
		{Out: impl.BucketOut{Id: 3}}, {Upload: 3, Open: 1}, {}, {Out: impl.BucketOut{Keys: []string{"k#3", "k#2", "k#1"}}}, {Code: impl.ErrNone, Out: impl.BucketOut{Code: impl.ErrNone}}, {Code: impl.ErrForm},
	}
	got := checkBehindEach(t, "known", impl.Bucket{NextId: 1, Kept: true}, ops)
	for i := range want {
		if !sameUpOut(got.Outs[i], want[i]) {
			t.Errorf("operation %d, %s:\n%s, not\n%s", i, shortUp(ops[i]), shortUpOut(got.Outs[i]), shortUpOut(want[i]))
		}
	}
	list := []impl.Version{aged(versionOf("k", 1, "xaby"), 4), locked(aged(versionOf("k", 2, "cab"), 5), 9, false), aged(versionOf("k", 3, "ab"), 6)}
	if !sameBucket(got.Bucket, impl.Bucket{NextId: 4, Kept: true, List: list}) {
		t.Errorf("%+v", got.Bucket)
	}
}

// cutUp is a text as parts of rising numbers, some of them empty.
func (x uploads) cutUp(text string, count int) []numbered {
	numbers := x.chance.Perm(100)[:count]
	slices.Sort(numbers)
	var parts []numbered
	for i, n := range numbers {
		size := x.chance.Intn(len(text) + 1)
		if i == count-1 {
			size = len(text)
		}
		parts = append(parts, numbered{int64(n) + 1, text[:size]})
		text = text[size:]
	}
	return parts
}

// given are the operations that give an upload its parts in any order, some of them put otherwise ahead of that, and
// some more parts that it is not done with.
func (x uploads) given(upload int64, parts []numbered) []impl.UploadOp {
	var early, ops []impl.UploadOp
	for _, p := range parts {
		if x.chance.Intn(3) == 0 {
			early = append(early, upPart(upload, p.part, x.data()))
		}
		ops = append(ops, upPart(upload, p.part, p.data))
	}
	for range x.chance.Intn(4) {
		n := x.chance.Int63n(100) + 1
		if !slices.ContainsFunc(parts, func(p numbered) bool { return p.part == n }) {
			ops = append(ops, upPart(upload, n, x.data()))
		}
	}
	x.chance.Shuffle(len(ops), func(i, j int) { ops[i], ops[j] = ops[j], ops[i] })
	return append(early, ops...)
}

// On any bucket, with any lock, condition and quota: an upload that is done is the put of its bytes.
func TestP16DoneIsOnePut(t *testing.T) {
	x := newUploads(21)
	met := map[int64]int{}
	for i := range 4000 {
		b := x.bucket(10)
		count := 1
		if i%3 > 0 {
			count = 1 + x.chance.Intn(12)
		}
		data := mixedBytes(x.chance.Intn(60))
		put := impl.BucketOp{Kind: impl.BuPut, Key: x.key(), Data: data, Time: x.now(), Until: x.until(), IfId: x.ifId(b.NextId)}
		parts := x.cutUp(data, count)
		ops := append([]impl.UploadOp{upStart(put.Key)}, x.given(1, parts)...)
		ops = append(ops, under(upDoneOf(1, parts...), put.Time, put.Until, put.IfId))
		got := checkUploads(t, fmt.Sprint("run ", i), b, ops)
		want := impl.RunBucket(b, []impl.BucketOp{put})
		last := got.Outs[len(ops)-1]
		if !sameBucket(got.Bucket, want.Bucket) || !sameBuOut(last.Out, want.Outs[0]) || last.Code != want.Outs[0].Code || last.Upload != 0 || last.Sum != 0 {
			t.Fatalf("run %d: %s, but one put answers %+v", i, shortUpOut(last), want.Outs[0])
		}
		if open := last.Open; (last.Code == impl.OK) != (open == 0) || open > 1 {
			t.Fatalf("run %d: code %d, %d open", i, last.Code, open)
		}
		met[last.Code]++
	}
	for _, code := range []int64{impl.OK, impl.ErrForm, impl.ErrStale, impl.ErrLocked, impl.ErrFull} {
		if met[code] < 20 {
			t.Errorf("code %d was met only %d times", code, met[code])
		}
	}
}

// What else a done's operation names plays no part: not its Kind, Key, Data or Id.
func TestP16OnlyTimeUntilAndIfIdOfADoneCount(t *testing.T) {
	b := bucketOf(true, versionOf("k", 1, "old"), versionOf("m", 2, "other"))
	done := under(upDoneOf(1, numbered{1, "new"}), 5, 6, 1)
	ops := []impl.UploadOp{upStart("k"), upPart(1, 1, "new"), done}
	want := checkUploads(t, "plain", b, ops)
	ops[2].Op = impl.BucketOp{Kind: impl.BuDelete, Key: "m", Id: -1, Data: times("x", impl.MaxBytes+1), Time: 5, Until: 6, Flag: true, IfId: 1, Prefix: "p", Delim: "d", After: "a", Limit: -1,
		Rules: []impl.LifeRule{ruleOf(9, "", -1)}, From: -1, Count: -1}
	ops[2].Part, ops[2].Key, ops[2].Data, ops[2].From, ops[2].Count = -1, times("k", impl.MaxKey+1), times("x", impl.MaxBytes+1), -1, -1
	got := checkUploads(t, "with more", b, ops)
	if !sameUploads(got, want) || got.Outs[2].Out.Id != 3 || got.Bucket.List[2] != locked(aged(versionOf("k", 3, "new"), 5), 6, false) {
		t.Errorf("%+v", got)
	}
}

// What the other operations do not name plays no part either.
func TestP16WhatIsNotNamedPlaysNoPart(t *testing.T) {
	b := bucketOf(true, versionOf("k", 1, "old"))
	long := times("x", impl.MaxBytes+1)
	junk := impl.UploadOp{Upload: 1, Part: -1, Key: long, Data: long, Parts: []int64{9, 9}, Sums: []int64{1}, From: -1, Count: -1, Op: impl.BucketOp{Kind: 99, Key: long, Data: long, Time: -1, Until: -1, IfId: -2}}
	start, part, copied, drop, bucket := junk, junk, junk, junk, junk
	start.Kind, start.Key, start.Upload = impl.UpStart, "k", -1
	part.Kind, part.Part, part.Data = impl.UpPart, 1, "data"
	copied.Kind, copied.Part, copied.Key, copied.From, copied.Count = impl.UpCopy, 2, "k", 1, 1
	drop.Kind = impl.UpDrop
	bucket.Kind, bucket.Op = impl.UpBucket, buGet("k", 0)
	got := checkBehindEach(t, "junk", b, []impl.UploadOp{start, part, copied, bucket, drop})
	want := []impl.UploadOut{{Upload: 1, Open: 1}, {Sum: partSum("data"), Open: 1}, {Sum: partSum("l"), Open: 1}, {Out: impl.BucketOut{Id: 1, Data: "old"}, Open: 1}, {}}
	if !sameUpOuts(got.Outs, want) {
		t.Errorf("%+v", got.Outs)
	}
}

// All orders in which four parts can be put, and each of them put once more.
func TestP16PartsInAnyOrder(t *testing.T) {
	parts := []numbered{{1, "one "}, {2, ""}, {50, "fifty "}, {100, "hundred"}}
	b := bucketOf(true, versionOf("k", 1, "old"))
	want := impl.RunBucket(b, []impl.BucketOp{buPut("k", "one fifty hundred", 3)})
	for code := range 256 {
		order := []int{code % 4, code / 4 % 4, code / 16 % 4, code / 64}
		if len(slices.Compact(slices.Sorted(slices.Values(order)))) < 4 {
			continue
		}
		for _, again := range []int{-1, 0, 1, 2, 3} {
			ops := []impl.UploadOp{upStart("k")}
			if again >= 0 {
				ops = append(ops, upPart(1, parts[again].part, "another"))
			}
			for _, i := range order {
				ops = append(ops, upPart(1, parts[i].part, parts[i].data))
			}
			if again >= 0 {
				ops = append(ops, upPart(1, parts[again].part, parts[again].data))
			}
			ops = append(ops, under(upDoneOf(1, parts...), 3, 0, 0))
			got := checkUploads(t, fmt.Sprint(order, again), b, ops)
			if !sameBucket(got.Bucket, want.Bucket) || !sameBuOut(got.Outs[len(ops)-1].Out, want.Outs[0]) {
				t.Fatalf("%v: %+v", order, got.Bucket)
			}
		}
	}
}

// All choices of the parts of an upload, each done on the same bucket.
func TestP16SomeOfTheParts(t *testing.T) {
	parts := []numbered{{1, "a"}, {2, "bc"}, {3, ""}, {40, "def"}, {99, "g"}, {100, "hi"}}
	for _, kept := range []bool{true, false} {
		b := bucketOf(kept, versionOf("k", 1, "old"), versionOf("j", 2, "other"))
		ops := []impl.UploadOp{upStart("k")}
		for _, p := range parts {
			ops = append(ops, upPart(1, p.part, p.data))
		}
		for choice := 1; choice < 1<<len(parts); choice++ {
			var some []numbered
			data := ""
			for i, p := range parts {
				if choice>>i&1 == 1 {
					some = append(some, p)
					data += p.data
				}
			}
			got := checkUploads(t, fmt.Sprint("choice ", choice), b, append(slices.Clone(ops), under(upDoneOf(1, some...), 3, 0, 1)))
			want := impl.RunBucket(b, []impl.BucketOp{at(buPutIf("k", data, 1), 3)})
			if out := got.Outs[len(ops)]; !sameBucket(got.Bucket, want.Bucket) || out.Code != impl.OK || out.Out.Id != 3 || out.Open != 0 {
				t.Fatalf("choice %d: %s", choice, shortUpOut(out))
			}
		}
	}
}

func TestP16APartIsWhatItWasLast(t *testing.T) {
	for _, last := range []string{"", "x", "second", "\x00"} {
		run := checkUpCodes(t, "put again", bucketOf(true), []upStep{
			{upStart("k"), impl.OK}, {upPart(1, 5, "first"), impl.OK}, {upPart(1, 5, last), impl.OK}, {upDoneOf(1, numbered{5, "first"}), impl.ErrStale},
			{upDoneOf(1, numbered{5, last}), impl.OK}, {upBucket(buGet("k", 0)), impl.OK},
		})
		if run.Outs[5].Out.Data != last {
			t.Errorf("%q: %q", last, run.Outs[5].Out.Data)
		}
	}
	run := checkUpCodes(t, "copied over", bucketOf(true, versionOf("m", 1, "copied")), []upStep{
		{upStart("k"), impl.OK}, {upPart(1, 5, "first"), impl.OK}, {upCopy(1, 5, "m", 0, 0), impl.OK}, {upDoneOf(1, numbered{5, "first"}), impl.ErrStale}, {upCopy(1, 6, "m", 0, 4), impl.OK},
		{upPart(1, 6, "last"), impl.OK}, {upDoneOf(1, numbered{5, "copied"}, numbered{6, "last"}), impl.OK}, {upBucket(buGet("k", 0)), impl.OK},
	})
	if run.Outs[7].Out.Data != "copiedlast" {
		t.Errorf("%q", run.Outs[7].Out.Data)
	}
}

// Uploads that are dropped, that go on, and that are refused leave the bucket as it was, whatever it has.
func TestP16DroppedOrNotDoneChangesNothing(t *testing.T) {
	x := newUploads(22)
	for i := range 1500 {
		b := x.bucket(10)
		d := &plainDock{bucket: b}
		var ops []impl.UploadOp
		for range 25 {
			op := x.op(d)
			if op.Kind == impl.UpBucket && op.Op.Kind != impl.BuGet && op.Op.Kind != impl.BuList && op.Op.Kind != impl.BuVersions {
				continue
			}
			if op.Kind == impl.UpDone && x.chance.Intn(2) == 0 {
				op = upDrop(op.Upload)
			} else if op.Kind == impl.UpDone {
				op = under(op, 1, 0, -2)
			}
			d.do(op)
			ops = append(ops, op)
		}
		if got := checkUploads(t, fmt.Sprint("run ", i), b, ops); !sameBucket(got.Bucket, b) {
			t.Fatalf("run %d: the bucket is another", i)
		}
	}
}

// twoOpen is a bucket with two uploads of one key and one of another, each with parts.
func twoOpen() (impl.Bucket, []impl.UploadOp) {
	b := bucketOf(true, versionOf("k", 1, "old"), versionOf("m", 2, "source"), versionOf("gone", 3, "x"), markerOf("gone", 4), versionOf("none", 5, ""))
	return b, []impl.UploadOp{
		upStart("k"), upStart("k"), upStart("j"), upPart(1, 1, "ab"), upPart(1, 2, ""), upPart(1, 100, "c"), upPart(2, 1, "other"), upPart(3, 7, "seven"), upStart("x"), upDrop(4), upStart("y"), upPart(5, 1, "y"),
		upDoneOf(5, numbered{1, "y"}),
	}
}

func TestP16ADoneThatIsRefusedChangesNothing(t *testing.T) {
	b, ops := twoOpen()
	ab, c, empty := partSum("ab"), partSum("c"), partSum("")
	for name, step := range map[string]upStep{
		"a wrong sum":                    {upDone(1, []int64{1}, []int64{c}), impl.ErrStale},
		"the last sum wrong":             {upDone(1, []int64{1, 2, 100}, []int64{ab, empty, ab}), impl.ErrStale},
		"the first sum wrong":            {upDone(1, []int64{1, 2, 100}, []int64{ab + 1, empty, c}), impl.ErrStale},
		"a sum of 0":                     {upDone(1, []int64{2}, []int64{0}), impl.ErrStale},
		"a sum below 0":                  {upDone(1, []int64{1}, []int64{-ab}), impl.ErrStale},
		"a sum of another seed":          {upDone(1, []int64{1}, []int64{impl.SumOf("ab", 3)}), impl.ErrStale},
		"sums of one another":            {upDone(1, []int64{1, 100}, []int64{c, ab}), impl.ErrStale},
		"another upload's sum":           {upDone(1, []int64{1}, []int64{partSum("other")}), impl.ErrStale},
		"a part that lacks":              {upDone(1, []int64{1, 3}, []int64{ab, empty}), impl.ErrStale},
		"a part that lacks, with sum 0":  {upDone(1, []int64{1, 3}, []int64{ab, 0}), impl.ErrStale},
		"another upload's part":          {upDone(1, []int64{1, 7}, []int64{ab, partSum("seven")}), impl.ErrStale},
		"a part of 0":                    {upDone(1, []int64{0, 1}, []int64{empty, ab}), impl.ErrStale},
		"a part below 0":                 {upDone(1, []int64{-1, 1}, []int64{ab, ab}), impl.ErrStale},
		"a part above":                   {upDone(1, []int64{1, 101}, []int64{ab, empty}), impl.ErrStale},
		"a part far above":               {upDone(1, []int64{1, 1 + 1<<32}, []int64{ab, ab}), impl.ErrStale},
		"the least and the most":         {upDone(1, []int64{math.MinInt64, math.MaxInt64}, []int64{ab, ab}), impl.ErrStale},
		"a condition of another Id":      {under(upDone(1, []int64{1}, []int64{ab}), 1, 0, 2), impl.ErrStale},
		"a condition of no key":          {under(upDone(1, []int64{1}, []int64{ab}), 1, 0, -1), impl.ErrStale},
		"a condition of a key not there": {under(upDone(3, []int64{7}, []int64{partSum("seven")}), 1, 0, 1), impl.ErrStale},
		"a condition that is none":       {under(upDone(1, []int64{1}, []int64{ab}), 1, 0, -2), impl.ErrForm},
		"no parts":                       {upDone(1, nil, nil), impl.ErrForm},
		"no parts but a sum":             {upDone(1, nil, []int64{ab}), impl.ErrForm},
		"parts that fall":                {upDone(1, []int64{2, 1}, []int64{empty, ab}), impl.ErrForm},
		"parts that fall in the end":     {upDone(1, []int64{1, 100, 2}, []int64{ab, c, empty}), impl.ErrForm},
		"a part twice":                   {upDone(1, []int64{1, 1}, []int64{ab, ab}), impl.ErrForm},
		"the last part twice":            {upDone(1, []int64{1, 2, 100, 100}, []int64{ab, empty, c, c}), impl.ErrForm},
		"no sums":                        {upDone(1, []int64{1}, nil), impl.ErrForm},
		"a sum too few":                  {upDone(1, []int64{1, 2}, []int64{ab}), impl.ErrForm},
		"a sum too many":                 {upDone(1, []int64{1, 2}, []int64{ab, empty, c}), impl.ErrForm},
		"a time that is none":            {under(upDone(1, []int64{1}, []int64{ab}), -1, 0, 0), impl.ErrForm},
		"an Until that is none":          {under(upDone(1, []int64{1}, []int64{ab}), 1, impl.MaxTime+1, 0), impl.ErrForm},
	} {
		checkRefused(t, name, b, ops, step.op, step.code)
		// What was refused is done rightly behind that.
		right := under(upDone(1, []int64{1, 2, 100}, []int64{ab, empty, c}), 9, 0, 1)
		got := checkUploads(t, name, b, append(slices.Clone(ops), step.op, right, upBucket(buGet("k", 0))))
		if out := got.Outs[len(ops)+1]; out.Code != impl.OK || out.Out.Id != 7 || out.Open != 2 || got.Outs[len(ops)+2].Out.Data != "abc" {
			t.Errorf("%s: then %s", name, shortUpOut(out))
		}
	}
}

func TestP16UploadsThatAreNotOpen(t *testing.T) {
	b, ops := twoOpen()
	sum := []int64{partSum("y")}
	for _, n := range []int64{0, -1, -2, 4, 5, 6, 7, 1 << 32, 1 + 1<<32, math.MinInt64, math.MaxInt64} {
		what := fmt.Sprint("upload ", n)
		for _, op := range []impl.UploadOp{
			upPart(n, 1, "x"), upPart(n, 0, "x"), upPart(n, 1, times("x", impl.MaxBytes+1)), upCopy(n, 1, "m", 0, 0), upCopy(n, 101, "m", 0, 0), upCopy(n, 1, "m", -1, 0), upCopy(n, 1, "nowhere", 0, 0),
			upDone(n, []int64{1}, sum), upDone(n, nil, nil), upDone(n, []int64{2}, sum), under(upDone(n, []int64{1}, sum), -1, -1, -2), upDrop(n),
		} {
			checkRefused(t, what, b, ops, op, impl.ErrNone)
		}
	}
}

func TestP16TheFirstCodeOfAPart(t *testing.T) {
	b, ops := twoOpen()
	long := times("x", impl.MaxBytes+1)
	for _, part := range []int64{0, -1, -100, 101, 102, 1 + 1<<32, math.MinInt64, math.MaxInt64} {
		for _, op := range []impl.UploadOp{upPart(1, part, "x"), upPart(1, part, ""), upPart(1, part, long), upCopy(1, part, "m", 0, 0), upCopy(1, part, "nowhere", 0, 0), upCopy(1, part, "m", 7, 0), upCopy(1, part, "m", -1, -1)} {
			checkRefused(t, fmt.Sprint("part ", part), b, ops, op, impl.ErrForm)
		}
	}
	for _, part := range []int64{1, 2, 3, 99, 100} {
		checkRefused(t, "Data too long", b, ops, upPart(1, part, long), impl.ErrSize)
		checkRefused(t, "Data far too long", b, ops, upPart(1, part, times(long, 5)), impl.ErrSize)
	}
}

func TestP16TheFirstCodeOfACopy(t *testing.T) {
	b, ops := twoOpen()
	for _, c := range []struct {
		key         string
		from, count int64
		code        int64
	}{
		{"nowhere", 0, 0, impl.ErrNone}, {"", 0, 0, impl.ErrNone}, {"M", 0, 0, impl.ErrNone}, {"m\x00", 0, 0, impl.ErrNone}, {times("m", impl.MaxKey+1), 0, 0, impl.ErrNone}, {times("m", impl.MaxBytes+1), 0, 0, impl.ErrNone},
		{"gone", 0, 0, impl.ErrNone}, {"gone", 9, 0, impl.ErrNone}, {"j", 0, 0, impl.ErrNone}, {"x", 0, 0, impl.ErrNone}, {"nowhere", -1, 0, impl.ErrForm}, {"nowhere", 0, -1, impl.ErrForm}, {"gone", -1, -1, impl.ErrForm},
		{"m", -1, 0, impl.ErrForm}, {"m", 0, -1, impl.ErrForm}, {"m", 9, -1, impl.ErrForm}, {"m", math.MinInt64, 0, impl.ErrForm}, {"m", 0, math.MinInt64, impl.ErrForm}, {"m", 7, 0, impl.ErrSize},
		{"m", 7, 1, impl.ErrSize}, {"m", math.MaxInt64, 0, impl.ErrSize}, {"m", math.MaxInt64, math.MaxInt64, impl.ErrSize}, {"none", 1, 0, impl.ErrSize},
	} {
		for _, part := range []int64{1, 50, 100} {
			checkRefused(t, fmt.Sprintf("%.10q from %d, %d", c.key, c.from, c.count), b, ops, upCopy(1, part, c.key, c.from, c.count), c.code)
		}
	}
}

func TestP16KindsThatThereAreNot(t *testing.T) {
	b, ops := twoOpen()
	for _, kind := range []int64{0, -1, 7, 8, 1 << 32, 1 + 1<<32, math.MinInt64, math.MaxInt64} {
		op := upDoneOf(1, numbered{1, "ab"})
		op.Kind, op.Key, op.Part, op.Op = kind, "m", 1, buPut("k", "x", 1)
		checkRefused(t, fmt.Sprint("kind ", kind), b, ops, op, impl.ErrForm)
		op.Upload = 9
		checkRefused(t, fmt.Sprint("kind ", kind), b, ops, op, impl.ErrForm)
	}
}

func TestP16KeysOfUploads(t *testing.T) {
	b, ops := twoOpen()
	for _, key := range []string{"", times("k", impl.MaxKey+1), times("k", impl.MaxBytes), times("k", impl.MaxBytes+1)} {
		checkRefused(t, fmt.Sprintf("a key of %d bytes", len(key)), b, ops, upStart(key), impl.ErrForm)
	}
	for _, key := range []string{"k", "\x00", "\xff", "ab", times("k", impl.MaxKey-1), times("k", impl.MaxKey), allBytes()[:impl.MaxKey]} {
		run := checkUpCodes(t, fmt.Sprintf("a key of %d bytes", len(key)), bucketOf(true), []upStep{
			{upStart(key), impl.OK}, {upPart(1, 1, "x"), impl.OK}, {upDoneOf(1, numbered{1, "x"}), impl.OK}, {upBucket(buGet(key, 0)), impl.OK}, {upStart("m"), impl.OK}, {upCopy(2, 1, key, 0, 0), impl.OK},
		})
		if len(run.Bucket.List) != 1 || run.Bucket.List[0] != versionOf(key, 1, "x") {
			t.Errorf("%q: %+v", key, run.Bucket)
		}
	}
}

func TestP16MostUploadsOpen(t *testing.T) {
	b := bucketOf(true)
	var ops []impl.UploadOp
	for i := range impl.MaxUploads {
		ops = append(ops, upStart(rowKey(i)), upPart(int64(i)+1, 1, rowKey(i)))
	}
	run := checkUploads(t, "most", b, ops)
	for i := range impl.MaxUploads {
		if out := run.Outs[2*i]; out.Code != impl.OK || out.Upload != int64(i)+1 || out.Open != int64(i)+1 {
			t.Errorf("%d: %s", i, shortUpOut(out))
		}
	}
	for _, key := range []string{"k", rowKey(3), times("k", impl.MaxKey)} {
		checkRefused(t, "one too many", b, ops, upStart(key), impl.ErrFull)
	}
	for _, key := range []string{"", times("k", impl.MaxKey+1)} {
		checkRefused(t, "one too many of no key", b, ops, upStart(key), impl.ErrForm)
	}
	// Each of them can make room, be it dropped or done; the number of a refused one is not lost.
	for n := int64(1); n <= impl.MaxUploads; n++ {
		for _, end := range []impl.UploadOp{upDrop(n), upDoneOf(n, numbered{1, rowKey(int(n) - 1)})} {
			steps := append(slices.Clone(ops), upStart("k"), end, upStart("k"), upStart("k"), upPart(21, 9, "new"), upDoneOf(21, numbered{9, "new"}), upStart("k"))
			outs := checkUploads(t, fmt.Sprint("room by ", n), b, steps).Outs[2*impl.MaxUploads:]
			want := []impl.UploadOut{{Code: impl.ErrFull, Open: 20}, outs[1], {Upload: 21, Open: 20}, {Code: impl.ErrFull, Open: 20}, {Sum: partSum("new"), Open: 20}, outs[5], {Upload: 22, Open: 20}}
			if !sameUpOuts(outs, want) || outs[1].Code != impl.OK || outs[1].Open != 19 || outs[5].Code != impl.OK || outs[5].Open != 19 {
				t.Errorf("upload %d: %+v", n, outs)
			}
		}
	}
}

// Ended in any order, the others stay as they are.
func TestP16UploadsEndInAnyOrder(t *testing.T) {
	x := newUploads(23)
	for i := range 150 {
		var ops []impl.UploadOp
		for n := range impl.MaxUploads {
			ops = append(ops, upStart(rowKey(n/3)), upPart(int64(n)+1, 1, rowKey(n)), upPart(int64(n)+1, 2, "/"))
		}
		for k, n := range x.chance.Perm(impl.MaxUploads) {
			if (i+k)%3 == 0 {
				ops = append(ops, upDrop(int64(n)+1))
			} else {
				ops = append(ops, upDoneOf(int64(n)+1, numbered{1, rowKey(n)}, numbered{2, "/"}))
			}
			if k%4 == 0 {
				ops = append(ops, upStart("more"), upDone(int64(n)+1, []int64{1}, []int64{partSum(rowKey(n))}))
			}
		}
		checkUploads(t, fmt.Sprint("run ", i), bucketOf(i%2 == 0), ops)
	}
}

func TestP16NumbersGoOn(t *testing.T) {
	var ops []impl.UploadOp
	for n := int64(1); n <= 600; n++ {
		ops = append(ops, upStart("k"))
		if n%2 == 0 {
			ops = append(ops, upDrop(n))
		} else {
			ops = append(ops, upPart(n, 1, "x"), upDoneOf(n, numbered{1, "x"}))
		}
	}
	run := checkUploads(t, "numbers", bucketOf(false), ops)
	last := int64(0)
	for i, op := range ops {
		if op.Kind == impl.UpStart {
			last++
			if run.Outs[i].Upload != last || run.Outs[i].Open != 1 {
				t.Fatalf("upload %d: %s", last, shortUpOut(run.Outs[i]))
			}
		}
	}
	if last != 600 || run.Bucket.NextId != 301 || len(run.Bucket.List) != 1 {
		t.Errorf("%d uploads, next Id %d", last, run.Bucket.NextId)
	}
	// A run begins anew: what another one started is not there.
	if out := impl.RunUploads(run.Bucket, []impl.UploadOp{upDrop(600), upStart("k")}).Outs; out[0].Code != impl.ErrNone || out[1].Upload != 1 {
		t.Errorf("%+v", out)
	}
}

func TestP16AllPartsAtOnce(t *testing.T) {
	x := newUploads(24)
	b := bucketOf(true, versionOf("k", 1, "old"))
	var parts []numbered
	data := ""
	for n := int64(1); n <= impl.MaxParts; n++ {
		parts = append(parts, numbered{n, fmt.Sprint("part ", n, "\n")})
		data += parts[n-1].data
	}
	for i := range 20 {
		ops := []impl.UploadOp{upStart("k")}
		for _, n := range x.chance.Perm(impl.MaxParts) {
			ops = append(ops, upPart(1, parts[n].part, parts[n].data))
		}
		ops = append(ops, under(upDoneOf(1, parts...), 3, 4, 1))
		got := checkUploads(t, fmt.Sprint("run ", i), b, ops)
		if len(got.Bucket.List) != 2 || got.Bucket.List[1] != locked(aged(versionOf("k", 2, data), 3), 4, false) || got.Outs[101].Out.Id != 2 {
			t.Fatalf("run %d: %s", i, shortUpOut(got.Outs[101]))
		}
		// One part more than there may be.
		ops[101] = under(upDoneOf(1, append(slices.Clone(parts), numbered{101, ""})...), 3, 4, 1)
		if out := checkUploads(t, fmt.Sprint("run ", i), b, ops).Outs[101]; out.Code != impl.ErrStale || out.Open != 1 {
			t.Fatalf("run %d: one part too many: %s", i, shortUpOut(out))
		}
	}
	// Each part number alone.
	for _, p := range parts {
		ops := []impl.UploadOp{upStart("k"), upPart(1, p.part, p.data), upDoneOf(1, p)}
		if got := checkUploads(t, fmt.Sprint("part ", p.part), b, ops); got.Bucket.List[1].Data != p.data {
			t.Errorf("part %d: %q", p.part, got.Bucket.List[1].Data)
		}
	}
}

func TestP16BytesOfParts(t *testing.T) {
	most := mixedBytes(impl.MaxBytes)
	b := bucketOf(true, versionOf("most", 1, most))
	for _, sizes := range [][]int{{0}, {1}, {impl.MaxBytes}, {impl.MaxBytes, 0}, {0, impl.MaxBytes}, {impl.MaxBytes - 1, 1}, {1, impl.MaxBytes - 1}, {50000, 0, 50000}, {33333, 33333, 33334}, {0, 0, 0}} {
		ops := []impl.UploadOp{upStart("k")}
		var parts []numbered
		rest := most
		for i, size := range sizes {
			parts = append(parts, numbered{int64(i)*30 + 1, rest[:size]})
			ops = append(ops, upPart(1, parts[i].part, parts[i].data))
			rest = rest[size:]
		}
		data := most[:len(most)-len(rest)]
		got := checkUploads(t, fmt.Sprint(sizes), b, append(slices.Clone(ops), under(upDoneOf(1, parts...), 5, 0, 0), upBucket(buGet("k", 0))))
		want := impl.RunBucket(b, []impl.BucketOp{buPut("k", data, 5)})
		if out := got.Outs[len(ops)+1].Out; out.Code != impl.OK || out.Data != data || !sameBucket(got.Bucket, want.Bucket) {
			t.Errorf("%v: code %d, %d bytes", sizes, out.Code, len(out.Data))
		}
		// With so many bytes more that there is one too many together; the parts that there were can be done still.
		for _, more := range []int{1, 2, impl.MaxBytes} {
			if len(data)+more <= impl.MaxBytes {
				continue
			}
			grown := append(slices.Clone(ops), upPart(1, 100, most[:more]))
			done := upDoneOf(1, append(slices.Clone(parts), numbered{100, most[:more]})...)
			checkRefused(t, fmt.Sprint(sizes, " and ", more), b, grown, done, impl.ErrSize)
			checkRefused(t, fmt.Sprint(sizes, " and ", more), b, grown, under(done, -1, -1, -2), impl.ErrSize)
			behind := checkUploads(t, fmt.Sprint(sizes, " without ", more), b, append(grown, done, under(upDoneOf(1, parts...), 5, 0, 0)))
			if !sameBucket(behind.Bucket, want.Bucket) {
				t.Errorf("%v and %d: then another bucket", sizes, more)
			}
		}
	}
	// All MaxParts parts of the most bytes.
	ops := []impl.UploadOp{upStart("k")}
	var parts []numbered
	for n := int64(1); n <= impl.MaxParts; n++ {
		parts = append(parts, numbered{n, most})
		ops = append(ops, upCopy(1, n, "most", 0, 0))
	}
	got := impl.RunUploads(b, append(ops, upDoneOf(1, parts...), upDoneOf(1, parts[:2]...), upDoneOf(1, parts[99])))
	if out := got.Outs; out[101].Code != impl.ErrSize || out[102].Code != impl.ErrSize || out[103].Code != impl.OK || got.Bucket.List[1] != versionOf("k", 2, most) {
		t.Error("the most bytes of the most parts")
	}
}

// Every From and Count of a short text, of the newest version among others.
func TestP16CopiesOfPieces(t *testing.T) {
	for _, text := range []string{"", "x", "source", "\x00\xff\x00"} {
		b := bucketOf(true, versionOf("m", 1, "older"), versionOf("m", 2, text), versionOf("mm", 3, "another"))
		size := int64(len(text))
		for from := int64(0); from <= size; from++ {
			for _, count := range []int64{0, 1, 2, 3, size - from, size, size + 1, math.MaxInt64} {
				want := text[from:]
				if count > 0 && count < int64(len(want)) {
					want = want[:count]
				}
				what := fmt.Sprintf("%q from %d, %d", text, from, count)
				run := checkUpCodes(t, what, b, []upStep{
					{upStart("k"), impl.OK}, {upPart(1, 1, "<"), impl.OK}, {upCopy(1, 2, "m", from, count), impl.OK}, {upPart(1, 3, ">"), impl.OK},
					{upDoneOf(1, numbered{1, "<"}, numbered{2, want}, numbered{3, ">"}), impl.OK}, {upBucket(buGet("k", 0)), impl.OK},
				})
				if run.Outs[2].Sum != bigSum(want, 2) || run.Outs[5].Out.Data != "<"+want+">" || !sameBuOut(run.Outs[2].Out, impl.BucketOut{}) {
					t.Errorf("%s: %s", what, shortUpOut(run.Outs[2]))
				}
			}
		}
	}
}

// A text copied in pieces and put together is the text.
func TestP16CopiedInPiecesAndPutTogether(t *testing.T) {
	text := mixedBytes(impl.MaxBytes)
	for _, size := range []int64{1000, 1001, 4096, 33333, 99999, 100000} {
		b := bucketOf(true, versionOf("m", 1, text))
		ops := []impl.UploadOp{upStart("m"), upCopy(1, 100, "m", impl.MaxBytes-1, 0)}
		var parts []numbered
		for from := int64(0); from < impl.MaxBytes; from += size {
			n := int64(len(parts)) + 1
			ops = append(ops, upCopy(1, n, "m", from, size))
			parts = append(parts, numbered{n, text[from:min(from+size, impl.MaxBytes)]})
		}
		if got := impl.RunUploads(b, append(ops, under(upDoneOf(1, parts...), 2, 0, 1))); len(got.Bucket.List) != 2 || got.Bucket.List[1] != aged(versionOf("m", 2, text), 2) {
			t.Errorf("pieces of %d", size)
		}
	}
}

// What was copied stays as it was copied, whatever becomes of where it stood.
func TestP16CopiesStayAsTheyWere(t *testing.T) {
	for _, kept := range []bool{true, false} {
		b := bucketOf(kept, versionOf("m", 1, "source"), versionOf("other", 2, ""))
		for _, turn := range []impl.BucketOp{
			buPut("m", "turned", 3), buPut("m", "", 3), buDelete("m", 0, 3), buDelete("m", 1, 3), buLock("m", 0, 9, 3), buHold("m", 0, true), buKeep(!kept), buQuota(12),
			buLife(3, ruleOf(impl.RuleExpire, "", 0), ruleOf(impl.RuleOld, "", 0), ruleOf(impl.RuleMarker, "", 0)),
		} {
			what := fmt.Sprint("kept ", kept, ", ", shortOp(turn))
			run := checkUpCodes(t, what, b, []upStep{
				{upStart("k"), impl.OK}, {upCopy(1, 1, "m", 0, 0), impl.OK}, {upCopy(1, 2, "m", 2, 3), impl.OK}, {upBucket(turn), impl.OK},
				{upDoneOf(1, numbered{1, "turned"}), impl.ErrStale}, {upDoneOf(1, numbered{1, "source"}), impl.OK}, {upStart("j"), impl.OK}, {upPart(2, 1, "-"), impl.OK},
			})
			if got := impl.NewestOf(run.Bucket, "k"); got.Data != "source" {
				t.Errorf("%s: %q", what, got.Data)
			}
			// Behind the turn a copy is of what is there then.
			now := impl.RunBucket(b, []impl.BucketOp{turn, buGet("m", 0)}).Outs[1]
			again := checkUploads(t, what, b, []impl.UploadOp{upStart("k"), upCopy(1, 1, "m", 0, 0), upBucket(turn), upCopy(1, 1, "m", 0, 0), upDoneOf(1, numbered{1, now.Data})})
			if again.Outs[3].Code != now.Code || now.Code == impl.OK && again.Outs[3].Sum != partSum(now.Data) || (again.Outs[4].Code == impl.OK) != (now.Code == impl.OK) {
				t.Errorf("%s: then %s", what, shortUpOut(again.Outs[3]))
			}
		}
	}
}

// An upload for the key that it copies from, done with a piece of it over and over.
func TestP16AKeyCopiedIntoItself(t *testing.T) {
	for _, kept := range []bool{true, false} {
		b := bucketOf(kept, versionOf("k", 1, "ab"))
		var ops []impl.UploadOp
		data := "ab"
		for n := int64(1); n <= 8; n++ {
			ops = append(ops, upStart("k"), upCopy(n, 1, "k", 0, 0), upCopy(n, 2, "k", 1, 0), upPart(n, 3, "!"), under(upDoneOf(n, numbered{1, data}, numbered{2, data[1:]}, numbered{3, "!"}), n, 0, n))
			data += data[1:] + "!"
		}
		if got := checkBehindEach(t, fmt.Sprint("kept ", kept), b, ops); impl.NewestOf(got.Bucket, "k") != aged(versionOf("k", 9, data), 8) || got.Outs[39].Open != 0 {
			t.Errorf("kept %v: %+v", kept, impl.NewestOf(got.Bucket, "k"))
		}
	}
}

// What is copied is of no time: a copy is not judged by one.
func TestP16CopiesOfLockedAndOldVersions(t *testing.T) {
	b := bucketOf(false, locked(aged(versionOf("m", 1, "locked"), impl.MaxTime), impl.MaxTime, true))
	op := upCopy(1, 1, "m", 0, 0)
	for _, now := range []int64{-1, 0, impl.MaxTime, impl.MaxTime + 1} {
		op.Op.Time = now
		run := checkUpCodes(t, "locked", b, []upStep{{upStart("k"), impl.OK}, {op, impl.OK}, {upDoneOf(1, numbered{1, "locked"}), impl.OK}})
		if run.Outs[1].Sum != partSum("locked") {
			t.Errorf("time %d: %s", now, shortUpOut(run.Outs[1]))
		}
	}
}

func TestP16SeveralUploadsOfOneKey(t *testing.T) {
	for _, kept := range []bool{true, false} {
		b := bucketOf(kept)
		ops := []impl.UploadOp{
			upStart("k"), upStart("k"), upStart("k"), upPart(1, 1, "first"), upPart(2, 1, "second"), upPart(3, 1, "third"), upPart(1, 2, "!"), upPart(3, 2, "?"),
			upDoneOf(2, numbered{1, "second"}), upDone(2, []int64{1}, []int64{partSum("second")}), upDone(1, []int64{1}, []int64{partSum("second")}), upDone(3, []int64{1, 2}, []int64{partSum("third"), partSum("!")}),
			under(upDoneOf(3, numbered{1, "third"}, numbered{2, "?"}), 0, 0, 1), under(upDoneOf(1, numbered{1, "first"}), 0, 0, 1), under(upDoneOf(1, numbered{1, "first"}), 0, 0, -1),
			under(upDoneOf(1, numbered{1, "first"}), 0, 0, 2), upBucket(buGet("k", 0)),
		}
		run := checkBehindEach(t, fmt.Sprint("kept ", kept), b, ops)
		var codes, open []int64
		for _, out := range run.Outs[8:] {
			codes, open = append(codes, out.Code), append(open, out.Open)
		}
		if !slices.Equal(codes, []int64{0, impl.ErrNone, impl.ErrStale, impl.ErrStale, 0, impl.ErrStale, impl.ErrStale, 0, 0}) || !slices.Equal(open, []int64{2, 2, 2, 2, 1, 1, 1, 0, 0}) {
			t.Errorf("kept %v: %v, %v", kept, codes, open)
		}
		data := []string{"second", "third?", "first"}
		if !kept {
			data = data[2:]
		}
		for i, v := range run.Bucket.List {
			if len(run.Bucket.List) != len(data) || v.Data != data[i] {
				t.Errorf("kept %v: %+v", kept, run.Bucket)
			}
		}
	}
}

// Of many uploads of one key that are to be the first, just one is.
func TestP16OneOfManyUploadsHolds(t *testing.T) {
	for winner := int64(1); winner <= impl.MaxUploads; winner++ {
		var ops []impl.UploadOp
		for n := int64(1); n <= impl.MaxUploads; n++ {
			ops = append(ops, upStart("k"), upPart(n, 1, fmt.Sprint(n)))
		}
		ops = append(ops, under(upDoneOf(winner, numbered{1, fmt.Sprint(winner)}), 1, 0, -1))
		for n := int64(1); n <= impl.MaxUploads; n++ {
			ops = append(ops, under(upDoneOf(n, numbered{1, fmt.Sprint(n)}), 1, 0, -1))
		}
		run := checkUploads(t, fmt.Sprint("winner ", winner), bucketOf(true), ops)
		if len(run.Bucket.List) != 1 || run.Bucket.List[0].Data != fmt.Sprint(winner) || run.Outs[len(ops)-1].Open != impl.MaxUploads-1 {
			t.Errorf("winner %d: %+v", winner, run.Bucket)
		}
	}
}

// The key that an upload is for turns while the upload is open.
func TestP16TheKeyTurnsUnderAnUpload(t *testing.T) {
	done := upDoneOf(1, numbered{1, "new"})
	for _, c := range []struct {
		turn impl.BucketOp
		kept bool
		code map[int64]int64
	}{
		{buGet("k", 0), true, map[int64]int64{0: 0, 1: 0, 2: impl.ErrStale, -1: impl.ErrStale, -2: impl.ErrForm}},
		{buPut("k", "turned", 3), true, map[int64]int64{0: 0, 1: impl.ErrStale, 3: 0, -1: impl.ErrStale}},
		{buPut("k", "turned", 3), false, map[int64]int64{0: 0, 1: impl.ErrStale, 3: 0, -1: impl.ErrStale}},
		{buDelete("k", 0, 3), true, map[int64]int64{0: 0, 1: impl.ErrStale, 3: impl.ErrStale, -1: 0}},
		{buDelete("k", 0, 3), false, map[int64]int64{0: 0, 1: impl.ErrStale, -1: 0}},
		{buDelete("k", 1, 3), true, map[int64]int64{0: 0, 1: impl.ErrStale, -1: 0}},
		{buLock("k", 0, 9, 3), true, map[int64]int64{0: 0, 1: 0, -1: impl.ErrStale}},
		{buLock("k", 0, 9, 3), false, map[int64]int64{0: impl.ErrLocked, 1: impl.ErrLocked, -1: impl.ErrStale}},
		{buLock("k", 0, 5, 3), false, map[int64]int64{0: 0, 1: 0}},
		{buHold("k", 0, true), false, map[int64]int64{0: impl.ErrLocked, 1: impl.ErrLocked, -2: impl.ErrForm}},
		{buQuota(9), true, map[int64]int64{0: impl.ErrFull, 1: impl.ErrFull, 2: impl.ErrStale}},
		{buQuota(9), false, map[int64]int64{0: 0}},
		{buQuota(11), true, map[int64]int64{0: 0}},
		{buLife(3, ruleOf(impl.RuleExpire, "k", 0)), true, map[int64]int64{0: 0, 1: impl.ErrStale, -1: 0}},
		{buKeep(false), true, map[int64]int64{0: 0, 1: 0}},
	} {
		b := bucketOf(c.kept, versionOf("k", 1, "old"), versionOf("m", 2, "other"))
		for ifId, code := range c.code {
			what := fmt.Sprintf("kept %v, IfId %d, %s", c.kept, ifId, shortOp(c.turn))
			run := checkUpCodes(t, what, b, []upStep{{upStart("k"), impl.OK}, {upPart(1, 1, "new"), impl.OK}, {upBucket(c.turn), impl.OK}, {under(done, 5, 0, ifId), code}, {upDrop(1), dropBehind(code)}})
			want := impl.RunBucket(b, []impl.BucketOp{c.turn, {Kind: impl.BuPut, Key: "k", Data: "new", Time: 5, IfId: ifId}})
			if !sameBucket(run.Bucket, want.Bucket) || !sameBuOut(run.Outs[3].Out, want.Outs[1]) {
				t.Errorf("%s: %+v", what, run.Outs[3])
			}
		}
	}
}

// dropBehind is what a drop answers behind a done of a code: only what was refused is open still.
func dropBehind(done int64) int64 {
	if done == impl.OK {
		return impl.ErrNone
	}
	return impl.OK
}

// Each code of a put, with the bucket in which it is answered; the codes that a put tells first come first.
func TestP16CodesOfThePut(t *testing.T) {
	ops := []impl.UploadOp{upStart("k"), upPart(1, 1, "123"), upPart(1, 2, "45")}
	full := bucketOf(true, manyVersions(impl.MaxObjects, rowKey)...)
	fullOfOne := bucketOf(false, append(manyVersions(impl.MaxObjects-1, rowKey), locked(versionOf("k", 300, "x"), 50, false))...)
	tight := bucketOf(false, versionOf("k", 1, "old"), locked(versionOf("k", 2, "x"), 50, false), versionOf("m", 3, ""))
	tight.NextId, tight.Quota = topId, 4
	quota := bucketOf(true, versionOf("k", 1, "123456"))
	quota.Quota = 10
	for _, c := range []struct {
		what             string
		b                impl.Bucket
		now, until, ifId int64
		code             int64
	}{
		{"all wrong", tight, -1, -1, -2, impl.ErrForm}, {"a time above", tight, impl.MaxTime + 1, 0, 9, impl.ErrForm}, {"Until below 0", tight, 1, -1, 9, impl.ErrForm}, {"Until above", tight, 1, impl.MaxTime + 1, 9, impl.ErrForm},
		{"another Id", tight, 1, 0, 9, impl.ErrStale}, {"an older Id", tight, 1, 0, 1, impl.ErrStale}, {"the key is there", tight, 1, 0, -1, impl.ErrStale}, {"IfId of -2", tight, 1, 0, -2, impl.ErrForm},
		{"the least IfId", tight, 1, 0, math.MinInt64, impl.ErrForm}, {"locked", tight, 1, 0, 2, impl.ErrLocked}, {"locked", tight, 49, 0, 0, impl.ErrLocked}, {"no Id left", tight, 50, 0, 2, impl.ErrFull},
		{"MaxObjects versions", full, 1, 0, 0, impl.ErrFull}, {"MaxObjects versions", full, 1, 0, -1, impl.ErrFull}, {"stale ahead of full", full, 1, 0, 1, impl.ErrStale}, {"locked ahead of full", fullOfOne, 49, 0, 0, impl.ErrLocked},
		{"a quota", quota, 1, 0, 1, impl.ErrFull}, {"stale ahead of a quota", quota, 1, 0, 2, impl.ErrStale},
	} {
		checkRefused(t, c.what, c.b, ops, under(upDoneOf(1, numbered{1, "123"}, numbered{2, "45"}), c.now, c.until, c.ifId), c.code)
		out := impl.RunUploads(c.b, append(slices.Clone(ops), under(upDoneOf(1, numbered{1, "123"}, numbered{2, "45"}), c.now, c.until, c.ifId))).Outs[3]
		if !sameUpOut(out, impl.UploadOut{Code: c.code, Out: impl.BucketOut{Code: c.code}, Open: 1}) {
			t.Errorf("%s: %s", c.what, shortUpOut(out))
		}
	}
	// What is too much for the quota with all parts has room with some; what makes room lets all be done.
	checkUpCodes(t, "a quota", quota, append(stepsOf(ops), upStep{upDoneOf(1, numbered{1, "123"}, numbered{2, "45"}), impl.ErrFull}, upStep{upDoneOf(1, numbered{1, "123"}), impl.OK}))
	checkUpCodes(t, "room", quota, append(stepsOf(ops), upStep{upDoneOf(1, numbered{1, "123"}, numbered{2, "45"}), impl.ErrFull}, upStep{upBucket(buDelete("k", 1, 1)), impl.OK}, upStep{upDoneOf(1, numbered{1, "123"}, numbered{2, "45"}), impl.OK}))
	checkUpCodes(t, "room for versions", full, append(stepsOf(ops), upStep{upDoneOf(1, numbered{1, "123"}), impl.ErrFull}, upStep{upBucket(buDelete(rowKey(9), 10, 1)), impl.OK}, upStep{upDoneOf(1, numbered{1, "123"}), impl.OK}))
	checkUpCodes(t, "the lock ends", fullOfOne, append(stepsOf(ops), upStep{under(upDoneOf(1, numbered{1, "123"}), 49, 0, 300), impl.ErrLocked}, upStep{under(upDoneOf(1, numbered{1, "123"}), 50, 0, 300), impl.OK}))
}

// stepsOf are operations that all answer OK.
func stepsOf(ops []impl.UploadOp) []upStep {
	var steps []upStep
	for _, op := range ops {
		steps = append(steps, upStep{op, impl.OK})
	}
	return steps
}

// The codes of a done, one after the other, each where all that come behind it are wrong, too.
func TestP16TheFirstCodeOfADone(t *testing.T) {
	b := bucketOf(false, locked(versionOf("k", 1, "x"), 50, false))
	b.NextId = topId
	long := mixedBytes(impl.MaxBytes)
	ops := []impl.UploadOp{upStart("k"), upPart(1, 1, long), upPart(1, 2, "1")}
	right := []int64{partSum(long), partSum("1")}
	for _, c := range []struct {
		op   impl.UploadOp
		code int64
	}{
		{upDone(2, nil, nil), impl.ErrNone}, {upDone(1, nil, nil), impl.ErrForm}, {upDone(1, []int64{2, 1}, []int64{9, 9}), impl.ErrForm}, {upDone(1, []int64{1, 3}, []int64{9}), impl.ErrForm}, {upDone(1, []int64{1, 1}, []int64{9, 9}), impl.ErrForm},
		{upDone(1, []int64{1, 2, 3}, []int64{right[0], right[1], 0}), impl.ErrStale}, {upDone(1, []int64{1, 2}, []int64{right[0], 0}), impl.ErrStale}, {upDone(1, []int64{1, 2}, right), impl.ErrSize},
		{upDone(1, []int64{2}, right[1:]), impl.ErrForm},
	} {
		checkRefused(t, fmt.Sprint(c.op.Parts), b, ops, under(c.op, -1, -1, -2), c.code)
	}
	for _, c := range []struct {
		now, until, ifId int64
		code             int64
	}{
		{-1, 0, -2, impl.ErrForm}, {1, -1, -2, impl.ErrForm}, {1, 0, -2, impl.ErrForm}, {1, 0, 9, impl.ErrStale}, {1, 0, -1, impl.ErrStale}, {1, 0, 1, impl.ErrLocked}, {50, 0, 1, impl.ErrFull}, {50, 0, 0, impl.ErrFull},
	} {
		checkRefused(t, "one part", b, ops, under(upDone(1, []int64{2}, right[1:]), c.now, c.until, c.ifId), c.code)
	}
}

func TestP16TimesAtTheEdges(t *testing.T) {
	for _, now := range []int64{0, 1, impl.MaxTime - 1, impl.MaxTime} {
		for _, until := range []int64{0, 1, impl.MaxTime - 1, impl.MaxTime} {
			run := checkUpCodes(t, fmt.Sprint(now, until), bucketOf(false), []upStep{
				{upStart("k"), impl.OK}, {upPart(1, 1, "x"), impl.OK}, {under(upDoneOf(1, numbered{1, "x"}), now, until, -1), impl.OK}, {upBucket(at(buGet("k", 0), now)), impl.OK},
				{upStart("k"), impl.OK}, {upPart(2, 1, "y"), impl.OK}, {under(upDoneOf(2, numbered{1, "y"}), until, 0, 1), impl.OK},
			})
			if len(run.Bucket.List) != 1 || run.Bucket.List[0] != aged(versionOf("k", 2, "y"), until) {
				t.Errorf("%d, %d: %+v", now, until, run.Bucket)
			}
			first := impl.RunUploads(bucketOf(false), []impl.UploadOp{upStart("k"), upPart(1, 1, "x"), under(upDoneOf(1, numbered{1, "x"}), now, until, -1)})
			if first.Bucket.List[0] != locked(aged(versionOf("k", 1, "x"), now), until, false) {
				t.Errorf("%d, %d: %+v", now, until, first.Bucket)
			}
		}
	}
	for _, wrong := range []int64{-1, impl.MaxTime + 1, math.MinInt64, math.MaxInt64} {
		ops := []impl.UploadOp{upStart("k"), upPart(1, 1, "x")}
		checkRefused(t, fmt.Sprint("time ", wrong), bucketOf(false), ops, under(upDoneOf(1, numbered{1, "x"}), wrong, 0, 0), impl.ErrForm)
		checkRefused(t, fmt.Sprint("Until ", wrong), bucketOf(false), ops, under(upDoneOf(1, numbered{1, "x"}), 0, wrong, 0), impl.ErrForm)
		checkRefused(t, fmt.Sprint("bucket time ", wrong), bucketOf(false), ops, upBucket(at(buGet("k", 0), wrong)), impl.ErrForm)
	}
}

func TestP16OperationsOfTheBucketAlone(t *testing.T) {
	x := newUploads(25)
	for i := range 400 {
		b := x.bucket(12)
		ops := x.buckets.ops(25, b.NextId)
		var ups []impl.UploadOp
		for _, op := range ops {
			ups = append(ups, upBucket(op))
		}
		got, want := checkUploads(t, fmt.Sprint("run ", i), b, ups), impl.RunBucket(b, ops)
		if !sameBucket(got.Bucket, want.Bucket) {
			t.Fatalf("run %d: another bucket", i)
		}
		for k, out := range got.Outs {
			if !sameUpOut(out, impl.UploadOut{Code: want.Outs[k].Code, Out: want.Outs[k]}) {
				t.Fatalf("run %d: operation %d: %s", i, k, shortUpOut(out))
			}
		}
	}
}

func TestP16RunsOfEveryKind(t *testing.T) {
	x := newUploads(26)
	met := map[[2]int64]int{}
	for i := range 700 {
		b := x.bucket(10)
		ops := x.ops(45, b)
		for k, out := range checkBehindEach(t, fmt.Sprint("run ", i), b, ops).Outs {
			met[[2]int64{ops[k].Kind, out.Code}]++
		}
	}
	for _, c := range [][2]int64{
		{impl.UpStart, impl.OK}, {impl.UpStart, impl.ErrForm}, {impl.UpPart, impl.OK}, {impl.UpPart, impl.ErrNone}, {impl.UpPart, impl.ErrForm}, {impl.UpPart, impl.ErrSize},
		{impl.UpCopy, impl.OK}, {impl.UpCopy, impl.ErrNone}, {impl.UpCopy, impl.ErrForm}, {impl.UpCopy, impl.ErrSize}, {impl.UpDone, impl.OK}, {impl.UpDone, impl.ErrNone}, {impl.UpDone, impl.ErrForm},
		{impl.UpDone, impl.ErrStale}, {impl.UpDone, impl.ErrLocked}, {impl.UpDone, impl.ErrFull}, {impl.UpDrop, impl.OK}, {impl.UpDrop, impl.ErrNone}, {impl.UpBucket, impl.OK}, {impl.UpBucket, impl.ErrForm},
		{impl.UpBucket, impl.ErrNone}, {impl.UpBucket, impl.ErrStale}, {impl.UpBucket, impl.ErrLocked}, {impl.UpBucket, impl.ErrFull}, {impl.UpBucket, impl.ErrSize}, {0, impl.ErrForm}, {7, impl.ErrForm}, {-1, impl.ErrForm},
	} {
		if met[c] < 20 {
			t.Errorf("kind %d met code %d only %d times", c[0], c[1], met[c])
		}
	}
}

// Near MaxObjects and near the top Id many puts are full; long runs open all the uploads that there may be.
func TestP16LongRunsOfFullBuckets(t *testing.T) {
	x := newUploads(27)
	full := map[int64]int{}
	for i := range 40 {
		b := impl.Bucket{Kept: i%2 == 0, NextId: 1}
		for id := range int64(290 + x.chance.Intn(11)) {
			b.List = append(b.List, x.version(id+1))
			b.NextId = id + 2
		}
		if i%3 == 0 {
			b.NextId = topId - x.chance.Int63n(6)
		}
		ops := x.ops(300, b)
		for k, out := range checkUploads(t, fmt.Sprint("run ", i), b, ops).Outs {
			if out.Code == impl.ErrFull {
				full[ops[k].Kind]++
			}
		}
	}
	if full[impl.UpStart] < 50 || full[impl.UpDone] < 50 || full[impl.UpBucket] < 50 {
		t.Errorf("full: %v", full)
	}
}

func TestP16WrongBuckets(t *testing.T) {
	for name, b := range wrongBuckets() {
		for _, ops := range [][]impl.UploadOp{nil, {upStart("k")}, {upBucket(buGet("a", 0))}, {upStart("k"), upPart(1, 1, "x"), upDoneOf(1, numbered{1, "x"})}} {
			if got := impl.RunUploads(b, ops); !isNoUploads(got) {
				t.Errorf("%s: %d operations are run", name, len(ops))
			}
		}
	}
	for name, b := range rightBuckets() {
		if got := impl.RunUploads(b, nil); !sameBucket(got.Bucket, b) || len(got.Outs) != 0 {
			t.Errorf("%s: no operations give another bucket", name)
		}
		if got := impl.RunUploads(b, []impl.UploadOp{upStart("k"), upPart(1, 1, "x"), upDrop(1)}); !sameBucket(got.Bucket, b) || len(got.Outs) != 3 {
			t.Errorf("%s: an upload that is dropped gives another bucket", name)
		}
	}
}

func TestP16OperationsOfOneRun(t *testing.T) {
	b := bucketOf(false, versionOf("k", 1, "x"))
	var ops []impl.UploadOp
	for n := int64(1); n <= impl.MaxOps/4; n++ {
		ops = append(ops, upStart("k"), upPart(n, 1, "y"), upDoneOf(n, numbered{1, "y"}), upBucket(buGet("k", 0)))
	}
	got := checkUploads(t, "most", b, ops)
	if len(got.Outs) != impl.MaxOps || len(got.Bucket.List) != 1 || got.Bucket.NextId != 502 || got.Outs[1999].Out.Id != 501 || got.Outs[1999].Out.Data != "y" || got.Outs[1996].Upload != 500 {
		t.Errorf("%d outs", len(got.Outs))
	}
	if got := impl.RunUploads(b, append(slices.Clone(ops), upStart("k"))); !isNoUploads(got) {
		t.Errorf("one operation too many: %d outs", len(got.Outs))
	}
	if got := impl.RunUploads(b, make([]impl.UploadOp, impl.MaxOps)); len(got.Outs) != impl.MaxOps || !sameBucket(got.Bucket, b) || got.Outs[1999].Code != impl.ErrForm {
		t.Errorf("operations of no kind: %d outs", len(got.Outs))
	}
	if got := impl.RunUploads(b, make([]impl.UploadOp, impl.MaxOps+1)); !isNoUploads(got) {
		t.Errorf("one operation of no kind too many: %d outs", len(got.Outs))
	}
}

// lentUploads is a bucket with operations, all of whose texts and lists the test can look into.
type lentUploads struct {
	*lentBucket
	ups     []impl.UploadOp
	upsWere []impl.UploadOp
	numbers []*listLoan
}

func (l *lentUploads) list(numbers []int64) []int64 {
	lent := newListLoan(numbers)
	l.numbers = append(l.numbers, lent)
	return lent.list()
}

func lendUploads(b impl.Bucket, ops []impl.UploadOp) *lentUploads {
	var inner []impl.BucketOp
	for _, op := range ops {
		inner = append(inner, op.Op)
	}
	l := &lentUploads{lentBucket: lendBucket(b, inner)}
	for i, op := range ops {
		op.Key, op.Data, op.Parts, op.Sums, op.Op = l.text(op.Key), l.text(op.Data), l.list(op.Parts), l.list(op.Sums), l.lentBucket.ops[i]
		l.ups = append(l.ups, op)
	}
	l.ups = append(l.ups, upStart("room"), upBucket(buPut("room", "behind", 1)))
	l.upsWere = slices.Clone(l.ups)
	return l
}

// given are the operations, with room behind them.
func (l *lentUploads) given() []impl.UploadOp {
	return l.ups[:len(l.ups)-2]
}

func sameUp(a, b impl.UploadOp) bool {
	return fmt.Sprint(a) == fmt.Sprint(b)
}

func (l *lentUploads) kept() bool {
	for _, list := range l.numbers {
		if !list.kept() {
			return false
		}
	}
	return l.lentBucket.kept() && slices.EqualFunc(l.ups, l.upsWere, sameUp)
}

func (l *lentUploads) spoil() {
	l.lentBucket.spoil()
	for _, list := range l.numbers {
		spoil(list.room)
	}
	for i := range l.ups {
		l.ups[i] = impl.UploadOp{Kind: -1}
	}
}

func TestP16AnswersOfUploadsAreNewMemory(t *testing.T) {
	x := newUploads(28)
	for i := range 400 {
		b := x.bucket(10)
		ops := x.ops(x.chance.Intn(40), b)
		if i%3 == 0 {
			ops = append(ops, upBucket(buList("", "/", "", 9)), upBucket(buList("", "/", "", 9)), upBucket(buVersions("", 9)), upBucket(buVersions("", 9)))
		}
		lent := lendUploads(b, ops)
		got := impl.RunUploads(lent.bucket, lent.given())
		if !lent.kept() {
			t.Fatalf("run %d wrote into an argument", i)
		}
		lent.spoil()
		want, _ := plainUploads(b, ops)
		if !sameUploads(got, want) {
			t.Fatalf("run %d shares memory with an argument", i)
		}
		for k := range got.Outs {
			if !sameUpOut(got.Outs[k], want.Outs[k]) {
				t.Fatalf("run %d: the lists of operation %d share memory with those ahead of it", i, k)
			}
			spoilNames(got.Outs[k].Out.Keys)
			if !slices.Equal(got.Outs[k].Out.Prefixes, want.Outs[k].Out.Prefixes) {
				t.Fatalf("run %d: Keys and Prefixes of operation %d share memory", i, k)
			}
			spoilNames(got.Outs[k].Out.Prefixes)
		}
		if !sameBucket(got.Bucket, want.Bucket) {
			t.Fatalf("run %d: the bucket shares memory with an out", i)
		}
		spoilRules(got.Bucket.Rules)
		spoilVersions(got.Bucket.List)
	}
}

// What was put of one part alone, of a copy, and of a key is the bucket's own, too.
func TestP16WhatIsDoneIsNewMemory(t *testing.T) {
	b := bucketOf(true, versionOf("m", 1, "source"))
	for name, ops := range map[string][]impl.UploadOp{
		"one part":          {upStart("key"), upPart(1, 1, "data"), upDoneOf(1, numbered{1, "data"})},
		"one and an empty":  {upStart("key"), upPart(1, 1, "data"), upPart(1, 2, ""), upDoneOf(1, numbered{1, "data"}, numbered{2, ""})},
		"two parts":         {upStart("key"), upPart(1, 1, "data"), upPart(1, 2, "more"), upDoneOf(1, numbered{1, "data"}, numbered{2, "more"})},
		"a copy":            {upStart("key"), upCopy(1, 1, "m", 0, 0), upDoneOf(1, numbered{1, "source"})},
		"a piece":           {upStart("key"), upCopy(1, 1, "m", 2, 2), upDoneOf(1, numbered{1, "ur"})},
		"a copy of another": {upStart("key"), upPart(1, 1, "data"), upDoneOf(1, numbered{1, "data"}), upStart("more"), upCopy(2, 1, "key", 0, 0), upDoneOf(2, numbered{1, "data"})},
		"twice the same":    {upStart("key"), upStart("key"), upPart(1, 1, "data"), upPart(2, 1, "data"), upDoneOf(1, numbered{1, "data"}), upDoneOf(2, numbered{1, "data"})},
	} {
		ops = append(ops, upBucket(buGet("key", 0)), upBucket(buList("", "", "", 9)), upBucket(buVersions("", 9)))
		lent := lendUploads(b, ops)
		got := impl.RunUploads(lent.bucket, lent.given())
		kept := lent.kept()
		lent.spoil()
		if want, _ := plainUploads(b, ops); !kept || !sameUploads(got, want) {
			t.Errorf("%s: written into, or shared: %+v", name, got)
		}
	}
}

// wildUps draws operations of any numbers and texts.
func (x uploads) wildUps(count int) []impl.UploadOp {
	numbers := []int64{math.MinInt64, -2, -1, 0, 1, 1, 1, 2, 2, 3, 4, 5, 100, 101, impl.MaxTime, impl.MaxTime + 1, topId, math.MaxInt64}
	number := func() int64 { return numbers[x.chance.Intn(len(numbers))] }
	texts := []string{"", "a", "b", "a/b", "/", "\x00", "\xff", times("k", impl.MaxKey), times("k", impl.MaxKey+1), times("t", impl.MaxBytes), times("t", impl.MaxBytes+1)}
	text := func() string { return texts[x.chance.Intn(len(texts))] }
	list := func() []int64 {
		var out []int64
		for range x.chance.Intn(4) {
			out = append(out, number())
		}
		return out
	}
	var ops []impl.UploadOp
	for range count {
		op := impl.UploadOp{Kind: x.chance.Int63n(9) - 1, Upload: number(), Part: number(), Key: text(), Data: text(), Parts: list(), Sums: list(), From: number(), Count: number()}
		op.Op = impl.BucketOp{Kind: x.chance.Int63n(13) - 1, Key: text(), Id: number(), Data: text(), Time: number(), Until: number(), Flag: x.chance.Intn(2) == 0, IfId: number(),
			Prefix: text(), Delim: text(), After: text(), Limit: number(), Rules: []impl.LifeRule{ruleOf(number(), text(), number())}, From: number(), Count: number()}
		if x.chance.Intn(3) == 0 {
			op.Parts, op.Sums = []int64{1}, []int64{partSum("a")}
		}
		ops = append(ops, op)
	}
	return ops
}

func TestP16NoCallOfUploadsPanics(t *testing.T) {
	x := newUploads(29)
	for i := range 2000 {
		b := x.bucket(6)
		if i%5 == 0 {
			b.NextId, b.Quota = x.chance.Int63n(5)-1, x.chance.Int63n(20)-2
		}
		ops := append([]impl.UploadOp{upStart("a"), upPart(1, 1, "a")}, x.wildUps(x.chance.Intn(12))...)
		noPanic(t, "RunUploads", func() {
			got := impl.RunUploads(b, ops)
			if want, _ := plainUploads(b, ops); !sameUploads(got, want) {
				t.Errorf("%d: run in another way", i)
			}
		})
	}
	noPanic(t, "RunUploads", func() {
		if got := impl.RunUploads(impl.Bucket{}, nil); !isNoUploads(got) {
			t.Errorf("%+v", got)
		}
		if got := impl.RunUploads(impl.Bucket{NextId: 1}, nil); !sameBucket(got.Bucket, impl.Bucket{NextId: 1}) || len(got.Outs) != 0 {
			t.Errorf("%+v", got)
		}
	})
}

// The longest runs: each has to end.
func TestP16TheLongestRunsOfUploadsEnd(t *testing.T) {
	most := mixedBytes(impl.MaxBytes)
	b := bucketOf(true, versionOf("most", 1, most))
	var starts []impl.UploadOp
	for i := range impl.MaxUploads {
		starts = append(starts, upStart(rowKey(i)))
	}
	var rising []int64
	for n := range int64(impl.MaxBytes) {
		rising = append(rising, n+1)
	}
	parts := upDone(1, nil, nil)
	for n := int64(1); n <= impl.MaxParts; n++ {
		starts = append(starts, upPart(1, n, most[:1000]))
		parts.Parts, parts.Sums = append(parts.Parts, n), append(parts.Sums, partSum(most[:1000]))
	}
	refused := under(parts, 1, 0, -2)
	for name, fill := range map[string]func(i int64) impl.UploadOp{
		"parts":           func(i int64) impl.UploadOp { return upPart(i%20+1, i/20%100+1, most) },
		"copies":          func(i int64) impl.UploadOp { return upCopy(i%20+1, i/20%100+1, "most", 0, 0) },
		"pieces":          func(i int64) impl.UploadOp { return upCopy(i%20+1, i/20%100+1, "most", i, impl.MaxBytes/2) },
		"refused":         func(int64) impl.UploadOp { return refused },
		"stale":           func(int64) impl.UploadOp { return upDone(1, rising, rising) },
		"done and begun":  func(i int64) impl.UploadOp { return []impl.UploadOp{upDrop(i/2 + 1), upStart("k")}[i%2] },
		"read in between": func(i int64) impl.UploadOp { return upBucket(buGet("most", 0)) },
	} {
		ops := slices.Clone(starts)
		for i := range int64(impl.MaxOps - len(starts)) {
			ops = append(ops, fill(i))
		}
		got := impl.RunUploads(b, ops)
		if len(got.Outs) != impl.MaxOps || !sameBucket(got.Bucket, b) {
			t.Errorf("%s: %d outs", name, len(got.Outs))
		}
	}
}
