package tests

import (
	"math"
	"math/rand"
	"slices"
	"strconv"
	"strings"
	"testing"

	"loop.example/g00020/impl"
)

// withSum puts the four bytes of a record's sum behind what it goes over, whether that is a record or none.
func withSum(text string) string {
	sum := impl.SumOf(text, 5)
	return text + string([]byte{byte(sum / 16777216), byte(sum / 65536), byte(sum / 256), byte(sum)})
}

// plainRecord is the document's sentence.
func plainRecord(key string, gone bool, data string) string {
	mark := "\x00"
	if gone {
		mark = "\x01"
	}
	return withSum("\xe7" + impl.PutText(key) + mark + impl.PutText(data))
}

func mayBeRecord(key string, gone bool, data string) bool {
	return len(key) >= 1 && len(key) <= 200 && len(data) <= 100000 && (!gone || data == "")
}

// plainGet takes the parts of a record as they say that they are, and holds what they would have been written as against
// what stands there.
func plainGet(data string, at int64) impl.Record {
	if at < 0 || at >= int64(len(data)) || data[at] != 231 {
		return impl.Record{}
	}
	key := impl.GetText(data, at+1)
	if !key.Good || key.Next >= int64(len(data)) {
		return impl.Record{}
	}
	gone := data[key.Next] == 1
	body := impl.GetText(data, key.Next+1)
	if !body.Good || !mayBeRecord(key.Text, gone, body.Text) {
		return impl.Record{}
	}
	if !strings.HasPrefix(data[at:], plainRecord(key.Text, gone, body.Text)) {
		return impl.Record{}
	}
	return impl.Record{Key: key.Text, Gone: gone, Data: body.Text, At: at, Next: body.Next + 4}
}

func plainScan(data string) []impl.Record {
	var list []impl.Record
	for at := int64(0); at < int64(len(data)); {
		r := plainGet(data, at)
		if r == (impl.Record{}) {
			at++
			continue
		}
		list = append(list, r)
		at = r.Next
	}
	return list
}

// plainLast gives the last record of each key, in the order in which they stand.
func plainLast(data string) []impl.Record {
	var list []impl.Record
	for _, r := range plainScan(data) {
		list = slices.DeleteFunc(list, func(old impl.Record) bool { return old.Key == r.Key })
		list = append(list, r)
	}
	return slices.DeleteFunc(list, func(r impl.Record) bool { return r.Gone })
}

func plainRead(data, key string) (string, int64) {
	for _, r := range plainLast(data) {
		if r.Key == key {
			return r.Data, impl.OK
		}
	}
	return "", impl.ErrNone
}

func plainScrub(data string) []string {
	covered := make([]bool, len(data))
	for _, r := range plainScan(data) {
		for at := r.At; at < r.Next; at++ {
			covered[at] = true
		}
	}
	var keys []string
	for at := range covered {
		if data[at] == 231 && !covered[at] && len(keys) < 100 {
			keys = append(keys, strconv.Itoa(at))
		}
	}
	return keys
}

// plainPut tells what stands behind a put or a drop.
func plainPut(e *impl.Extent, key string, gone bool, data string) int64 {
	if !mayBeRecord(key, gone, data) {
		return impl.ErrForm
	}
	record := plainRecord(key, gone, data)
	if len(e.Data)+len(record) > 300000 {
		return impl.ErrFull
	}
	if _, code := plainRead(e.Data, key); gone && code != impl.OK {
		return impl.ErrNone
	}
	e.Data += record
	return impl.OK
}

func plainRot(e *impl.Extent, at, turn int64) int64 {
	if turn < 1 || turn > 255 || at < 0 || at >= int64(len(e.Data)) {
		return impl.ErrForm
	}
	e.Data = turned(e.Data, at, turn)
	return impl.OK
}

func turned(data string, at, turn int64) string {
	return data[:at] + string([]byte{data[at] ^ byte(turn)}) + data[at+1:]
}

// plainOp looks at all of the extent for each operation.
func plainOp(e *impl.Extent, op impl.ExtentOp) impl.ExtentOut {
	var out impl.ExtentOut
	switch op.Kind {
	case 1:
		out.Code = plainPut(e, op.Key, false, op.Data)
	case 2:
		out.Code = plainPut(e, op.Key, true, "")
	case 3:
		e.Synced = int64(len(e.Data))
	case 4:
		if op.Keep < 0 {
			op.Keep = 0
		}
		if op.Keep < int64(len(e.Data))-e.Synced {
			e.Data = e.Data[:e.Synced+op.Keep]
		}
		e.Synced = int64(len(e.Data))
	case 5:
		out.Code = plainRot(e, op.At, op.Turn)
	case 6:
		out.Data, out.Code = plainRead(e.Data, op.Key)
	case 7:
		out.Keys = plainScrub(e.Data)
	case 8:
		var left string
		for _, r := range plainLast(e.Data) {
			left += e.Data[r.At:r.Next]
		}
		e.Data, e.Synced = left, int64(len(left))
	default:
		out.Code = impl.ErrForm
	}
	out.Held = int64(len(plainLast(e.Data)))
	return out
}

func plainRun(e impl.Extent, ops []impl.ExtentOp) impl.ExtentRun {
	var outs []impl.ExtentOut
	for _, op := range ops {
		outs = append(outs, plainOp(&e, op))
	}
	return impl.ExtentRun{Extent: e, Outs: outs}
}

func isOut(got, want impl.ExtentOut) bool {
	return got.Code == want.Code && got.Data == want.Data && got.Held == want.Held && slices.Equal(got.Keys, want.Keys)
}

func isNoRun(got impl.ExtentRun) bool {
	return got.Extent == impl.Extent{} && len(got.Outs) == 0
}

// checkRun holds a run against the plain one.
func checkRun(t *testing.T, what string, e impl.Extent, ops []impl.ExtentOp) impl.ExtentRun {
	t.Helper()
	got, want := impl.RunExtent(e, ops), plainRun(e, ops)
	if len(got.Outs) != len(want.Outs) {
		t.Fatalf("%s: %d outs for %d operations", what, len(got.Outs), len(ops))
	}
	for i := range want.Outs {
		if !isOut(got.Outs[i], want.Outs[i]) {
			t.Fatalf("%s: operation %d, %.80v:\n%.200v, not\n%.200v", what, i, ops[i], got.Outs[i], want.Outs[i])
		}
	}
	if got.Extent != want.Extent {
		t.Fatalf("%s: behind all, %d bytes, %d of them synced, not %d and %d:\n%.300q, not\n%.300q", what, len(got.Extent.Data),
			got.Extent.Synced, len(want.Extent.Data), want.Extent.Synced, got.Extent.Data, want.Extent.Data)
	}
	return got
}

// Short names for operations.
func exPut(key, data string) impl.ExtentOp {
	return impl.ExtentOp{Kind: impl.ExPut, Key: key, Data: data}
}
func exDrop(key string) impl.ExtentOp    { return impl.ExtentOp{Kind: impl.ExDrop, Key: key} }
func exSync() impl.ExtentOp              { return impl.ExtentOp{Kind: impl.ExSync} }
func exCrash(keep int64) impl.ExtentOp   { return impl.ExtentOp{Kind: impl.ExCrash, Keep: keep} }
func exRot(at, turn int64) impl.ExtentOp { return impl.ExtentOp{Kind: impl.ExRot, At: at, Turn: turn} }
func exRead(key string) impl.ExtentOp    { return impl.ExtentOp{Kind: impl.ExRead, Key: key} }
func exScrub() impl.ExtentOp             { return impl.ExtentOp{Kind: impl.ExScrub} }
func exCompact() impl.ExtentOp           { return impl.ExtentOp{Kind: impl.ExCompact} }

// extents draws extents and what happens to them.
type extents struct {
	chance *rand.Rand
}

func newExtents() extents {
	return extents{rand.New(rand.NewSource(7))}
}

var fewKeys = []string{"a", "b", "key", "\xe7", "\xe7\x01a\x00\x00", "\x00", "object/1"}

func (x extents) key() string {
	return fewKeys[x.chance.Intn(len(fewKeys))]
}

func (x extents) bytes(most int) string {
	data := make([]byte, x.chance.Intn(most+1))
	for i := range data {
		data[i] = byte(x.chance.Intn(256))
		if x.chance.Intn(6) == 0 {
			data[i] = 231
		}
	}
	return string(data)
}

// body is data of a record; some have a right record within them, some the beginning of one.
func (x extents) body() string {
	switch x.chance.Intn(6) {
	case 0:
		return x.bytes(3) + x.record() + x.bytes(3)
	case 1:
		return x.bytes(3) + x.begun()
	case 2:
		return ""
	}
	return x.bytes(20)
}

func (x extents) record() string {
	if x.chance.Intn(5) == 0 {
		return plainRecord(x.key(), true, "")
	}
	return plainRecord(x.key(), false, x.body())
}

// begun is the beginning of a record that goes on in what comes behind it.
func (x extents) begun() string {
	record := "\xe7" + impl.PutText(x.key()) + "\x00" + impl.PutNum(x.chance.Int63n(60)) + x.bytes(5)
	return record[:1+x.chance.Intn(len(record))]
}

// ended puts the sum behind a record that was begun somewhere within data, where it fits.
func ended(data string, from int) string {
	for at := from; at < len(data); at++ {
		if data[at] != 231 {
			continue
		}
		key := impl.GetText(data, int64(at)+1)
		if !key.Good || key.Next+1 >= int64(len(data)) {
			continue
		}
		size := impl.GetNum(data, key.Next+1)
		if size.Good && size.Next+size.Num == int64(len(data)) {
			return withSum(data[at:])
		}
	}
	return ""
}

// mixed are records, bent and cut-off ones, bytes that are none, and records that lie across others.
func (x extents) mixed(count int) string {
	var data string
	for range count {
		switch x.chance.Intn(8) {
		case 0:
			data += x.bytes(6)
		case 1:
			data += x.begun()
		case 2:
			record := x.record()
			data += turned(record, x.chance.Int63n(int64(len(record))), 1+x.chance.Int63n(255))
		case 3:
			record := x.record()
			data += record[:x.chance.Intn(len(record))]
		case 4:
			for range 60 {
				data += "z"
				if sum := ended(data, max(0, len(data)-90)); sum != "" {
					data += sum[len(sum)-4:]
					break
				}
			}
		default:
			data += x.record()
		}
	}
	return data
}

// right are records one behind the other, none of which has a mark within but at its beginning.
func (x extents) right(count int) string {
	var data string
	for len(data) < 10*count {
		record := plainRecord("key "+strconv.Itoa(x.chance.Intn(count)), false, strings.Repeat("d", x.chance.Intn(30)))
		if x.chance.Intn(6) == 0 {
			record = plainRecord("key "+strconv.Itoa(x.chance.Intn(count)), true, "")
		}
		if strings.Count(record, "\xe7") == 1 {
			data += record
		}
	}
	return data
}

func (x extents) op(size int64) impl.ExtentOp {
	op := impl.ExtentOp{Kind: 1 + x.chance.Int63n(9), Key: x.key(), Data: x.body(), Keep: x.chance.Int63n(60) - 5,
		At: x.chance.Int63n(size + 20), Turn: 1 + x.chance.Int63n(255)}
	if x.chance.Intn(3) == 0 {
		op.Kind = impl.ExPut
	}
	if op.Kind == impl.ExCompact && x.chance.Intn(4) > 0 {
		op.Kind = impl.ExRead
	}
	return op
}

// ops are any operations; some bytes that are turned are turned back later.
func (x extents) ops(size int64, count int) []impl.ExtentOp {
	var ops, back []impl.ExtentOp
	for len(ops) < count {
		op := x.op(size)
		if len(back) > 0 && x.chance.Intn(4) == 0 {
			op, back = back[0], back[1:]
		} else if op.Kind == impl.ExRot {
			back = append(back, op)
		}
		ops = append(ops, op)
		if x.chance.Intn(3) == 0 {
			ops = append(ops, exRead(x.key()), exScrub())
		}
	}
	return ops[:count]
}

func TestP8LimitsAndKindsAreTheDocuments(t *testing.T) {
	if impl.MaxExtent != 300000 || impl.MaxKey != 200 {
		t.Errorf("MaxExtent is %d, MaxKey %d", impl.MaxExtent, impl.MaxKey)
	}
	kinds := []int{impl.ExPut, impl.ExDrop, impl.ExSync, impl.ExCrash, impl.ExRot, impl.ExRead, impl.ExScrub, impl.ExCompact}
	if !slices.Equal(kinds, []int{1, 2, 3, 4, 5, 6, 7, 8}) {
		t.Errorf("kinds are %v", kinds)
	}
}

func TestP8RecordsAsKnown(t *testing.T) {
	for _, known := range []struct {
		key  string
		gone bool
		data string
		want string
	}{
		{"k", false, "ab", "\xe7\x01k\x00\x02ab\x08\x9f\xf8\x64"},
		{"k", true, "", "\xe7\x01k\x01\x00\x08\x32\xc7\xb0"},
		{"k", false, "", "\xe7\x01k\x00\x00\x08\x31\xc7\xad"},
		{"\xe7", false, "\xe7\xe7", "\xe7\x01\xe7\x00\x02\xe7\xe7\x49\x16\x57\xf7"},
		{"object/1", false, "some data", "\xe7\x08object/1\x00\x09some data\x0e\xd7\xfb\xb4"},
		{"\x00", true, "", "\xe7\x01\x00\x01\x00\x05\xb0\xc3\x17"},
		{"\x00\xff", false, "\x00\x01\x02\x03\x04", "\xe7\x02\x00\xff\x00\x05\x00\x01\x02\x03\x04\x1c\x08\x4c\xb4"},
	} {
		if got := impl.PutRecord(known.key, known.gone, known.data); got != known.want {
			t.Errorf("%q, gone %v, %q: %q", known.key, known.gone, known.data, got)
		}
		want := impl.Record{Key: known.key, Gone: known.gone, Data: known.data, At: 3, Next: 3 + int64(len(known.want))}
		if got := impl.GetRecord("abc"+known.want+"\xe7", 3); got != want {
			t.Errorf("%q: %v, not %v", known.want, got, want)
		}
	}
	for _, known := range []struct {
		key  string
		gone bool
		data string
		size int
		sum  string
	}{
		{strings.Repeat("k", 127), false, strings.Repeat("d", 127), 262, "\x77\x0a\x47\x64"},
		{strings.Repeat("k", 128), false, strings.Repeat("d", 128), 266, "\x08\x00\xc3\xa2"},
		{strings.Repeat("k", 200), false, strings.Repeat("d", 100000), 100211, "\x7c\xf0\x46\x8b"},
		{strings.Repeat("\xff", 200), true, "", 209, "\x2d\x84\x6e\x78"},
		{"k", false, strings.Repeat("d", 16384), 16395, "\x4a\x71\x76\x9e"},
	} {
		got := impl.PutRecord(known.key, known.gone, known.data)
		if len(got) != known.size || !strings.HasSuffix(got, known.sum) {
			t.Errorf("a key of %d bytes, data of %d: %d bytes", len(known.key), len(known.data), len(got))
		}
	}
}

// recordKeys and recordData have as few bytes as can be, as many, and what changes the form of a length.
var recordKeys = []string{"k", "\x00", "\xe7", "\xff", "ab", strings.Repeat("k", 127), strings.Repeat("k", 128),
	strings.Repeat("\xe7", 199), strings.Repeat("\xe7", impl.MaxKey)}

var recordData = []string{"", "d", "\xe7", "\x00\x00", allBytes(), strings.Repeat("d", 127), strings.Repeat("d", 128),
	strings.Repeat("\xe7", 16383), strings.Repeat("\xe7", 16384), strings.Repeat("d", impl.MaxBytes-1), strings.Repeat("d", impl.MaxBytes)}

func TestP8RecordsByTheWords(t *testing.T) {
	check := func(key string, gone bool, data string) {
		t.Helper()
		record := impl.PutRecord(key, gone, data)
		if record != plainRecord(key, gone, data) {
			t.Fatalf("a key of %d bytes, gone %v, data of %d: %.40q", len(key), gone, len(data), record)
		}
		for _, ahead := range []string{"", "\xe7", "some bytes", record} {
			at := int64(len(ahead))
			want := impl.Record{Key: key, Gone: gone, Data: data, At: at, Next: at + int64(len(record))}
			if got := impl.GetRecord(ahead+record, at); got != want {
				t.Fatalf("a key of %d bytes, gone %v, data of %d, at %d: not read back", len(key), gone, len(data), at)
			}
			if got := impl.GetRecord(ahead+record+"\x00behind", at); got != want {
				t.Fatalf("a key of %d bytes, gone %v, data of %d, at %d: not read back ahead of others", len(key), gone, len(data), at)
			}
		}
	}
	for _, key := range recordKeys {
		check(key, true, "")
		for _, data := range recordData {
			check(key, false, data)
		}
	}
}

func TestP8NoSuchRecords(t *testing.T) {
	long := strings.Repeat("d", impl.MaxBytes+1)
	for _, wrong := range []struct {
		key  string
		gone bool
		data string
	}{
		{"", false, ""}, {"", false, "data"}, {"", true, ""}, {"", true, "data"},
		{strings.Repeat("k", impl.MaxKey+1), false, "data"}, {strings.Repeat("k", impl.MaxKey+1), true, ""},
		{strings.Repeat("k", impl.MaxBytes), false, ""}, {long, false, ""}, {long, true, long}, {"k", true, "d"}, {"k", true, "\x00"},
		{"k", true, long}, {"k", false, long}, {strings.Repeat("k", impl.MaxKey), false, long + long}, {"k", false, strings.Repeat(long, 5)},
	} {
		if got := impl.PutRecord(wrong.key, wrong.gone, wrong.data); got != "" {
			t.Errorf("a key of %d bytes, gone %v, data of %d: %.40q", len(wrong.key), wrong.gone, len(wrong.data), got)
		}
	}
}

// illRecords have a right sum, but are no record.
func illRecords() map[string]string {
	key, long := impl.PutText("k"), strings.Repeat("k", impl.MaxKey+1)
	most := strings.Repeat("d", impl.MaxBytes)
	return map[string]string{
		"no key":                         withSum("\xe7\x00\x00" + impl.PutText("data")),
		"no key, gone":                   withSum("\xe7\x00\x01\x00"),
		"a key of 201 bytes":             withSum("\xe7" + impl.PutText(long) + "\x00" + impl.PutText("data")),
		"a key of 201 bytes, gone":       withSum("\xe7" + impl.PutText(long) + "\x01\x00"),
		"a key of 100000 bytes":          withSum("\xe7" + impl.PutText(most) + "\x00" + impl.PutText("data")),
		"gone with data":                 withSum("\xe7" + key + "\x01" + impl.PutText("d")),
		"neither gone nor not":           withSum("\xe7" + key + "\x02" + impl.PutText("data")),
		"neither gone nor not, no data":  withSum("\xe7" + key + "\x02\x00"),
		"neither gone nor not, 128":      withSum("\xe7" + key + "\x80" + impl.PutText("data")),
		"neither gone nor not, 255":      withSum("\xe7" + key + "\xff\x00"),
		"data of 100001 bytes":           withSum("\xe7" + key + "\x00" + impl.PutNum(impl.MaxBytes+1) + most + "d"),
		"a key's length of two bytes":    withSum("\xe7\x81\x00k\x00" + impl.PutText("data")),
		"a data length of two bytes":     withSum("\xe7" + key + "\x00\x84\x00data"),
		"a length 0 of two bytes":        withSum("\xe7" + key + "\x00\x80\x00"),
		"a gone one's length of two":     withSum("\xe7" + key + "\x01\x80\x00"),
		"a key's length beyond all":      withSum("\xe7\xff\xff\xff\xff\xff\xff\xff\xff\x7fk\x00" + impl.PutText("data")),
		"a key's length without end":     withSum("\xe7" + strings.Repeat("\xff", 12) + "k\x00" + impl.PutText("data")),
		"a data length beyond all":       withSum("\xe7" + key + "\x00\xff\xff\xff\xff\xff\xff\xff\xff\x7fdata"),
		"a data length without end":      withSum("\xe7" + key + "\x00" + strings.Repeat("\xff", 12) + "data"),
		"a data length beyond the end":   withSum("\xe7" + key + "\x00\x09data"),
		"another mark":                   withSum("\xe6" + key + "\x00" + impl.PutText("data")),
		"no mark":                        withSum(key + "\x00" + impl.PutText("data")),
		"no byte for gone":               withSum("\xe7" + key + impl.PutText("data")),
		"no data":                        withSum("\xe7" + key + "\x00"),
		"a mark alone":                   withSum("\xe7"),
		"the sum with the lowest first":  swapped(plainRecord("k", false, "data")),
		"the sum with another seed":      otherSeed("\xe7" + key + "\x00" + impl.PutText("data")),
		"the sum without the mark":       "\xe7" + withSum(key+"\x00"+impl.PutText("data")),
		"the sum of the key alone":       "\xe7" + key + "\x00\x00" + withSum("\xe7" + key)[3:],
		"a sum of 0":                     "\xe7" + key + "\x00\x00\x00\x00\x00\x00",
		"the sum and 2147483647 more":    morePrime(plainRecord("k", false, "data")),
		"the sum that a place would see": "\xe7" + key + "\x00\x04data" + impl.PutNum(impl.SumOf("\xe7"+key+"\x00\x04data", 5)),
	}
}

func swapped(record string) string {
	b := []byte(record)
	slices.Reverse(b[len(b)-4:])
	return string(b)
}

func otherSeed(text string) string {
	sum := impl.SumOf(text, 6)
	return text + string([]byte{byte(sum >> 24), byte(sum >> 16), byte(sum >> 8), byte(sum)})
}

// morePrime writes the sum as a number that is the same modulo the prime, but another one.
func morePrime(record string) string {
	body := record[:len(record)-4]
	sum := impl.SumOf(body, 5) + impl.SumPrime
	return body + string([]byte{byte(sum >> 24), byte(sum >> 16), byte(sum >> 8), byte(sum)})
}

func TestP8IllRecordsAreNone(t *testing.T) {
	right := plainRecord("other", false, "data")
	for what, ill := range illRecords() {
		for _, ahead := range []string{"", "ab", right} {
			at := int64(len(ahead))
			if got := impl.GetRecord(ahead+ill, at); got != (impl.Record{}) {
				t.Errorf("%s: %.100v", what, got)
			}
			if got := impl.GetRecord(ahead+ill+right, at); got != (impl.Record{}) {
				t.Errorf("%s, another one behind: %.100v", what, got)
			}
		}
		if got := impl.ScanRecords(ill); len(got) != 0 {
			t.Errorf("%s: %d read", what, len(got))
		}
		run := impl.RunExtent(impl.Extent{Data: ill + right}, []impl.ExtentOp{exRead("k"), exRead("other"), exCompact()})
		if run.Outs[0].Code != impl.ErrNone || run.Outs[1].Data != "data" || run.Outs[1].Held != 1 || run.Extent.Data != right {
			t.Errorf("%s, another one behind: %.200v", what, run)
		}
	}
}

func TestP8CutOffAndTurnedRecordsAreNone(t *testing.T) {
	for _, record := range []string{plainRecord("k", false, "some data"), plainRecord("k", true, ""), plainRecord("\xe7", false, ""),
		plainRecord(strings.Repeat("k", 200), false, mixedBytes(300))} {
		for end := range len(record) {
			if got := impl.GetRecord(record[:end], 0); got != (impl.Record{}) {
				t.Fatalf("%d bytes of %d: %v", end, len(record), got)
			}
		}
		for at := range int64(len(record)) {
			for turn := int64(1); turn < 256; turn++ {
				if got := impl.GetRecord(turned(record, at, turn), 0); got != (impl.Record{}) {
					t.Fatalf("byte %d of %d turned by %d: %v", at, len(record), turn, got)
				}
			}
		}
	}
}

func TestP8NoRecordAtAPlace(t *testing.T) {
	record := plainRecord("k", false, "ab")
	size := int64(len(record))
	for _, at := range []int64{-1, -2, -size, 1, size - 1, size, size + 1, 2 * size, 1 << 32, math.MinInt64, math.MaxInt64, math.MaxInt64 - 1} {
		if got := impl.GetRecord(record, at); got != (impl.Record{}) {
			t.Errorf("at %d: %v", at, got)
		}
		if got := impl.GetRecord("", at); got != (impl.Record{}) {
			t.Errorf("of no bytes, at %d: %v", at, got)
		}
	}
	if got := impl.GetRecord("", 0); got != (impl.Record{}) {
		t.Errorf("of no bytes: %v", got)
	}
}

// GetRecord looks at data of any length.
func TestP8RecordsInDataOfAnyLength(t *testing.T) {
	record := plainRecord("k", false, "ab")
	for _, size := range []int{impl.MaxBytes + 1, impl.MaxExtent, impl.MaxExtent + 1, 4*impl.MaxBytes + 1, 3000000} {
		data := strings.Repeat("z", size) + record + "z"
		at := int64(size)
		if got := impl.GetRecord(data, at); got != (impl.Record{Key: "k", Data: "ab", At: at, Next: at + int64(len(record))}) {
			t.Errorf("behind %d bytes: %v", size, got)
		}
		if got := impl.GetRecord(data, at-1); got != (impl.Record{}) {
			t.Errorf("ahead of it, behind %d bytes: %v", size-1, got)
		}
	}
}

func TestP8ScansByTheWords(t *testing.T) {
	x := newExtents()
	var count int
	for range 4000 {
		data := x.mixed(1 + x.chance.Intn(8))
		got, want := impl.ScanRecords(data), plainScan(data)
		if !slices.Equal(got, want) {
			t.Fatalf("%q:\n%v, not\n%v", data, got, want)
		}
		for at := int64(-1); at <= int64(len(data)); at++ {
			if got, want := impl.GetRecord(data, at), plainGet(data, at); got != want {
				t.Fatalf("%q at %d: %v, not %v", data, at, got, want)
			}
		}
		count += len(want)
	}
	if count < 4000 {
		t.Errorf("only %d records", count)
	}
}

// filledUp are records with bytes at the end that make them as long as is asked.
func filledUp(size int) string {
	var data strings.Builder
	most := plainRecord("most", false, strings.Repeat("\xe7", impl.MaxBytes))
	data.WriteString(most)
	data.WriteString(plainRecord(strings.Repeat("k", impl.MaxKey), false, strings.Repeat("d", impl.MaxBytes)))
	for i := 0; data.Len() < size-40; i++ {
		data.WriteString(plainRecord("key "+strconv.Itoa(i), i%7 == 0, ""))
	}
	data.WriteString(strings.Repeat("z", size-data.Len()))
	return data.String()
}

func TestP8ScansAtTheEdges(t *testing.T) {
	if got := impl.ScanRecords(""); len(got) != 0 {
		t.Errorf("of no bytes: %v", got)
	}
	data := filledUp(impl.MaxExtent)
	if got, want := impl.ScanRecords(data), plainScan(data); !slices.Equal(got, want) || len(got) < 5000 {
		t.Errorf("of MaxExtent bytes: %d records, not %d", len(got), len(want))
	}
	for _, size := range []int{impl.MaxExtent + 1, impl.MaxExtent + 2, 2 * impl.MaxExtent, 5000000} {
		if got := impl.ScanRecords(data + strings.Repeat("z", size-len(data))); len(got) != 0 {
			t.Errorf("of %d bytes: %d records", size, len(got))
		}
	}
	many := strings.Repeat(plainRecord("k", true, ""), impl.MaxExtent/9)
	if got := impl.ScanRecords(many); len(got) != impl.MaxExtent/9 {
		t.Errorf("the smallest ones: %d of %d", len(got), impl.MaxExtent/9)
	}
	last := strings.Repeat("\xe7", impl.MaxExtent-9) + plainRecord("k", false, "")
	if got := impl.ScanRecords(last); len(got) != 1 || got[0].At != impl.MaxExtent-9 || got[0].Next != impl.MaxExtent {
		t.Errorf("behind marks: %v", got)
	}
}

func TestP8RunAsKnown(t *testing.T) {
	// Each of these records has ten bytes, a drop nine.
	steps := []struct {
		op   impl.ExtentOp
		want impl.ExtentOut
	}{
		{exRead("a"), impl.ExtentOut{Code: impl.ErrNone}},
		{exPut("a", "1"), impl.ExtentOut{Held: 1}},
		{exPut("b", "2"), impl.ExtentOut{Held: 2}},
		{exSync(), impl.ExtentOut{Held: 2}},
		{exPut("a", "3"), impl.ExtentOut{Held: 2}},
		{exDrop("b"), impl.ExtentOut{Held: 1}},
		{exRead("a"), impl.ExtentOut{Data: "3", Held: 1}},
		{exRead("b"), impl.ExtentOut{Code: impl.ErrNone, Held: 1}},
		{exDrop("b"), impl.ExtentOut{Code: impl.ErrNone, Held: 1}},
		{exCrash(18), impl.ExtentOut{Held: 2}},
		{exRead("a"), impl.ExtentOut{Data: "3", Held: 2}},
		{exRead("b"), impl.ExtentOut{Data: "2", Held: 2}},
		{exScrub(), impl.ExtentOut{Keys: []string{"30"}, Held: 2}},
		{exRot(25, 255), impl.ExtentOut{Held: 2}},
		{exScrub(), impl.ExtentOut{Keys: []string{"20", "30"}, Held: 2}},
		{exRead("a"), impl.ExtentOut{Data: "1", Held: 2}},
		{exRot(25, 255), impl.ExtentOut{Held: 2}},
		{exRead("a"), impl.ExtentOut{Data: "3", Held: 2}},
		{exRot(38, 1), impl.ExtentOut{Code: impl.ErrForm, Held: 2}},
		{exPut("c", "\xe7"), impl.ExtentOut{Held: 3}},
		{exScrub(), impl.ExtentOut{Keys: []string{"30"}, Held: 3}},
		{exCrash(0), impl.ExtentOut{Held: 2}},
		{exDrop("c"), impl.ExtentOut{Code: impl.ErrNone, Held: 2}},
		{exPut("b", ""), impl.ExtentOut{Held: 2}},
		{exRead("b"), impl.ExtentOut{Held: 2}},
		{exCompact(), impl.ExtentOut{Held: 2}},
		{exScrub(), impl.ExtentOut{Held: 2}},
		{exRead("a"), impl.ExtentOut{Data: "3", Held: 2}},
		{exRead("b"), impl.ExtentOut{Held: 2}},
		{exRead("c"), impl.ExtentOut{Code: impl.ErrNone, Held: 2}},
		{exPut("d", "4"), impl.ExtentOut{Held: 3}},
		{impl.ExtentOp{Kind: 0, Key: "a", Data: "5"}, impl.ExtentOut{Code: impl.ErrForm, Held: 3}},
	}
	var ops []impl.ExtentOp
	for _, step := range steps {
		ops = append(ops, step.op)
	}
	got := checkRun(t, "known", impl.Extent{}, ops)
	for i, step := range steps {
		if !isOut(got.Outs[i], step.want) {
			t.Errorf("%d, %v: %v, not %v", i, step.op, got.Outs[i], step.want)
		}
	}
	want := impl.Extent{Data: plainRecord("a", false, "3") + plainRecord("b", false, "") + plainRecord("d", false, "4"), Synced: 19}
	if got.Extent != want {
		t.Errorf("%v, not %v", got.Extent, want)
	}
}

func TestP8RunsByTheWords(t *testing.T) {
	x := newExtents()
	for i := range 1500 {
		data := x.mixed(x.chance.Intn(10))
		if i%3 == 0 {
			data = x.right(x.chance.Intn(10))
		}
		e := impl.Extent{Data: data, Synced: x.chance.Int63n(int64(len(data)) + 1)}
		checkRun(t, strconv.Itoa(i), e, x.ops(int64(len(data)), 30))
	}
}

// A record may reach 100211 bytes: what is far ahead of a change is read again if a record there reaches it.
func TestP8RunsOfLongRecords(t *testing.T) {
	x := newExtents()
	most := plainRecord(strings.Repeat("\xe7", impl.MaxKey), false, plainRecord("inner", false, "1")+strings.Repeat("d", impl.MaxBytes-14))
	small := plainRecord("small", false, "s")
	data := small + most + small + most[:len(most)-1]
	size := int64(len(data))
	first, second := int64(len(small)), int64(2*len(small)+len(most))
	key := strings.Repeat("\xe7", impl.MaxKey)
	reads := []impl.ExtentOp{exRead("inner"), exRead("small"), exRead(key), exScrub()}
	for _, at := range []int64{0, first, first + 1, first + 4, first + 202, first + 205, first + 206, first + 300, first + 100206,
		first + 100210, first + 100211, second, second + 5, size - 1, size - 50, x.chance.Int63n(size)} {
		ops := slices.Concat(reads, []impl.ExtentOp{exRot(at, 255)}, reads, []impl.ExtentOp{exRot(at, 255)}, reads,
			[]impl.ExtentOp{exPut("more", "\xe7"), exRot(at, 1), exCompact()}, reads)
		checkRun(t, "a byte turned at "+strconv.FormatInt(at, 10), impl.Extent{Data: data, Synced: size}, ops)
	}
	for _, keep := range []int64{0, 1, first, first + 100210, first + 100211, second + 100, size - 1, size} {
		ops := slices.Concat([]impl.ExtentOp{exCrash(keep)}, reads, []impl.ExtentOp{exPut("more", "")}, reads)
		checkRun(t, "a crash that keeps "+strconv.FormatInt(keep, 10), impl.Extent{Data: data}, ops)
	}
}

// reaching is data whose end, with what is put behind it, makes a record: the sum that it lacks stands in what is put.
func reaching(size int) (data string, op impl.ExtentOp) {
	filler := strings.Repeat("f", size)
	cut := "\xe7" + impl.PutText("outer") + "\x00" + impl.PutNum(int64(size+8)) + filler
	begun := "\xe7" + impl.PutText("put") + "\x00\x06"
	sum := withSum(cut + begun + "x")
	return cut, exPut("put", "x"+sum[len(sum)-4:]+"y")
}

func TestP8WhatIsPutEndsARecordThatWasCutOff(t *testing.T) {
	for _, size := range []int{0, 1, 50, 1000, impl.MaxBytes - 9, impl.MaxBytes - 8} {
		data, op := reaching(size)
		ahead := plainRecord("first", false, "1")
		end := int64(len(ahead) + len(data))
		ops := []impl.ExtentOp{exRead("outer"), op, exRead("outer"), exRead("put"), exRead("first"), exScrub(), exRot(end, 1), exRead("put"),
			exRot(end, 1), exRead("put"), exRot(int64(len(ahead)), 2), exRead("put"), exRead("outer"), exRot(int64(len(ahead)), 2),
			exCrash(int64(len(data))), exRead("put"), exRead("outer"), op, exCompact(), exRead("put"), exRead("outer")}
		got := checkRun(t, strconv.Itoa(size), impl.Extent{Data: ahead + data, Synced: int64(len(ahead))}, ops)
		for i, code := range map[int]int64{0: impl.ErrNone, 2: impl.OK, 3: impl.ErrNone, 4: impl.OK, 11: impl.OK, 12: impl.ErrNone,
			15: impl.ErrNone, 16: impl.ErrNone, 19: impl.ErrNone, 20: impl.OK} {
			if got.Outs[i].Code != code {
				t.Errorf("size %d, operation %d: code %d, not %d", size, i, got.Outs[i].Code, code)
			}
		}
	}
}

func TestP8NoRuns(t *testing.T) {
	record := plainRecord("a", false, "1")
	size := int64(len(record))
	many := make([]impl.ExtentOp, impl.MaxOps+1)
	for i := range many {
		many[i] = exSync()
	}
	for _, synced := range []int64{-1, -2, size + 1, size + 2, 1 << 32, math.MinInt64, math.MaxInt64} {
		for _, ops := range [][]impl.ExtentOp{nil, {exRead("a")}, {exCrash(0), exSync()}} {
			if got := impl.RunExtent(impl.Extent{Data: record, Synced: synced}, ops); !isNoRun(got) {
				t.Errorf("synced %d of %d: %v", synced, size, got)
			}
		}
	}
	if got := impl.RunExtent(impl.Extent{Synced: 1}, nil); !isNoRun(got) {
		t.Errorf("synced 1 of no bytes: %v", got)
	}
	if got := impl.RunExtent(impl.Extent{Data: record}, many); !isNoRun(got) {
		t.Errorf("MaxOps + 1 operations: %d outs", len(got.Outs))
	}
	for _, length := range []int{impl.MaxExtent + 1, impl.MaxExtent + 2, 3 * impl.MaxExtent} {
		long := strings.Repeat("z", length)
		for _, synced := range []int64{0, impl.MaxExtent, int64(length)} {
			if got := impl.RunExtent(impl.Extent{Data: long, Synced: synced}, []impl.ExtentOp{exSync()}); !isNoRun(got) {
				t.Errorf("%d bytes: %d outs", length, len(got.Outs))
			}
		}
	}
	if got := impl.RunExtent(impl.Extent{Data: record, Synced: size}, many[1:]); len(got.Outs) != impl.MaxOps {
		t.Errorf("MaxOps operations: %d outs", len(got.Outs))
	}
	for _, e := range []impl.Extent{{}, {Data: record}, {Data: record, Synced: 3}, {Data: record, Synced: size}, {Data: filledUp(impl.MaxExtent),
		Synced: impl.MaxExtent}} {
		for _, ops := range [][]impl.ExtentOp{nil, {}} {
			if got := impl.RunExtent(e, ops); got.Extent != e || len(got.Outs) != 0 {
				t.Errorf("no operations on %d bytes, %d synced: %d bytes, %d synced, %d outs", len(e.Data), e.Synced, len(got.Extent.Data),
					got.Extent.Synced, len(got.Outs))
			}
		}
	}
}

// MaxOps operations that all do something.
func TestP8AsManyOperationsAsCanBe(t *testing.T) {
	var ops []impl.ExtentOp
	for i := range impl.MaxOps {
		key := strconv.Itoa(i % 300)
		ops = append(ops, exPut(key, strconv.Itoa(i)))
		if i%5 == 4 {
			ops[i] = exDrop(strconv.Itoa(i % 50))
		}
	}
	got := impl.RunExtent(impl.Extent{}, ops)
	e, live := impl.Extent{}, map[string]bool{}
	for i, op := range ops {
		want := int64(impl.OK)
		if op.Kind == impl.ExDrop && !live[op.Key] {
			want = impl.ErrNone
		} else {
			e.Data += plainRecord(op.Key, op.Kind == impl.ExDrop, op.Data)
			live[op.Key] = op.Kind == impl.ExPut
		}
		var held int64
		for _, there := range live {
			if there {
				held++
			}
		}
		if got.Outs[i].Code != want || got.Outs[i].Held != held {
			t.Fatalf("%d, %v: %v, not code %d with %d held", i, op, got.Outs[i], want, held)
		}
	}
	if got.Extent != e {
		t.Errorf("%d bytes, %d synced, not %d", len(got.Extent.Data), got.Extent.Synced, len(e.Data))
	}
}

func TestP8WrongOperations(t *testing.T) {
	long := strings.Repeat("k", impl.MaxBytes+1)
	e := impl.Extent{Data: plainRecord("a", false, "1") + plainRecord("b", false, "2") + plainRecord("b", true, "") + "z", Synced: 5}
	size := int64(len(e.Data))
	wrong := map[int64][]impl.ExtentOp{
		impl.ErrForm: {
			exPut("", ""), exPut("", "data"), exPut(strings.Repeat("k", impl.MaxKey+1), "data"), exPut(long, "data"), exPut("a", long),
			exPut("a", strings.Repeat(long, 5)), exDrop(""), exDrop(strings.Repeat("k", impl.MaxKey+1)), exDrop(long),
			exRot(0, 0), exRot(0, -1), exRot(0, 256), exRot(0, 257), exRot(0, math.MinInt64), exRot(0, math.MaxInt64), exRot(0, 1<<32+1),
			exRot(-1, 1), exRot(size, 1), exRot(size+1, 1), exRot(math.MinInt64, 1), exRot(math.MaxInt64, 1), exRot(1<<32, 1), exRot(-1, 0),
			{Kind: 0}, {Kind: 9}, {Kind: -1}, {Kind: 10, Key: "a", Data: "3", At: 1, Turn: 1}, {Kind: math.MinInt64}, {Kind: math.MaxInt64},
			{Kind: 1<<32 + 1, Key: "a", Data: "3"},
		},
		impl.ErrNone: {
			exDrop("b"), exDrop("c"), exDrop("z"), exDrop(strings.Repeat("k", impl.MaxKey)), exRead("b"), exRead("c"), exRead(""), exRead(long),
			exRead(strings.Repeat("k", impl.MaxKey+1)), {Kind: impl.ExDrop, Key: "b", Data: "data"}, {Kind: impl.ExDrop, Key: "b", Data: long},
			{Kind: impl.ExRead, Key: "b", Data: "data"},
		},
	}
	for code, ops := range wrong {
		for i, op := range ops {
			got := impl.RunExtent(e, []impl.ExtentOp{op, exRead("a")})
			if len(got.Outs) != 2 || !isOut(got.Outs[0], impl.ExtentOut{Code: code, Held: 1}) || got.Outs[1].Data != "1" || got.Extent != e {
				t.Errorf("%d of code %d, %.60v: %v", i, code, op, got.Outs)
			}
		}
	}
	// What an operation does not need plays no part.
	for i, op := range []impl.ExtentOp{
		{Kind: impl.ExDrop, Key: "a", Data: "data"}, {Kind: impl.ExDrop, Key: "a", Data: long}, {Kind: impl.ExSync, Key: long, Turn: -1},
		{Kind: impl.ExCrash, Keep: -1, Data: long}, {Kind: impl.ExRead, Key: "a", Data: long, At: -1}, {Kind: impl.ExScrub, Key: long, Keep: -1},
		{Kind: impl.ExCompact, Key: long, Data: long}, {Kind: impl.ExPut, Key: "a", Keep: -1, At: -1, Turn: -1},
	} {
		if got := checkRun(t, "more than is needed "+strconv.Itoa(i), e, []impl.ExtentOp{op}); got.Outs[0].Code != impl.OK {
			t.Errorf("%d: code %d", i, got.Outs[0].Code)
		}
	}
}

// Of several faults the one told first: no such record, no room, no such key.
func TestP8TheFirstOfItsCodes(t *testing.T) {
	record := plainRecord("a", false, "1")
	full := record + strings.Repeat("z", impl.MaxExtent-len(record))
	nearly := full[:impl.MaxExtent-9]
	long := strings.Repeat("d", impl.MaxBytes+1)
	for i, step := range []struct {
		data string
		op   impl.ExtentOp
		want int64
	}{
		{full, exPut("", "1"), impl.ErrForm}, {full, exPut("a", long), impl.ErrForm}, {full, exDrop(""), impl.ErrForm},
		{full, exDrop(strings.Repeat("k", impl.MaxKey+1)), impl.ErrForm}, {full, exPut("a", ""), impl.ErrFull}, {full, exDrop("a"), impl.ErrFull},
		{full, exDrop("none"), impl.ErrFull}, {full[:impl.MaxExtent-8], exPut("a", ""), impl.ErrFull}, {full[:impl.MaxExtent-8], exDrop("a"), impl.ErrFull},
		{full[:impl.MaxExtent-8], exDrop("b"), impl.ErrFull}, {nearly, exPut("a", "1"), impl.ErrFull}, {nearly, exPut("aa", ""), impl.ErrFull},
		{nearly, exDrop("aa"), impl.ErrFull}, {nearly, exDrop("b"), impl.ErrNone}, {nearly, exDrop("a"), impl.OK}, {nearly, exPut("a", ""), impl.OK},
		{nearly, exPut("b", ""), impl.OK}, {full, exRot(-1, 0), impl.ErrForm}, {full, exRot(impl.MaxExtent, 1), impl.ErrForm},
		{full, exRot(impl.MaxExtent-1, 1), impl.OK}, {strings.Repeat("z", impl.MaxExtent-impl.MaxBytes-11), exPut("a", long[1:]), impl.OK},
		{strings.Repeat("z", impl.MaxExtent-impl.MaxBytes-10), exPut("a", long[1:]), impl.ErrFull},
	} {
		got := checkRun(t, strconv.Itoa(i), impl.Extent{Data: step.data}, []impl.ExtentOp{step.op, exRead("a")})
		if got.Outs[0].Code != step.want {
			t.Errorf("%d: code %d, not %d", i, got.Outs[0].Code, step.want)
		}
		if step.want == impl.OK && len(got.Extent.Data) != impl.MaxExtent {
			t.Errorf("%d: %d bytes", i, len(got.Extent.Data))
		}
	}
}

// readAll are reads of all keys, Held and all.
func readAll(data string, keys []string) []impl.ExtentOut {
	var ops []impl.ExtentOp
	for _, key := range keys {
		ops = append(ops, exRead(key))
	}
	return impl.RunExtent(impl.Extent{Data: data}, ops).Outs
}

func sameOuts(a, b []impl.ExtentOut) bool {
	return slices.EqualFunc(a, b, isOut)
}

var crashKeeps = []int64{math.MinInt64, -1, 0, 1, 2, 5, 8, 9, 10, 11, 30, 60, math.MaxInt64 - 1, math.MaxInt64}

func TestP8WhatWasSyncedStaysBehindACrash(t *testing.T) {
	x := newExtents()
	for range 300 {
		synced, fresh := x.right(1+x.chance.Intn(12)), x.right(x.chance.Intn(6))
		records := impl.ScanRecords(synced)
		rest := int64(len(fresh))
		for _, keep := range append([]int64{rest - 1, rest, rest + 1, x.chance.Int63n(rest + 1)}, crashKeeps...) {
			got := impl.RunExtent(impl.Extent{Data: synced + fresh, Synced: int64(len(synced))}, []impl.ExtentOp{exCrash(keep), exCrash(0), exCrash(-1)})
			stays := min(max(keep, 0), rest)
			want := impl.Extent{Data: synced + fresh[:stays], Synced: int64(len(synced)) + stays}
			if got.Extent != want {
				t.Fatalf("%d bytes synced, %d behind, %d kept: %d bytes, %d synced", len(synced), rest, keep, len(got.Extent.Data), got.Extent.Synced)
			}
			if left := impl.ScanRecords(got.Extent.Data); len(left) < len(records) || !slices.Equal(left[:len(records)], records) {
				t.Fatalf("%d kept: %v, not the records %v", keep, left, records)
			}
		}
	}
}

// A run that syncs between its puts: behind a crash each key has what it had at the last sync, or what was put since.
func TestP8ReadsAheadOfACrashAndAfterIt(t *testing.T) {
	x := newExtents()
	for range 200 {
		keys := []string{"a", "b", "c"}
		var ops []impl.ExtentOp
		for i := range 12 {
			ops = append(ops, exPut(keys[x.chance.Intn(3)], "data "+strconv.Itoa(i)))
			if x.chance.Intn(4) == 0 {
				ops = append(ops, exDrop(keys[x.chance.Intn(3)]))
			}
		}
		ahead := impl.RunExtent(impl.Extent{}, ops).Extent
		ops = append(ops, exSync())
		for range x.chance.Intn(4) {
			ops = append(ops, exPut(keys[x.chance.Intn(3)], "fresh"))
		}
		ops = append(ops, exCrash(x.chance.Int63n(3)-1))
		got := checkRun(t, "crash", impl.Extent{}, ops)
		if !sameOuts(readAll(got.Extent.Data, keys), readAll(ahead.Data, keys)) || !strings.HasPrefix(got.Extent.Data, ahead.Data) {
			t.Fatalf("%v:\n%q, not\n%q", ops, got.Extent.Data, ahead.Data)
		}
	}
}

func TestP8OneByteTurnedHarmsNoOtherRecord(t *testing.T) {
	x := newExtents()
	for round := range 25 {
		data := x.right(1 + x.chance.Intn(6))
		records := impl.ScanRecords(data)
		for at := range int64(len(data)) {
			turns := []int64{1, 2, 16, 128, 254, 255, 1 + x.chance.Int63n(255)}
			if round == 0 {
				turns = nil
				for turn := int64(1); turn < 256; turn++ {
					turns = append(turns, turn)
				}
			}
			for _, turn := range turns {
				run := impl.RunExtent(impl.Extent{Data: data, Synced: int64(len(data))}, []impl.ExtentOp{exRot(at, turn), exScrub(), exRot(at, turn), exScrub()})
				bent := turned(data, at, turn)
				others := slices.DeleteFunc(slices.Clone(records), func(r impl.Record) bool { return r.At <= at && at < r.Next })
				if got := impl.ScanRecords(bent); !slices.Equal(got, others) {
					t.Fatalf("%q turned at %d by %d: %v, not %v", data, at, turn, got, others)
				}
				if !slices.Equal(run.Outs[1].Keys, plainScrub(bent)) || len(run.Outs[3].Keys) != 0 || run.Extent.Data != data {
					t.Fatalf("%q turned at %d by %d and back: %v", data, at, turn, run)
				}
			}
		}
	}
}

// In turn a byte of the mark, of the lengths, of the key, of the byte for gone, of the data and of the sum.
func TestP8EachPartOfARecordIsTurned(t *testing.T) {
	ahead, behind := plainRecord("a", false, "ahead"), plainRecord("b", false, "behind")
	for part, at := range map[string]int64{"mark": 0, "key's length": 1, "key": 2, "byte for gone": 5, "data's length": 6, "data": 7, "sum": 11,
		"end of the sum": 14} {
		data := ahead + plainRecord("key", false, "data") + behind
		from := int64(len(ahead))
		for _, turn := range []int64{1, 255} {
			ops := []impl.ExtentOp{exRead("key"), exRot(from+at, turn), exRead("key"), exRead("a"), exRead("b"), exScrub(), exRot(from+at, turn), exRead("key"), exScrub()}
			got := checkRun(t, part, impl.Extent{Data: data}, ops).Outs
			told := []string{strconv.FormatInt(from, 10)}
			if part == "mark" {
				told = nil
			}
			for i, want := range []impl.ExtentOut{{Data: "data", Held: 3}, {Held: 2}, {Code: impl.ErrNone, Held: 2}, {Data: "ahead", Held: 2},
				{Data: "behind", Held: 2}, {Keys: told, Held: 2}, {Held: 3}, {Data: "data", Held: 3}, {Held: 3}} {
				if !isOut(got[i], want) {
					t.Errorf("%s turned by %d, operation %d: %v, not %v", part, turn, i, got[i], want)
				}
			}
		}
	}
}

// keysIn are all keys that could be read of data.
func keysIn(data string) []string {
	keys := slices.Concat(fewKeys, []string{"", "none", "inner", "outer", "put", "most", strings.Repeat("k", impl.MaxKey)})
	for _, r := range plainScan(data) {
		keys = append(keys, r.Key)
	}
	slices.Sort(keys)
	keys = slices.Compact(keys)
	return keys[:min(len(keys), impl.MaxOps)]
}

func TestP8CompactingChangesNoRead(t *testing.T) {
	x := newExtents()
	var data []string
	for range 1500 {
		data = append(data, x.mixed(x.chance.Intn(14)), x.right(x.chance.Intn(14)))
	}
	cut, op := reaching(40)
	data = append(data, "", "\xe7", filledUp(impl.MaxExtent), cut+plainRecord(op.Key, false, op.Data), strings.Repeat("\xe7", 5000))
	for _, data := range data {
		keys := keysIn(data)
		run := impl.RunExtent(impl.Extent{Data: data}, []impl.ExtentOp{exRead("a"), exCompact(), exScrub(), exCompact(), exCrash(0)})
		left := run.Extent.Data
		if !sameOuts(readAll(data, keys), readAll(left, keys)) || run.Outs[0].Held != run.Outs[1].Held {
			t.Fatalf("%.300q, compacted:\n%.300q", data, left)
		}
		var want strings.Builder
		for _, r := range plainLast(data) {
			want.WriteString(data[r.At:r.Next])
		}
		if left != want.String() || run.Extent.Synced != int64(len(left)) || len(run.Outs[2].Keys) != 0 {
			t.Fatalf("%.300q, compacted:\n%.300q, not\n%.300q, %d synced, scrubbed %v", data, left, want.String(), run.Extent.Synced, run.Outs[2].Keys)
		}
	}
}

func TestP8KeysStandInTheOrderOfTheirLastRecords(t *testing.T) {
	ops := []impl.ExtentOp{exPut("a", "1"), exPut("b", "2"), exPut("c", "3"), exPut("d", "4"), exPut("b", "5"), exDrop("a"), exDrop("c"), exPut("a", "6"),
		exCompact(), exPut("b", "7"), exRead("b"), exCompact(), exCrash(0)}
	got := checkRun(t, "order", impl.Extent{}, ops)
	want := plainRecord("d", false, "4") + plainRecord("a", false, "6") + plainRecord("b", false, "7")
	if got.Extent != (impl.Extent{Data: want, Synced: int64(len(want))}) {
		t.Errorf("%v", got.Extent)
	}
}

func TestP8ScrubTellsMarksThatBeginNothing(t *testing.T) {
	record, inner := plainRecord("k", false, "\xe7\xe7"), plainRecord("in", false, "1")
	outer := plainRecord("out", false, "ab"+inner+"\xe7")
	crossed, op := reaching(12)
	across := crossed + plainRecord(op.Key, false, op.Data)
	for i, known := range []struct {
		data string
		want []string
	}{
		{"", nil}, {"z", nil}, {"\xe7", []string{"0"}}, {"\xe7\xe7", []string{"0", "1"}}, {"z\xe7z", []string{"1"}}, {record, nil}, {record + record, nil},
		{"\xe7" + record, []string{"0"}}, {record + "\xe7", []string{"11"}}, {record + "\xe7z" + record + "z\xe7", []string{"11", "25"}},
		{record[:10], []string{"0", "5", "6"}}, {record[1:], []string{"4", "5"}}, {record[:10] + record, []string{"0", "5", "6"}}, {outer, nil},
		{turned(outer, 0, 1), []string{"20"}}, {turned(outer, 6, 1), []string{"0", "20"}}, {turned(outer, 8, 0x85), []string{"0", "8", "20"}},
		{across, nil}, {across + "\xe7", []string{strconv.Itoa(len(across))}},
	} {
		got := checkRun(t, strconv.Itoa(i), impl.Extent{Data: known.data}, []impl.ExtentOp{exScrub(), exScrub()})
		if !slices.Equal(got.Outs[0].Keys, known.want) || !slices.Equal(got.Outs[1].Keys, known.want) || got.Extent.Data != known.data {
			t.Errorf("%d, %q: %v, not %v", i, known.data, got.Outs, known.want)
		}
	}
}

func TestP8ScrubTellsAtMostHundredPlaces(t *testing.T) {
	record := plainRecord("k", false, "1")
	for _, count := range []int{99, 100, 101, 102, 5000} {
		for _, data := range []string{strings.Repeat("\xe7", count), strings.Repeat("\xe7"+record, count), record + strings.Repeat("\xe7zz", count) + record} {
			got := checkRun(t, strconv.Itoa(count), impl.Extent{Data: data}, []impl.ExtentOp{exScrub()})
			if len(got.Outs[0].Keys) != min(count, 100) {
				t.Errorf("%d places: %d told", count, len(got.Outs[0].Keys))
			}
		}
	}
	got := impl.RunExtent(impl.Extent{Data: strings.Repeat("z", impl.MaxExtent-1) + "\xe7"}, []impl.ExtentOp{exScrub()})
	if !slices.Equal(got.Outs[0].Keys, []string{"299999"}) {
		t.Errorf("the last place: %v", got.Outs[0].Keys)
	}
}

// A shift of records' bytes that a crash leaves behind does not hide what is put later.
func TestP8PutsBehindACutOffRecord(t *testing.T) {
	record := plainRecord("a", false, "some data")
	for end := range len(record) {
		ops := []impl.ExtentOp{exCrash(int64(end)), exPut("b", "2"), exRead("a"), exRead("b"), exScrub(), exCompact(), exRead("b")}
		got := checkRun(t, strconv.Itoa(end), impl.Extent{Data: record}, ops)
		if got.Outs[2].Code != impl.ErrNone || got.Outs[3].Data != "2" || got.Outs[6].Data != "2" || got.Extent.Data != plainRecord("b", false, "2") {
			t.Errorf("%d bytes kept: %v", end, got)
		}
	}
}

// lentExtent is an extent with operations, all of whose texts the test can look into.
type lentExtent struct {
	data  *loan
	texts []*loan
	ops   []impl.ExtentOp
	was   []impl.ExtentOp
}

func lendExtent(data string, ops []impl.ExtentOp) *lentExtent {
	l := &lentExtent{data: newLoan(data)}
	for _, op := range ops {
		key, body := newLoan(op.Key), newLoan(op.Data)
		l.texts = append(l.texts, key, body)
		op.Key, op.Data = key.text(), body.text()
		l.ops = append(l.ops, op)
	}
	l.ops = append(l.ops, exPut("room", "behind"), exPut("room", "behind"))
	l.was = slices.Clone(l.ops)
	return l
}

func (l *lentExtent) list() []impl.ExtentOp {
	return l.ops[:len(l.ops)-2]
}

func (l *lentExtent) kept() bool {
	for _, text := range l.texts {
		if !text.kept() {
			return false
		}
	}
	return l.data.kept() && slices.Equal(l.ops, l.was)
}

func (l *lentExtent) spoil() {
	l.data.spoil()
	for _, text := range l.texts {
		text.spoil()
	}
}

func copyRun(r impl.ExtentRun) impl.ExtentRun {
	r.Extent.Data = strings.Clone(r.Extent.Data)
	r.Outs = slices.Clone(r.Outs)
	for i, out := range r.Outs {
		out.Data = strings.Clone(out.Data)
		out.Keys = slices.Clone(out.Keys)
		for k := range out.Keys {
			out.Keys[k] = strings.Clone(out.Keys[k])
		}
		r.Outs[i] = out
	}
	return r
}

func TestP8AnswersOfExtentsAreNewMemory(t *testing.T) {
	x := newExtents()
	runs := [][]impl.ExtentOp{nil, {exRead("a")}, {exPut("a", "new"), exRead("a"), exScrub()}, {exDrop("a"), exSync()}, {exCompact(), exRead("b")},
		{exRot(0, 1), exScrub(), exRead("a")}, {exCrash(0)}, {exPut("key", "1"), exCompact(), exRead("key"), exRead("key"), exScrub(), exScrub()}}
	for range 20 {
		runs = append(runs, x.ops(50, 20))
	}
	for i, ops := range runs {
		lent := lendExtent("\xe7"+plainRecord("a", false, "data")+"\xe7"+plainRecord("b", false, "more")+"\xe7", ops)
		got := impl.RunExtent(impl.Extent{Data: lent.data.text(), Synced: 3}, lent.list())
		was := copyRun(got)
		if !lent.kept() {
			t.Errorf("run %d wrote into an argument", i)
		}
		lent.spoil()
		if got.Extent != was.Extent || !sameOuts(got.Outs, was.Outs) {
			t.Errorf("run %d shares memory with an argument", i)
		}
		for _, out := range got.Outs {
			keys := out.Keys[:cap(out.Keys)]
			for k := range keys {
				keys[k] += " spoiled"
			}
		}
		for k, out := range got.Outs {
			for n, key := range out.Keys {
				if key != was.Outs[k].Keys[n]+" spoiled" {
					t.Errorf("run %d: two lists of keys share memory", i)
				}
			}
		}
	}
}

func TestP8RecordsAreNewMemory(t *testing.T) {
	key, data := newLoan("a key"), newLoan("some data")
	record := impl.PutRecord(key.text(), false, data.text())
	want := strings.Clone(record)
	gone := impl.PutRecord(key.text(), true, "")
	if !key.kept() || !data.kept() {
		t.Error("PutRecord wrote into an argument")
	}
	key.spoil()
	data.spoil()
	if record != want || gone != plainRecord("a key", true, "") {
		t.Error("PutRecord shares memory with an argument")
	}
	lent := newLoan("z" + record + gone)
	one, list := impl.GetRecord(lent.text(), 1), impl.ScanRecords(lent.text())
	if !lent.kept() {
		t.Error("a record was read and an argument written into")
	}
	lent.spoil()
	if one != (impl.Record{Key: "a key", Data: "some data", At: 1, Next: 23}) {
		t.Errorf("GetRecord shares memory with an argument: %v", one)
	}
	if len(list) != 2 || list[0] != one || list[1] != (impl.Record{Key: "a key", Gone: true, At: 23, Next: 36}) {
		t.Errorf("ScanRecords shares memory with an argument: %v", list)
	}
}

func TestP8NoCallOfExtentsPanics(t *testing.T) {
	x := newExtents()
	numbers := []int64{math.MinInt64, -1, 0, 1, 2, 7, 255, 256, 300000, 300001, 1 << 32, math.MaxInt64}
	number := func() int64 { return numbers[x.chance.Intn(len(numbers))] }
	texts := []string{"", "a", "\xe7", x.mixed(5), strings.Repeat("\xe7", impl.MaxKey+1), strings.Repeat("\xe7\x01", impl.MaxBytes), filledUp(impl.MaxExtent + 1)}
	text := func() string { return texts[x.chance.Intn(len(texts))] }
	for range 3000 {
		key, data, at := text(), text(), number()
		noPanic(t, "PutRecord", func() { impl.PutRecord(key, x.chance.Intn(2) == 0, data) })
		noPanic(t, "GetRecord", func() { impl.GetRecord(data, at) })
		var ops []impl.ExtentOp
		for range x.chance.Intn(4) {
			ops = append(ops, impl.ExtentOp{Kind: x.chance.Int63n(10), Key: text(), Data: text(), Keep: number(), At: number(), Turn: number()})
		}
		if len(data) < 1000 {
			noPanic(t, "RunExtent", func() { impl.RunExtent(impl.Extent{Data: data, Synced: at}, ops) })
			noPanic(t, "RunExtent", func() { impl.RunExtent(impl.Extent{Data: data}, ops) })
			noPanic(t, "ScanRecords", func() { impl.ScanRecords(data) })
		}
	}
	for _, data := range texts {
		noPanic(t, "ScanRecords", func() { impl.ScanRecords(data) })
		noPanic(t, "RunExtent", func() { impl.RunExtent(impl.Extent{Data: data}, []impl.ExtentOp{exScrub(), exCompact(), exRot(0, 1)}) })
	}
}

// Many marks, each of which seems to begin a record as long as can be: a call that went through all of each would end only
// after hours.
func TestP8CallsEndWhereManyRecordsSeemToBegin(t *testing.T) {
	head := "\xe7\x01k\x00" + impl.PutNum(impl.MaxBytes)
	data := strings.Repeat(head, impl.MaxExtent/len(head))
	if got := impl.ScanRecords(data); len(got) != 0 {
		t.Errorf("%d records", len(got))
	}
	var ops []impl.ExtentOp
	for i := range int64(100) {
		ops = append(ops, exRot(i*2999+3, 1), exScrub())
	}
	ops = append(ops, exCrash(10), exPut("k", "1"), exRead("k"))
	got := impl.RunExtent(impl.Extent{Data: data, Synced: 280000}, ops).Outs
	if last := got[len(got)-1]; !isOut(last, impl.ExtentOut{Data: "1", Held: 1}) {
		t.Errorf("%v", last)
	}
}
