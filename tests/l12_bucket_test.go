package tests

import (
	"fmt"
	"math"
	"math/rand"
	"slices"
	"sort"
	"strconv"
	"strings"
	"testing"

	"loop.example/g00020/impl"
)

// topId is the greatest NextId that a bucket may have.
const topId = 1 << 40

// topQuota is the greatest Quota.
const topQuota = 400000

// Short names for versions, rules and operations.
func versionOf(key string, id int64, data string) impl.Version {
	return impl.Version{Key: key, Id: id, Data: data}
}
func markerOf(key string, id int64) impl.Version {
	return impl.Version{Key: key, Id: id, Marker: true}
}
func bucketOf(kept bool, versions ...impl.Version) impl.Bucket {
	b := impl.Bucket{NextId: 1, Kept: kept, List: versions}
	if len(versions) > 0 {
		b.NextId = versions[len(versions)-1].Id + 1
	}
	return b
}
func buPut(key, data string, now int64) impl.BucketOp {
	return impl.BucketOp{Kind: impl.BuPut, Key: key, Data: data, Time: now}
}
func buPutIf(key, data string, ifId int64) impl.BucketOp {
	return impl.BucketOp{Kind: impl.BuPut, Key: key, Data: data, IfId: ifId}
}
func buDelete(key string, id, now int64) impl.BucketOp {
	return impl.BucketOp{Kind: impl.BuDelete, Key: key, Id: id, Time: now}
}
func buDeleteIf(key string, id, ifId int64) impl.BucketOp {
	return impl.BucketOp{Kind: impl.BuDelete, Key: key, Id: id, IfId: ifId}
}
func buGet(key string, id int64) impl.BucketOp {
	return impl.BucketOp{Kind: impl.BuGet, Key: key, Id: id}
}
func buPiece(key string, from, count int64) impl.BucketOp {
	return impl.BucketOp{Kind: impl.BuGet, Key: key, From: from, Count: count}
}
func buList(prefix, delim, after string, limit int64) impl.BucketOp {
	return impl.BucketOp{Kind: impl.BuList, Prefix: prefix, Delim: delim, After: after, Limit: limit}
}
func buVersions(prefix string, limit int64) impl.BucketOp {
	return impl.BucketOp{Kind: impl.BuVersions, Prefix: prefix, Limit: limit}
}
func buLock(key string, id, until, now int64) impl.BucketOp {
	return impl.BucketOp{Kind: impl.BuLock, Key: key, Id: id, Until: until, Time: now}
}
func buHold(key string, id int64, flag bool) impl.BucketOp {
	return impl.BucketOp{Kind: impl.BuHold, Key: key, Id: id, Flag: flag}
}
func buLife(now int64, rules ...impl.LifeRule) impl.BucketOp {
	return impl.BucketOp{Kind: impl.BuLife, Time: now, Rules: rules}
}
func buQuota(quota int64) impl.BucketOp { return impl.BucketOp{Kind: impl.BuQuota, Count: quota} }
func buKeep(flag bool) impl.BucketOp    { return impl.BucketOp{Kind: impl.BuKeep, Flag: flag} }
func ruleOf(kind int64, prefix string, age int64) impl.LifeRule {
	return impl.LifeRule{Kind: kind, Prefix: prefix, Age: age}
}

// locked is a version with a lock.
func locked(v impl.Version, until int64, hold bool) impl.Version {
	v.Until, v.Hold = until, hold
	return v
}

// aged is a version of a time.
func aged(v impl.Version, time int64) impl.Version {
	v.Time = time
	return v
}

func at(op impl.BucketOp, now int64) impl.BucketOp {
	op.Time = now
	return op
}

func isPlainTime(n int64) bool {
	return 0 <= n && n <= 4102444800
}

func isLockedAt(v impl.Version, now int64) bool {
	return v.Hold || v.Until > now
}

func plainRules(rules []impl.LifeRule) bool {
	for _, r := range rules {
		if r.Kind < 1 || r.Kind > 3 || len(r.Prefix) > 200 || !isPlainTime(r.Age) {
			return false
		}
	}
	return len(rules) <= 20
}

func plainVersionFits(v impl.Version) bool {
	if len(v.Key) < 1 || len(v.Key) > 200 || len(v.Data) > 100000 || v.Id < 1 || !isPlainTime(v.Time) || !isPlainTime(v.Until) {
		return false
	}
	return !v.Marker || len(v.Data) == 0 && v.Until == 0 && !v.Hold
}

// plainBytes counts byte by byte what all Data have.
func plainBytes(list []impl.Version) int64 {
	var all strings.Builder
	for _, v := range list {
		all.WriteString(v.Data)
	}
	return int64(all.Len())
}

func plainBucketFault(b impl.Bucket) int64 {
	if b.NextId < 1 || b.NextId > topId || b.Quota < 0 || b.Quota > topQuota || !plainRules(b.Rules) || len(b.List) > 300 {
		return impl.ErrForm
	}
	for i, v := range b.List {
		if !plainVersionFits(v) || v.Id >= b.NextId || i > 0 && v.Id <= b.List[i-1].Id {
			return impl.ErrForm
		}
	}
	if b.Quota > 0 && plainBytes(b.List) > b.Quota {
		return impl.ErrForm
	}
	return impl.OK
}

// plainNewest is the newest version of a key, and whether the key is there.
func plainNewest(list []impl.Version, key string) (impl.Version, bool) {
	var newest impl.Version
	for _, v := range list {
		if v.Key == key && v.Id > newest.Id {
			newest = v
		}
	}
	return newest, newest.Id > 0 && !newest.Marker
}

// plainKeys are all keys that have a version, by rising keys.
func plainKeys(list []impl.Version) []string {
	var keys []string
	for _, v := range list {
		if !slices.Contains(keys, v.Key) {
			keys = append(keys, v.Key)
		}
	}
	sort.Strings(keys)
	return keys
}

// plainWithout is a new list without the versions that go.
func plainWithout(list []impl.Version, goes func(impl.Version) bool) []impl.Version {
	var rest []impl.Version
	for _, v := range list {
		if !goes(v) {
			rest = append(rest, v)
		}
	}
	return rest
}

func plainCleared(list []impl.Version, key string, now int64) []impl.Version {
	return plainWithout(list, func(v impl.Version) bool { return v.Key == key && !isLockedAt(v, now) })
}

func plainIf(b impl.Bucket, op impl.BucketOp) int64 {
	newest, there := plainNewest(b.List, op.Key)
	switch {
	case op.IfId > 0 && !(there && newest.Id == op.IfId), op.IfId == -1 && there:
		return impl.ErrStale
	case op.IfId < 0 && op.IfId != -1:
		return impl.ErrForm
	}
	return impl.OK
}

// plainEntered puts a version behind those that stay, if there is room.
func plainEntered(b *impl.Bucket, stay []impl.Version, v impl.Version) impl.BucketOut {
	v.Id = b.NextId
	list := append(slices.Clone(stay), v)
	if len(list) > 300 || b.NextId == topId || b.Quota > 0 && plainBytes(list) > b.Quota {
		return impl.BucketOut{Code: impl.ErrFull}
	}
	b.List = list
	b.NextId++
	return impl.BucketOut{Id: v.Id}
}

func plainBuPut(b *impl.Bucket, op impl.BucketOp) impl.BucketOut {
	if len(op.Key) == 0 || len(op.Key) > 200 || !isPlainTime(op.Until) {
		return impl.BucketOut{Code: impl.ErrForm}
	}
	if len(op.Data) > 100000 {
		return impl.BucketOut{Code: impl.ErrSize}
	}
	if code := plainIf(*b, op); code != impl.OK {
		return impl.BucketOut{Code: code}
	}
	stay := b.List
	if !b.Kept {
		if newest, _ := plainNewest(b.List, op.Key); isLockedAt(newest, op.Time) {
			return impl.BucketOut{Code: impl.ErrLocked}
		}
		stay = plainCleared(b.List, op.Key, op.Time)
	}
	return plainEntered(b, stay, impl.Version{Key: op.Key, Data: op.Data, Time: op.Time, Until: op.Until})
}

// plainBuDrop is a delete with Id 0 whose condition holds.
func plainBuDrop(b *impl.Bucket, key string, now int64) impl.BucketOut {
	newest, there := plainNewest(b.List, key)
	if !there {
		return impl.BucketOut{Code: impl.ErrNone}
	}
	if b.Kept {
		return plainEntered(b, b.List, impl.Version{Key: key, Marker: true, Time: now})
	}
	if isLockedAt(newest, now) {
		return impl.BucketOut{Code: impl.ErrLocked}
	}
	b.List = plainCleared(b.List, key, now)
	return impl.BucketOut{}
}

func plainBuDelete(b *impl.Bucket, op impl.BucketOp) impl.BucketOut {
	if op.Id < 0 {
		return impl.BucketOut{Code: impl.ErrForm}
	}
	if op.Id == 0 {
		if code := plainIf(*b, op); code != impl.OK {
			return impl.BucketOut{Code: code}
		}
		return plainBuDrop(b, op.Key, op.Time)
	}
	for _, v := range b.List {
		if v.Key == op.Key && v.Id == op.Id {
			if isLockedAt(v, op.Time) {
				return impl.BucketOut{Code: impl.ErrLocked}
			}
			b.List = plainWithout(b.List, func(w impl.Version) bool { return w.Id == op.Id })
			return impl.BucketOut{}
		}
	}
	return impl.BucketOut{Code: impl.ErrNone}
}

// plainFound is the place of the version that has what is asked for, or -1.
func plainFound(list []impl.Version, key string, id int64) int {
	if id == 0 {
		newest, _ := plainNewest(list, key)
		id = newest.Id
	}
	return slices.IndexFunc(list, func(v impl.Version) bool { return v.Key == key && v.Id == id && !v.Marker })
}

func plainBuGet(b impl.Bucket, op impl.BucketOp) impl.BucketOut {
	if op.From < 0 || op.Count < 0 || op.Id < 0 {
		return impl.BucketOut{Code: impl.ErrForm}
	}
	at := plainFound(b.List, op.Key, op.Id)
	if at < 0 {
		return impl.BucketOut{Code: impl.ErrNone}
	}
	data := b.List[at].Data
	if op.From > int64(len(data)) {
		return impl.BucketOut{Code: impl.ErrSize}
	}
	data = data[op.From:]
	if op.Count > 0 && op.Count < int64(len(data)) {
		data = data[:op.Count]
	}
	return impl.BucketOut{Id: b.List[at].Id, Data: data}
}

// plainBuList gathers all keys and prefixes ahead of sorting and cutting them.
func plainBuList(b impl.Bucket, op impl.BucketOp) impl.BucketOut {
	if op.Limit < 1 || op.Limit > 1000 {
		return impl.BucketOut{Code: impl.ErrForm}
	}
	if len(op.Prefix) > 100000 || len(op.Delim) > 100000 || len(op.After) > 100000 {
		return impl.BucketOut{Code: impl.ErrSize}
	}
	isPrefix := map[string]bool{}
	for _, key := range plainKeys(b.List) {
		if _, there := plainNewest(b.List, key); !there || !strings.HasPrefix(key, op.Prefix) {
			continue
		}
		name := key
		if place := strings.Index(key[len(op.Prefix):], op.Delim); op.Delim != "" && place >= 0 {
			name = key[:len(op.Prefix)+place+len(op.Delim)]
		}
		if name > op.After {
			isPrefix[name] = isPrefix[name] || op.Delim != "" && strings.Contains(key[len(op.Prefix):], op.Delim)
		}
	}
	var names []string
	for name := range isPrefix {
		names = append(names, name)
	}
	sort.Strings(names)
	var out impl.BucketOut
	if int64(len(names)) > op.Limit {
		names = names[:op.Limit]
		out.Next = names[op.Limit-1]
	}
	for _, name := range names {
		if isPrefix[name] {
			out.Prefixes = append(out.Prefixes, name)
		} else {
			out.Keys = append(out.Keys, name)
		}
	}
	return out
}

func plainBuVersions(b impl.Bucket, op impl.BucketOp) impl.BucketOut {
	if op.Limit < 1 || op.Limit > 1000 {
		return impl.BucketOut{Code: impl.ErrForm}
	}
	if len(op.Prefix) > 100000 {
		return impl.BucketOut{Code: impl.ErrSize}
	}
	list := plainWithout(b.List, func(v impl.Version) bool { return !strings.HasPrefix(v.Key, op.Prefix) })
	sort.Slice(list, func(i, j int) bool {
		return list[i].Key < list[j].Key || list[i].Key == list[j].Key && list[i].Id > list[j].Id
	})
	var out impl.BucketOut
	for i, v := range list {
		if int64(i) < op.Limit {
			out.Keys = append(out.Keys, v.Key+"#"+strconv.FormatInt(v.Id, 10)+map[bool]string{true: "-"}[v.Marker])
		}
	}
	return out
}

func plainBuSet(b *impl.Bucket, op impl.BucketOp) impl.BucketOut {
	if op.Id < 0 || op.Kind == impl.BuLock && !isPlainTime(op.Until) {
		return impl.BucketOut{Code: impl.ErrForm}
	}
	at := plainFound(b.List, op.Key, op.Id)
	if at < 0 {
		return impl.BucketOut{Code: impl.ErrNone}
	}
	v := b.List[at]
	if op.Kind == impl.BuHold {
		v.Hold = op.Flag
	} else if op.Until < v.Until && v.Until > op.Time {
		return impl.BucketOut{Code: impl.ErrLocked}
	} else {
		v.Until = op.Until
	}
	b.List = slices.Clone(b.List)
	b.List[at] = v
	return impl.BucketOut{Id: v.Id}
}

func plainExpire(b *impl.Bucket, r impl.LifeRule, now int64) {
	for _, key := range plainKeys(b.List) {
		newest, there := plainNewest(b.List, key)
		if strings.HasPrefix(key, r.Prefix) && there && now-newest.Time >= r.Age && !isLockedAt(newest, now) {
			plainBuDrop(b, key, now)
		}
	}
}

// plainAged is a bucket without the versions that a rule of another kind lets go: each is held against all versions
// that were there ahead of the rule.
func plainAged(b *impl.Bucket, r impl.LifeRule, now int64) {
	list := b.List
	b.List = plainWithout(list, func(v impl.Version) bool {
		if !strings.HasPrefix(v.Key, r.Prefix) || now-v.Time < r.Age {
			return false
		}
		newest, _ := plainNewest(list, v.Key)
		others := slices.ContainsFunc(list, func(w impl.Version) bool { return w.Key == v.Key && w.Id != v.Id })
		if r.Kind == impl.RuleOld {
			return v.Id != newest.Id && !isLockedAt(v, now)
		}
		return v.Marker && !others
	})
}

func plainBuLife(b *impl.Bucket, op impl.BucketOp) impl.BucketOut {
	if !plainRules(op.Rules) {
		return impl.BucketOut{Code: impl.ErrForm}
	}
	b.Rules = slices.Clone(op.Rules)
	count := len(b.List)
	for _, r := range op.Rules {
		if r.Kind == impl.RuleExpire {
			plainExpire(b, r, op.Time)
		} else {
			plainAged(b, r, op.Time)
		}
	}
	return impl.BucketOut{Gone: int64(max(0, count-len(b.List)))}
}

func plainBuQuota(b *impl.Bucket, quota int64) impl.BucketOut {
	if quota < 0 || quota > topQuota {
		return impl.BucketOut{Code: impl.ErrForm}
	}
	if quota > 0 && plainBytes(b.List) > quota {
		return impl.BucketOut{Code: impl.ErrFull}
	}
	b.Quota = quota
	return impl.BucketOut{}
}

func plainBuOp(b *impl.Bucket, op impl.BucketOp) impl.BucketOut {
	if !isPlainTime(op.Time) {
		return impl.BucketOut{Code: impl.ErrForm}
	}
	switch op.Kind {
	case 1:
		return plainBuPut(b, op)
	case 2:
		return plainBuDelete(b, op)
	case 3:
		return plainBuGet(*b, op)
	case 4:
		return plainBuList(*b, op)
	case 5:
		return plainBuVersions(*b, op)
	case 6, 7:
		return plainBuSet(b, op)
	case 8:
		return plainBuLife(b, op)
	case 9:
		return plainBuQuota(b, op.Count)
	case 10:
		b.Kept = op.Flag
		return impl.BucketOut{}
	}
	return impl.BucketOut{Code: impl.ErrForm}
}

func plainBucketRun(b impl.Bucket, ops []impl.BucketOp) impl.BucketRun {
	if plainBucketFault(b) != impl.OK || len(ops) > 2000 {
		return impl.BucketRun{}
	}
	var run impl.BucketRun
	for _, op := range ops {
		run.Outs = append(run.Outs, plainBuOp(&b, op))
	}
	run.Bucket = b
	return run
}

func sameBucket(a, b impl.Bucket) bool {
	return a.NextId == b.NextId && a.Kept == b.Kept && a.Quota == b.Quota && slices.Equal(a.Rules, b.Rules) && slices.Equal(a.List, b.List)
}

func sameBuOut(a, b impl.BucketOut) bool {
	return a.Code == b.Code && a.Id == b.Id && a.Data == b.Data && a.Next == b.Next && a.Gone == b.Gone &&
		slices.Equal(a.Keys, b.Keys) && slices.Equal(a.Prefixes, b.Prefixes)
}

func isNoBucketRun(r impl.BucketRun) bool {
	return sameBucket(r.Bucket, impl.Bucket{}) && len(r.Outs) == 0
}

// shortOp is an operation as a message tells it.
func shortOp(op impl.BucketOp) string {
	return fmt.Sprintf("%.200v", fmt.Sprintf("%+v", op))
}

// checkStep does one operation on a right bucket: the bucket stays right, what was locked stays, and with a code all is
// as it was.
func checkStep(t *testing.T, what string, b impl.Bucket, op impl.BucketOp) impl.BucketRun {
	t.Helper()
	run := impl.RunBucket(b, []impl.BucketOp{op})
	if len(run.Outs) != 1 {
		t.Fatalf("%s: %s: %d outs", what, shortOp(op), len(run.Outs))
	}
	if fault := impl.BucketFault(run.Bucket); fault != impl.OK || plainBucketFault(run.Bucket) != impl.OK {
		t.Fatalf("%s: %s: the bucket behind it has the fault %d", what, shortOp(op), fault)
	}
	if code := run.Outs[0].Code; code != impl.OK && (!sameBucket(run.Bucket, b) || !sameBuOut(run.Outs[0], impl.BucketOut{Code: code})) {
		t.Fatalf("%s: %s: code %d, but more is told, or the bucket is another", what, shortOp(op), code)
	}
	checkLocked(t, what, b, run.Bucket, op)
	return run
}

// checkLocked looks for each version that was locked at an operation's time in the bucket behind it.
func checkLocked(t *testing.T, what string, b, behind impl.Bucket, op impl.BucketOp) {
	t.Helper()
	for _, v := range b.List {
		if !isLockedAt(v, op.Time) {
			continue
		}
		i := slices.IndexFunc(behind.List, func(w impl.Version) bool { return w.Id == v.Id })
		if i < 0 {
			t.Fatalf("%s: %s: the version %d went, though it was locked", what, shortOp(op), v.Id)
		}
		now := behind.List[i]
		if v.Until > op.Time && now.Until < v.Until {
			t.Fatalf("%s: %s: the lock of version %d became shorter", what, shortOp(op), v.Id)
		}
		if v.Hold && !now.Hold && (op.Kind != impl.BuHold || op.Flag || op.Key != v.Key) {
			t.Fatalf("%s: %s: the hold of version %d went", what, shortOp(op), v.Id)
		}
		now.Until, now.Hold = v.Until, v.Hold
		if now != v {
			t.Fatalf("%s: %s: the locked version %d became another", what, shortOp(op), v.Id)
		}
	}
}

// checkBucket holds a run of operations against the plain one, and each operation alone against both.
func checkBucket(t *testing.T, what string, b impl.Bucket, ops []impl.BucketOp) impl.BucketRun {
	t.Helper()
	got, want := impl.RunBucket(b, ops), plainBucketRun(b, ops)
	if len(got.Outs) != len(ops) {
		t.Fatalf("%s: %d outs for %d operations", what, len(got.Outs), len(ops))
	}
	behind := b
	for i, op := range ops {
		if !sameBuOut(got.Outs[i], want.Outs[i]) {
			t.Fatalf("%s: operation %d, %s:\n%.300v, not\n%.300v", what, i, shortOp(op), fmt.Sprintf("%+v", got.Outs[i]), fmt.Sprintf("%+v", want.Outs[i]))
		}
		step := checkStep(t, what, behind, op)
		if !sameBuOut(step.Outs[0], want.Outs[i]) {
			t.Fatalf("%s: operation %d, %s: alone it answers %.300v", what, i, shortOp(op), fmt.Sprintf("%+v", step.Outs[0]))
		}
		behind = step.Bucket
	}
	if !sameBucket(got.Bucket, want.Bucket) || !sameBucket(got.Bucket, behind) {
		t.Fatalf("%s: behind all\n%.500v, not\n%.500v", what, fmt.Sprintf("%+v", got.Bucket), fmt.Sprintf("%+v", want.Bucket))
	}
	return got
}

// checkCodes is checkBucket with the code of each operation.
func checkCodes(t *testing.T, what string, b impl.Bucket, steps []buStep) impl.BucketRun {
	t.Helper()
	var ops []impl.BucketOp
	for _, step := range steps {
		ops = append(ops, step.op)
	}
	run := checkBucket(t, what, b, ops)
	for i, step := range steps {
		if run.Outs[i].Code != step.code {
			t.Errorf("%s: operation %d, %s: code %d, not %d", what, i, shortOp(step.op), run.Outs[i].Code, step.code)
		}
	}
	return run
}

// buStep is an operation with the code that it is to answer.
type buStep struct {
	op   impl.BucketOp
	code int64
}

// idsOf are the Ids of all versions of a bucket.
func idsOf(b impl.Bucket) []int64 {
	var ids []int64
	for _, v := range b.List {
		ids = append(ids, v.Id)
	}
	return ids
}

// buckets draws right buckets and what happens to them.
type buckets struct {
	chance *rand.Rand
}

func newBuckets(seed int64) buckets {
	return buckets{rand.New(rand.NewSource(seed))}
}

var bucketKeys = []string{"a", "a/", "a/b", "a/b/", "a/b/c", "a//", "a//b", "ab", "a\x00", "b", "b/x", "/", "/a", "\x00", "\xff", "\xff/\xff", "aab", "aabaab"}

var bucketDelims = []string{"", "", "/", "/", "//", "b", "ab", "a", "\x00", "zz", "a/b/c/d"}

func (x buckets) key() string {
	return bucketKeys[x.chance.Intn(len(bucketKeys))]
}

func (x buckets) prefix() string {
	key := x.key()
	return key[:x.chance.Intn(len(key)+1)]
}

func (x buckets) data() string {
	return mixedBytes(x.chance.Intn(12))
}

// now is a time out of few, so that ages and locks are often met at just their time.
func (x buckets) now() int64 {
	return x.chance.Int63n(30)
}

func (x buckets) until() int64 {
	if x.chance.Intn(3) > 0 {
		return 0
	}
	return x.now()
}

func (x buckets) version(id int64) impl.Version {
	if x.chance.Intn(4) == 0 {
		return aged(markerOf(x.key(), id), x.now())
	}
	return locked(aged(versionOf(x.key(), id, x.data()), x.now()), x.until(), x.chance.Intn(8) == 0)
}

func (x buckets) rule() impl.LifeRule {
	prefix := ""
	if x.chance.Intn(2) == 0 {
		prefix = x.prefix()
	}
	return ruleOf(1+x.chance.Int63n(3), prefix, x.chance.Int63n(20))
}

func (x buckets) rules(most int) []impl.LifeRule {
	var rules []impl.LifeRule
	for range x.chance.Intn(most + 1) {
		rules = append(rules, x.rule())
	}
	return rules
}

func (x buckets) bucket(most int) impl.Bucket {
	b := impl.Bucket{Kept: x.chance.Intn(2) == 0, Rules: x.rules(3)}
	for range x.chance.Intn(most + 1) {
		b.NextId += 1 + x.chance.Int63n(3)
		b.List = append(b.List, x.version(b.NextId))
	}
	b.NextId += 1 + x.chance.Int63n(3)
	if x.chance.Intn(3) == 0 {
		b.Quota = max(1, plainBytes(b.List)+x.chance.Int63n(40))
	}
	return b
}

// id is 0, or may be one of the versions of a bucket whose next Id is near.
func (x buckets) id(near int64) int64 {
	if x.chance.Intn(2) == 0 {
		return 0
	}
	return x.chance.Int63n(near+2) - 1
}

func (x buckets) ifId(near int64) int64 {
	switch x.chance.Intn(8) {
	case 0:
		return -1
	case 1:
		return x.chance.Int63n(near+4) - 2
	}
	return 0
}

// op is any operation; where it names a version, that may be one of a bucket whose next Id is near.
func (x buckets) op(near int64) impl.BucketOp {
	op := impl.BucketOp{Key: x.key(), Time: x.now(), Flag: x.chance.Intn(2) == 0}
	switch kind := x.chance.Intn(40); {
	case kind < 12:
		op.Kind, op.Data, op.Until, op.IfId = impl.BuPut, x.data(), x.until(), x.ifId(near)
	case kind < 18:
		op.Kind, op.Id, op.IfId = impl.BuDelete, x.id(near), x.ifId(near)
	case kind < 22:
		op.Kind, op.Id, op.From, op.Count = impl.BuGet, x.id(near), x.chance.Int63n(9)-1, x.chance.Int63n(9)-1
	case kind < 25:
		op.Kind, op.Prefix, op.Limit = impl.BuList, x.prefix(), x.chance.Int63n(9)
		op.Delim = bucketDelims[x.chance.Intn(len(bucketDelims))]
		if x.chance.Intn(2) == 0 {
			op.After = x.key()
		}
	case kind < 27:
		op.Kind, op.Prefix, op.Limit = impl.BuVersions, x.prefix(), x.chance.Int63n(12)
	case kind < 29:
		op.Kind, op.Id, op.Until = impl.BuLock, x.id(near), x.now()
	case kind < 31:
		op.Kind, op.Id = impl.BuHold, x.id(near)
	case kind < 34:
		op.Kind, op.Rules = impl.BuLife, x.rules(4)
	case kind < 36:
		op.Kind, op.Count = impl.BuQuota, x.chance.Int63n(60)-1
	case kind < 38:
		op.Kind = impl.BuKeep
	default:
		op = x.wrongOp()
	}
	return op
}

// wrongOp is one that has a fault in itself.
func (x buckets) wrongOp() impl.BucketOp {
	long := times("k", impl.MaxKey+1)
	list := []impl.BucketOp{
		{}, {Kind: 11, Key: "a"}, {Kind: -1}, at(buPut("a", "1", 0), -1), at(buGet("a", 0), impl.MaxTime+1), buPut("", "1", 3), buPut(long, "1", 3),
		{Kind: impl.BuPut, Key: "a", Until: -1}, {Kind: impl.BuPut, Key: "a", Until: impl.MaxTime + 1}, buPutIf("a", "", -2), buDeleteIf("a", 0, -2),
		buDelete("a", -1, 3), buGet("a", -1), buLock("a", -1, 5, 3), buLock("a", 0, -1, 3), buHold("a", -1, true), buList("", "", "", 0), buVersions("", 1001),
		buLife(3, ruleOf(0, "", 0)), buLife(3, ruleOf(1, long, 0)), buQuota(-1), buQuota(topQuota + 1),
	}
	return list[x.chance.Intn(len(list))]
}

func (x buckets) ops(count int, near int64) []impl.BucketOp {
	var ops []impl.BucketOp
	for range count {
		ops = append(ops, x.op(near))
		if kind := ops[len(ops)-1].Kind; kind == impl.BuPut || kind == impl.BuDelete {
			near++
		}
	}
	return ops
}

// manyVersions are n of a row of keys, or of one key.
func manyVersions(n int, key func(i int) string) []impl.Version {
	var list []impl.Version
	for i := range n {
		list = append(list, versionOf(key(i), int64(i)+1, ""))
	}
	return list
}

func rowKey(i int) string { return fmt.Sprintf("key/%03d", i) }
func oneKey(int) string   { return "one" }

func TestP14LimitsAndKindsAsTheDocumentHasThem(t *testing.T) {
	got := []int{impl.MaxObjects, impl.MaxTags, impl.MaxRules, impl.BuPut, impl.BuDelete, impl.BuGet, impl.BuList, impl.BuVersions, impl.BuLock, impl.BuHold,
		impl.BuLife, impl.BuQuota, impl.BuKeep, impl.RuleExpire, impl.RuleOld, impl.RuleMarker}
	if !slices.Equal(got, []int{300, 10, 20, 1, 2, 3, 4, 5, 6, 7, 8, 9, 10, 1, 2, 3}) {
		t.Error(got)
	}
}

// rightBuckets are at the edges that the document names.
func rightBuckets() map[string]impl.Bucket {
	long := times("k", impl.MaxKey)
	full := bucketOf(true, manyVersions(impl.MaxObjects, rowKey)...)
	heavy := bucketOf(false)
	for i := range 4 {
		heavy.List = append(heavy.List, versionOf(rowKey(i), int64(i)+1, mixedBytes(impl.MaxBytes)))
	}
	heavy.NextId, heavy.Quota = 5, topQuota
	var rules []impl.LifeRule
	for i := range int64(impl.MaxRules) {
		rules = append(rules, ruleOf(1+i%3, long[:i*10], i))
	}
	return map[string]impl.Bucket{
		"the least":          {NextId: 1},
		"kept":               {NextId: 1, Kept: true},
		"the top NextId":     {NextId: topId},
		"the top Id":         {NextId: topId, List: []impl.Version{versionOf("a", 1, ""), versionOf("a", topId-1, "x")}},
		"a Quota of 1":       {NextId: 3, Quota: 1, List: []impl.Version{versionOf("a", 2, "x")}},
		"a Quota of 1, free": {NextId: 3, Quota: 1, List: []impl.Version{versionOf("a", 2, "")}},
		"no Quota":           {NextId: 3, List: []impl.Version{versionOf("a", 2, mixedBytes(impl.MaxBytes))}},
		"the top Quota":      heavy,
		"all rules":          {NextId: 1, Rules: rules},
		"a rule's edges":     {NextId: 1, Rules: []impl.LifeRule{ruleOf(1, "", 0), ruleOf(3, long, impl.MaxTime)}},
		"a long Key":         bucketOf(true, versionOf(long, 1, ""), markerOf(long, 2)),
		"a Key of a byte":    bucketOf(true, versionOf("\x00", 1, "")),
		"full":               full,
		"full of one":        bucketOf(false, manyVersions(impl.MaxObjects, oneKey)...),
		"Times":              bucketOf(true, locked(aged(versionOf("a", 1, "x"), 0), impl.MaxTime, true), locked(aged(versionOf("a", 2, ""), impl.MaxTime), 0, false)),
		"a Marker alone":     bucketOf(false, aged(markerOf("a", 1), impl.MaxTime)),
		"Markers in a row":   bucketOf(true, markerOf("a", 1), markerOf("a", 2), markerOf("b", 7)),
		"Ids with holes":     bucketOf(true, versionOf("b", 3, "1"), versionOf("a", 9, "2"), versionOf("b", 100, "3")),
	}
}

func TestP14RightBuckets(t *testing.T) {
	for name, b := range rightBuckets() {
		if fault := impl.BucketFault(b); fault != impl.OK || plainBucketFault(b) != impl.OK {
			t.Errorf("%s: fault %d", name, fault)
		}
		if got := impl.RunBucket(b, nil); !sameBucket(got.Bucket, b) || len(got.Outs) != 0 {
			t.Errorf("%s: without an operation it becomes another", name)
		}
		if got := impl.RunBucket(b, []impl.BucketOp{buGet("nothing", 0)}); !sameBucket(got.Bucket, b) || len(got.Outs) != 1 || got.Outs[0].Code != impl.ErrNone {
			t.Errorf("%s: %d outs", name, len(got.Outs))
		}
	}
}

// wrongBuckets have one fault each.
func wrongBuckets() map[string]impl.Bucket {
	long := times("k", impl.MaxKey+1)
	with := func(v impl.Version) impl.Bucket { return bucketOf(true, v) }
	rule := func(r impl.LifeRule) impl.Bucket { return impl.Bucket{NextId: 1, Rules: []impl.LifeRule{r}} }
	marker := markerOf("a", 1)
	marker.Data = "x"
	heavy := rightBuckets()["the top Quota"]
	heavy.List = append(slices.Clone(heavy.List), versionOf("z", 5, "x"))
	heavy.NextId = 6
	return map[string]impl.Bucket{
		"zero":                 {},
		"NextId below 0":       {NextId: -1},
		"NextId least":         {NextId: math.MinInt64},
		"NextId above":         {NextId: topId + 1},
		"NextId most":          {NextId: math.MaxInt64},
		"Quota below 0":        {NextId: 1, Quota: -1},
		"Quota above":          {NextId: 1, Quota: topQuota + 1},
		"Quota least":          {NextId: 1, Quota: math.MinInt64},
		"Quota most":           {NextId: 1, Quota: math.MaxInt64},
		"a rule too many":      {NextId: 1, Rules: slices.Repeat([]impl.LifeRule{ruleOf(1, "", 0)}, impl.MaxRules+1)},
		"a rule of Kind 0":     rule(ruleOf(0, "", 0)),
		"a rule of Kind 4":     rule(ruleOf(4, "", 0)),
		"a rule of Kind -1":    rule(ruleOf(-1, "", 0)),
		"a rule's Prefix":      rule(ruleOf(1, long, 0)),
		"a rule's Age below":   rule(ruleOf(2, "", -1)),
		"a rule's Age above":   rule(ruleOf(3, "", impl.MaxTime+1)),
		"the last rule":        {NextId: 1, Rules: []impl.LifeRule{ruleOf(1, "", 0), ruleOf(2, "", 0), ruleOf(4, "", 0)}},
		"an empty Key":         with(versionOf("", 1, "")),
		"a Key too long":       with(versionOf(long, 1, "")),
		"Data too long":        with(versionOf("a", 1, mixedBytes(impl.MaxBytes+1))),
		"an Id of 0":           {NextId: 5, List: []impl.Version{versionOf("a", 0, "")}},
		"an Id below 0":        {NextId: 5, List: []impl.Version{versionOf("a", -3, "")}},
		"an Id that is NextId": {NextId: 5, List: []impl.Version{versionOf("a", 5, "")}},
		"an Id above NextId":   {NextId: 5, List: []impl.Version{versionOf("a", 6, "")}},
		"Ids that are equal":   {NextId: 5, List: []impl.Version{versionOf("a", 2, ""), versionOf("b", 2, "")}},
		"Ids that fall":        {NextId: 5, List: []impl.Version{versionOf("a", 2, ""), versionOf("b", 1, "")}},
		"Time below 0":         with(aged(versionOf("a", 1, ""), -1)),
		"Time above":           with(aged(versionOf("a", 1, ""), impl.MaxTime+1)),
		"Until below 0":        with(locked(versionOf("a", 1, ""), -1, false)),
		"Until above":          with(locked(versionOf("a", 1, ""), impl.MaxTime+1, false)),
		"a Marker's Time":      with(aged(markerOf("a", 1), impl.MaxTime+1)),
		"a Marker with Data":   with(marker),
		"a Marker with Until":  with(locked(markerOf("a", 1), 1, false)),
		"a Marker with Hold":   with(locked(markerOf("a", 1), 0, true)),
		"more than a Quota":    {NextId: 5, Quota: 1, List: []impl.Version{versionOf("a", 1, "x"), versionOf("a", 2, "y")}},
		"more than the most":   heavy,
		"a version too many":   bucketOf(true, manyVersions(impl.MaxObjects+1, rowKey)...),
		"the last version":     bucketOf(true, versionOf("a", 1, ""), versionOf("b", 2, ""), versionOf("", 3, "")),
	}
}

func TestP14WrongBuckets(t *testing.T) {
	for name, b := range wrongBuckets() {
		if fault := impl.BucketFault(b); fault != impl.ErrForm || plainBucketFault(b) != impl.ErrForm {
			t.Errorf("%s: fault %d", name, fault)
		}
		for _, ops := range [][]impl.BucketOp{nil, {buGet("a", 0)}, {buPut("a", "1", 1), buList("", "", "", 9)}} {
			if got := impl.RunBucket(b, ops); !isNoBucketRun(got) {
				t.Errorf("%s: %d operations are run", name, len(ops))
			}
		}
	}
}

func TestP14NewestVersions(t *testing.T) {
	b := bucketOf(true, versionOf("a", 1, "1"), versionOf("b", 2, "2"), versionOf("a", 3, "3"), markerOf("b", 4), markerOf("c", 5), locked(aged(versionOf("c", 6, "6"), 7), 8, true))
	for key, want := range map[string]impl.Version{"a": b.List[2], "b": b.List[3], "c": b.List[5], "d": {}, "": {}, "A": {}, "a/": {}, times("k", impl.MaxBytes+1): {}} {
		if got := impl.NewestOf(b, key); got != want {
			t.Errorf("%.20q: %v, not %v", key, got, want)
		}
	}
	full := rightBuckets()["full"]
	if got := impl.NewestOf(full, rowKey(299)); got.Id != 300 {
		t.Errorf("of a full bucket: %v", got)
	}
	if got := impl.NewestOf(wrongBuckets()["a version too many"], rowKey(0)); got != (impl.Version{}) {
		t.Errorf("of one version too many: %v", got)
	}
	// No call takes a longer text, though a bucket with a fault may have such a key.
	long := times("k", impl.MaxBytes+1)
	if got := impl.NewestOf(bucketOf(true, versionOf(long, 1, "x")), long); got != (impl.Version{}) {
		t.Errorf("of a key that is too long: version %d", got.Id)
	}
	// A bucket whose Ids do not rise has a fault; the greatest Id is the newest one's all the same.
	mixed := impl.Bucket{List: []impl.Version{versionOf("a", 9, "new"), versionOf("a", 2, "old"), versionOf("b", -5, "new"), versionOf("b", -7, "old")}}
	if a, b := impl.NewestOf(mixed, "a"), impl.NewestOf(mixed, "b"); a.Data != "new" || b.Data != "new" {
		t.Errorf("%v, %v", a, b)
	}
}

func TestP14BytesOfBuckets(t *testing.T) {
	for name, b := range rightBuckets() {
		if got := impl.BucketBytes(b); got != plainBytes(b.List) {
			t.Errorf("%s: %d bytes, not %d", name, got, plainBytes(b.List))
		}
	}
	for name, want := range map[string]int64{"zero": 0, "more than a Quota": 2, "more than the most": topQuota + 1, "a Marker with Data": 1} {
		if got := impl.BucketBytes(wrongBuckets()[name]); got != want {
			t.Errorf("%s: %d bytes, not %d", name, got, want)
		}
	}
}

// heldFor counts what the drawn runs came to, so that no kind is left out by chance.
type heldFor struct {
	codes map[[2]int64]int
	gone  int64
}

func (h *heldFor) count(ops []impl.BucketOp, outs []impl.BucketOut) {
	for i, op := range ops {
		h.codes[[2]int64{op.Kind, outs[i].Code}]++
		h.gone += outs[i].Gone
	}
}

func TestP14RunsOfEveryKindKeepABucketRight(t *testing.T) {
	x := newBuckets(14)
	met := &heldFor{codes: map[[2]int64]int{}}
	for i := range 1500 {
		b := x.bucket(12)
		ops := x.ops(30, b.NextId)
		met.count(ops, checkBucket(t, fmt.Sprint("run ", i), b, ops).Outs)
	}
	for _, c := range [][2]int64{
		{impl.BuPut, impl.OK}, {impl.BuPut, impl.ErrForm}, {impl.BuPut, impl.ErrStale}, {impl.BuPut, impl.ErrLocked}, {impl.BuPut, impl.ErrFull},
		{impl.BuDelete, impl.OK}, {impl.BuDelete, impl.ErrForm}, {impl.BuDelete, impl.ErrStale}, {impl.BuDelete, impl.ErrLocked}, {impl.BuDelete, impl.ErrNone},
		{impl.BuGet, impl.OK}, {impl.BuGet, impl.ErrForm}, {impl.BuGet, impl.ErrNone}, {impl.BuGet, impl.ErrSize}, {impl.BuList, impl.OK}, {impl.BuList, impl.ErrForm},
		{impl.BuVersions, impl.OK}, {impl.BuVersions, impl.ErrForm}, {impl.BuLock, impl.OK}, {impl.BuLock, impl.ErrForm}, {impl.BuLock, impl.ErrNone}, {impl.BuLock, impl.ErrLocked},
		{impl.BuHold, impl.OK}, {impl.BuHold, impl.ErrForm}, {impl.BuHold, impl.ErrNone}, {impl.BuLife, impl.OK}, {impl.BuLife, impl.ErrForm},
		{impl.BuQuota, impl.OK}, {impl.BuQuota, impl.ErrForm}, {impl.BuQuota, impl.ErrFull}, {impl.BuKeep, impl.OK}, {0, impl.ErrForm}, {11, impl.ErrForm}, {-1, impl.ErrForm},
	} {
		if met.codes[c] < 20 {
			t.Errorf("kind %d met code %d only %d times", c[0], c[1], met.codes[c])
		}
	}
	if met.gone < 100 {
		t.Errorf("only %d versions went by rules", met.gone)
	}
}

// Near MaxObjects and near the top Id many operations are full.
func TestP14RunsOfFullBucketsKeepThemRight(t *testing.T) {
	x := newBuckets(15)
	full := 0
	for i := range 60 {
		b := impl.Bucket{Kept: i%2 == 0, NextId: 1}
		for id := range int64(295 + x.chance.Intn(6)) {
			b.List = append(b.List, x.version(id+1))
			b.NextId = id + 2
		}
		if i%3 == 0 {
			b.NextId = topId - x.chance.Int63n(4)
		}
		ops := x.ops(25, 300)
		for k, out := range checkBucket(t, fmt.Sprint("run ", i), b, ops).Outs {
			if out.Code == impl.ErrFull && ops[k].Kind != impl.BuQuota {
				full++
			}
		}
	}
	if full < 50 {
		t.Errorf("only %d were full", full)
	}
}

// removers are operations that would let version 2 of the key go, if it were not locked.
func removers(now int64) []impl.BucketOp {
	return []impl.BucketOp{
		buPut("k", "new", now), at(buPutIf("k", "new", 2), now), buDelete("k", 0, now), buDelete("k", 2, now), at(buDeleteIf("k", 0, 2), now), buLock("k", 2, 0, now), buLock("k", 0, 0, now),
		buLife(now, ruleOf(impl.RuleExpire, "", 0)), buLife(now, ruleOf(impl.RuleOld, "", 0)), buLife(now, ruleOf(impl.RuleMarker, "", 0)),
		buLife(now, ruleOf(impl.RuleExpire, "k", 0), ruleOf(impl.RuleOld, "k", 0), ruleOf(impl.RuleMarker, "k", 0), ruleOf(impl.RuleExpire, "", 0)),
		at(buKeep(false), now), at(buKeep(true), now), at(buQuota(1), now), at(buQuota(0), now), buPut("other", "x", now), buDelete("other", 0, now),
	}
}

// lockedBuckets have version 2 of the key k as the newest one, as an old one, and under a marker.
func lockedBuckets(until int64, hold bool) []impl.Bucket {
	v := locked(versionOf("k", 2, "locked"), until, hold)
	return []impl.Bucket{
		bucketOf(true, v), bucketOf(true, versionOf("k", 1, "old"), v), bucketOf(true, versionOf("k", 1, "old"), v, versionOf("k", 3, "new")),
		bucketOf(true, v, markerOf("k", 3)), bucketOf(true, markerOf("k", 1), v, versionOf("k", 4, ""), markerOf("k", 5)), bucketOf(true, v, versionOf("other", 3, "")),
	}
}

func TestP14LockedVersionsDoNotGo(t *testing.T) {
	for _, lock := range []struct {
		until int64
		hold  bool
		now   int64
	}{{50, false, 49}, {50, false, 0}, {1, false, 0}, {0, true, 0}, {0, true, impl.MaxTime}, {50, true, 50}, {50, true, 49}, {impl.MaxTime, false, impl.MaxTime - 1}, {impl.MaxTime, true, impl.MaxTime}} {
		for i, b := range lockedBuckets(lock.until, lock.hold) {
			for _, kept := range []bool{true, false} {
				b.Kept = kept
				// One operation alone, and each behind each other one.
				for _, first := range removers(lock.now) {
					for _, then := range removers(lock.now) {
						run := checkBucket(t, fmt.Sprintf("%+v, bucket %d", lock, i), b, []impl.BucketOp{first, then})
						if !lock.hold && !slices.Contains(idsOf(run.Bucket), 2) {
							t.Fatalf("%+v, bucket %d: version 2 went", lock, i)
						}
					}
				}
			}
		}
	}
}

// A lock lasts up to the time that Until tells, and no longer.
func TestP14AtJustTheTimeOfALock(t *testing.T) {
	for _, until := range []int64{1, 50, impl.MaxTime} {
		for _, op := range []impl.BucketOp{buPut("k", "new", 0), buDelete("k", 0, 0), buDelete("k", 2, 0), buLock("k", 0, 0, 0), buLock("k", 2, until-1, 0)} {
			b := bucketOf(false, locked(versionOf("k", 2, "locked"), until, false))
			checkCodes(t, fmt.Sprint("until ", until), b, []buStep{{at(op, until-1), impl.ErrLocked}, {at(op, 0), impl.ErrLocked}, {at(op, until), impl.OK}})
		}
		for _, kept := range []bool{true, false} {
			b := bucketOf(kept, locked(versionOf("k", 1, "old"), until, false), versionOf("k", 2, ""), locked(versionOf("m", 3, ""), until, false))
			old, expire := ruleOf(impl.RuleOld, "k", 0), ruleOf(impl.RuleExpire, "m", 0)
			run := checkBucket(t, fmt.Sprint("rules until ", until), b, []impl.BucketOp{buLife(until-1, old, expire), buLife(until, old, expire)})
			if gone := run.Outs[0].Gone; gone != 0 {
				t.Errorf("until %d: %d went ahead of it", until, gone)
			}
			if _, there := plainNewest(run.Bucket.List, "m"); there || slices.Contains(idsOf(run.Bucket), 1) {
				t.Errorf("until %d: not all went at its time: %v", until, idsOf(run.Bucket))
			}
		}
	}
}

func TestP14LocksMadeLonger(t *testing.T) {
	b := bucketOf(true, versionOf("k", 1, "old"), versionOf("k", 2, "new"))
	run := checkCodes(t, "longer", b, []buStep{
		{buLock("k", 0, 20, 10), impl.OK}, {buLock("k", 0, 20, 10), impl.OK}, {buLock("k", 2, 30, 10), impl.OK}, {buLock("k", 2, 29, 10), impl.ErrLocked}, {buLock("k", 2, 0, 29), impl.ErrLocked},
		{buLock("k", 2, 31, 29), impl.OK}, {buLock("k", 2, 5, 31), impl.OK}, {buLock("k", 2, 0, 4), impl.ErrLocked}, {buLock("k", 2, 0, 5), impl.OK}, {buLock("k", 1, impl.MaxTime, 0), impl.OK},
		{buLock("k", 1, impl.MaxTime-1, impl.MaxTime-1), impl.ErrLocked}, {buLock("k", 1, 7, impl.MaxTime), impl.OK}, {buLock("k", 1, -1, 0), impl.ErrForm}, {buLock("k", 1, impl.MaxTime+1, 0), impl.ErrForm},
		{buLock("k", 3, 9, 0), impl.ErrNone}, {buLock("m", 0, 9, 0), impl.ErrNone}, {buLock("m", 1, 9, 0), impl.ErrNone}, {buLock("k", -1, 9, 0), impl.ErrForm}, {buLock("", 0, 9, 0), impl.ErrNone},
	})
	for i, want := range []int64{2, 2, 2, 0, 0, 2, 2, 0, 2, 1, 0, 1} {
		if got := run.Outs[i].Id; got != want {
			t.Errorf("operation %d tells the Id %d, not %d", i, got, want)
		}
	}
	if l := run.Bucket.List; l[0].Until != 7 || l[1].Until != 0 || l[0].Hold || l[1].Hold {
		t.Errorf("%v", l)
	}
}

func TestP14HoldsSetAndTakenOff(t *testing.T) {
	b := bucketOf(false, locked(versionOf("k", 1, "old"), 90, false), versionOf("k", 2, "new"))
	run := checkCodes(t, "holds", b, []buStep{
		{buHold("k", 0, true), impl.OK}, {buDelete("k", 2, impl.MaxTime), impl.ErrLocked}, {buPut("k", "x", impl.MaxTime), impl.ErrLocked}, {buHold("k", 0, true), impl.OK},
		{buLock("k", 0, 40, 0), impl.OK}, {buHold("k", 0, false), impl.OK}, {buDelete("k", 2, 39), impl.ErrLocked}, {buHold("k", 1, true), impl.OK}, {buHold("k", 1, false), impl.OK},
		{buHold("k", 3, true), impl.ErrNone}, {buHold("m", 0, true), impl.ErrNone}, {buHold("k", -1, true), impl.ErrForm}, {buDelete("k", 2, 40), impl.OK}, {buDelete("k", 0, 40), impl.ErrLocked},
		{buHold("k", 0, true), impl.OK}, {buDelete("k", 0, 90), impl.ErrLocked}, {buHold("k", 0, false), impl.OK}, {buDelete("k", 0, 90), impl.OK}, {buHold("k", 0, true), impl.ErrNone},
	})
	for i, want := range []int64{2, 0, 0, 2, 2, 2, 0, 1, 1, 0, 0, 0, 0, 0, 1, 0, 1, 0, 0} {
		if got := run.Outs[i].Id; got != want {
			t.Errorf("operation %d tells the Id %d, not %d", i, got, want)
		}
	}
	if len(run.Bucket.List) != 0 {
		t.Errorf("%v", run.Bucket.List)
	}
}

// Until of a hold plays no part, whatever it is.
func TestP14UntilOfAHoldPlaysNoPart(t *testing.T) {
	for _, until := range []int64{math.MinInt64, -1, impl.MaxTime + 1, math.MaxInt64} {
		op := buHold("k", 0, true)
		op.Until = until
		if got := checkBucket(t, "hold", bucketOf(true, versionOf("k", 1, "")), []impl.BucketOp{op}); got.Outs[0].Id != 1 || !got.Bucket.List[0].Hold || got.Bucket.List[0].Until != 0 {
			t.Errorf("until %d: %v", until, got)
		}
	}
}

// A marker is not locked and can't be; what is under it can by its Id.
func TestP14MarkersAreNotLocked(t *testing.T) {
	b := bucketOf(true, versionOf("k", 1, "old"), markerOf("k", 2))
	run := checkCodes(t, "markers", b, []buStep{
		{buLock("k", 0, 9, 0), impl.ErrNone}, {buLock("k", 2, 9, 0), impl.ErrNone}, {buHold("k", 0, true), impl.ErrNone}, {buHold("k", 2, false), impl.ErrNone}, {buLock("k", 1, 9, 0), impl.OK},
		{buHold("k", 1, true), impl.OK}, {buDelete("k", 2, 0), impl.OK}, {buDelete("k", 0, 0), impl.OK}, {buDelete("k", 1, 99), impl.ErrLocked}, {buDelete("k", 3, 99), impl.OK},
	})
	if !slices.Equal(run.Bucket.List, []impl.Version{locked(versionOf("k", 1, "old"), 9, true)}) {
		t.Errorf("%v", run.Bucket.List)
	}
}

// Each put has one fault fewer than the one ahead of it.
func TestP14TheFirstCodeOfAPut(t *testing.T) {
	b := bucketOf(false, versionOf("k", 1, "old"), locked(versionOf("k", 2, "x"), 50, false), versionOf("m", 3, ""))
	b.NextId, b.Quota = topId, 4
	long := mixedBytes(impl.MaxBytes + 1)
	put := func(key, data string, now, until, ifId int64) impl.BucketOp {
		return impl.BucketOp{Kind: impl.BuPut, Key: key, Data: data, Time: now, Until: until, IfId: ifId}
	}
	checkCodes(t, "put", b, []buStep{
		{put("", long, -1, -1, -2), impl.ErrForm}, {put("", long, 1, -1, 9), impl.ErrForm}, {put("k", long, 1, impl.MaxTime+1, 9), impl.ErrForm}, {put(times("k", 201), long, 1, 0, 9), impl.ErrForm},
		{put("k", long, 1, 0, 9), impl.ErrSize}, {put("k", long, 1, 0, -2), impl.ErrSize}, {put("k", "12345", 1, 0, 9), impl.ErrStale}, {put("k", "12345", 1, 0, 1), impl.ErrStale},
		{put("k", "12345", 1, 0, -1), impl.ErrStale}, {put("n", "12345", 1, 0, 1), impl.ErrStale}, {put("k", "12345", 1, 0, -2), impl.ErrForm}, {put("n", "12345", 1, 0, math.MinInt64), impl.ErrForm},
		{put("k", "12345", 1, 0, 2), impl.ErrLocked}, {put("k", "12345", 1, 0, 0), impl.ErrLocked}, {put("k", "12345", 50, 0, 2), impl.ErrFull}, {put("k", "", 50, 0, 2), impl.ErrFull},
		{put("m", "", 1, 0, 3), impl.ErrFull}, {put("n", "", 1, 0, -1), impl.ErrFull},
	})
	b.NextId = topId - 1
	checkCodes(t, "put with an Id left", b, []buStep{{put("k", "12345", 50, 0, 2), impl.ErrFull}, {put("k", "1234", 50, 0, 2), impl.OK}, {put("k", "1234", 50, 0, 0), impl.ErrFull}})
}

func TestP14TheFirstCodeOfADelete(t *testing.T) {
	b := bucketOf(false, versionOf("k", 1, "old"), locked(versionOf("k", 2, "x"), 50, false), versionOf("m", 3, ""), markerOf("n", 4))
	drop := func(key string, id, ifId, now int64) impl.BucketOp {
		return impl.BucketOp{Kind: impl.BuDelete, Key: key, Id: id, IfId: ifId, Time: now}
	}
	steps := []buStep{
		{drop("k", -1, 9, -1), impl.ErrForm}, {drop("k", -1, 9, 1), impl.ErrForm}, {drop("k", math.MinInt64, -1, 1), impl.ErrForm}, {drop("k", 3, -2, 1), impl.ErrNone}, {drop("k", 9, 9, 1), impl.ErrNone},
		{drop("x", 1, 0, 1), impl.ErrNone}, {drop("k", 2, -2, 1), impl.ErrLocked}, {drop("k", 2, 9, 49), impl.ErrLocked}, {drop("k", 0, 9, 1), impl.ErrStale}, {drop("k", 0, 1, 1), impl.ErrStale},
		{drop("k", 0, -1, 1), impl.ErrStale}, {drop("n", 0, 4, 1), impl.ErrStale}, {drop("x", 0, 1, 1), impl.ErrStale}, {drop("k", 0, -2, 1), impl.ErrForm}, {drop("x", 0, -2, 1), impl.ErrForm},
		{drop("n", 0, 0, 1), impl.ErrNone}, {drop("n", 0, -1, 1), impl.ErrNone}, {drop("x", 0, -1, 1), impl.ErrNone}, {drop("", 0, 0, 1), impl.ErrNone}, {drop(times("k", 201), 0, 0, 1), impl.ErrNone},
		{drop(times("k", impl.MaxBytes+1), 5, 0, 1), impl.ErrNone},
	}
	checkCodes(t, "delete", b, append(slices.Clone(steps), buStep{drop("k", 0, 2, 1), impl.ErrLocked}, buStep{drop("k", 0, 2, 50), impl.OK}, buStep{drop("k", 0, 0, 50), impl.ErrNone}))
	b.Kept = true
	run := checkCodes(t, "delete, kept", b, append(slices.Clone(steps), buStep{drop("k", 0, 2, 1), impl.OK}, buStep{drop("k", 0, 0, 1), impl.ErrNone}))
	if last := len(run.Bucket.List) - 1; run.Bucket.List[last] != aged(markerOf("k", 5), 1) || run.Outs[len(steps)].Id != 5 || last != 4 {
		t.Errorf("%v", run.Bucket.List)
	}
	b.NextId = topId
	checkCodes(t, "delete without an Id left", b, []buStep{
		{drop("x", 0, 0, 1), impl.ErrNone}, {drop("k", 0, 9, 1), impl.ErrStale}, {drop("k", 0, 2, 1), impl.ErrFull}, {drop("k", 1, 0, 1), impl.OK}, {drop("m", 0, 0, 1), impl.ErrFull}, {drop("m", 3, 0, 1), impl.OK},
	})
}

func TestP14TheFirstCodeOfTheOthers(t *testing.T) {
	b := bucketOf(true, versionOf("k", 1, "old"), locked(versionOf("k", 2, "abc"), 50, false), markerOf("n", 3))
	long := times("x", impl.MaxBytes+1)
	get := func(key string, id, from, count, now int64) impl.BucketOp {
		return impl.BucketOp{Kind: impl.BuGet, Key: key, Id: id, From: from, Count: count, Time: now}
	}
	checkCodes(t, "others", b, []buStep{
		{get("x", 0, 0, 0, -1), impl.ErrForm}, {get("x", -1, 0, 0, 1), impl.ErrForm}, {get("x", 0, -1, 0, 1), impl.ErrForm}, {get("x", 0, 0, -1, 1), impl.ErrForm}, {get("n", 3, 9, 0, 1), impl.ErrNone},
		{get("x", 0, 9, 0, 1), impl.ErrNone}, {get("k", 3, 9, 0, 1), impl.ErrNone}, {get("k", 0, 4, 0, 1), impl.ErrSize}, {get("k", 1, math.MaxInt64, math.MaxInt64, 1), impl.ErrSize}, {get(long, 0, 0, 0, 1), impl.ErrNone},
		{at(buList(long, long, long, 0), -1), impl.ErrForm}, {buList(long, long, long, 0), impl.ErrForm}, {buList(long, "", "", 1), impl.ErrSize}, {buList("", long, "", 1), impl.ErrSize}, {buList("", "", long, 1), impl.ErrSize},
		{buList(long[1:], long[1:], long[1:], 1), impl.OK}, {buList("", "", "", -1), impl.ErrForm}, {buList("", "", "", 1001), impl.ErrForm}, {buList("", "", "", 1), impl.OK}, {buList("", "", "", 1000), impl.OK},
		{at(buVersions("", 9), impl.MaxTime+1), impl.ErrForm}, {buVersions(long, 0), impl.ErrForm}, {buVersions(long, 1), impl.ErrSize}, {buVersions(long[1:], 1), impl.OK}, {buVersions("", 1001), impl.ErrForm},
		{buVersions("", math.MinInt64), impl.ErrForm}, {buVersions("", 1000), impl.OK}, {buLock("n", 0, -1, 1), impl.ErrForm}, {buLock("n", -1, 1, 1), impl.ErrForm}, {buLock("n", 3, 1, 1), impl.ErrNone},
		{buLock("k", 0, 1, 1), impl.ErrLocked}, {at(buLock("k", 0, 99, 1), -1), impl.ErrForm}, {at(buHold("k", 0, true), -1), impl.ErrForm}, {at(buKeep(false), -1), impl.ErrForm}, {at(buQuota(9), -1), impl.ErrForm},
		{buLife(-1), impl.ErrForm}, {buLife(1, ruleOf(0, "", 0)), impl.ErrForm}, {buLife(1, ruleOf(1, times("k", 201), 0)), impl.ErrForm}, {buLife(1, ruleOf(1, "", -1)), impl.ErrForm},
		{buLife(1, ruleOf(1, "", impl.MaxTime+1)), impl.ErrForm}, {buLife(1, slices.Repeat([]impl.LifeRule{ruleOf(3, "", 0)}, 21)...), impl.ErrForm}, {buLife(1, ruleOf(2, "", 0), ruleOf(4, "", 0)), impl.ErrForm},
		{buQuota(-1), impl.ErrForm}, {buQuota(topQuota + 1), impl.ErrForm}, {buQuota(5), impl.ErrFull}, {buQuota(6), impl.OK},
		{impl.BucketOp{Kind: 0, Key: "k"}, impl.ErrForm}, {impl.BucketOp{Kind: 11, Key: "k"}, impl.ErrForm}, {impl.BucketOp{Kind: -1}, impl.ErrForm}, {impl.BucketOp{Kind: math.MaxInt64}, impl.ErrForm},
	})
}

// A text that an operation does not name plays no part in it, however long it is.
func TestP14TextsThatAreNotNamedPlayNoPart(t *testing.T) {
	long := times("x", impl.MaxBytes+1)
	b := bucketOf(true, versionOf("k", 1, "data"), versionOf("k", 2, "data"))
	for kind := int64(impl.BuPut); kind <= impl.BuKeep; kind++ {
		op := impl.BucketOp{Kind: kind, Key: "k", Limit: 5, Time: 3}
		want := checkBucket(t, "short", b, []impl.BucketOp{op})
		if kind != impl.BuPut {
			op.Data = long
		}
		if kind != impl.BuList {
			op.Delim, op.After = long, long
		}
		if kind != impl.BuList && kind != impl.BuVersions {
			op.Prefix = long
		}
		if kind != impl.BuLife {
			op.Rules = []impl.LifeRule{ruleOf(9, long, -1)}
		}
		got := checkBucket(t, "long", b, []impl.BucketOp{op})
		if got.Outs[0].Code != impl.OK || !sameBucket(got.Bucket, want.Bucket) || !sameBuOut(got.Outs[0], want.Outs[0]) {
			t.Errorf("kind %d: %v", kind, got.Outs[0].Code)
		}
	}
}

func TestP14OperationsWithoutATime(t *testing.T) {
	b := bucketOf(true, versionOf("k", 1, "data"))
	for kind := int64(-1); kind <= 11; kind++ {
		for _, now := range []int64{math.MinInt64, -1, impl.MaxTime + 1, math.MaxInt64} {
			op := impl.BucketOp{Kind: kind, Key: "k", Limit: 5, Time: now}
			if got := checkStep(t, "no time", b, op); got.Outs[0].Code != impl.ErrForm {
				t.Errorf("kind %d at %d: code %d", kind, now, got.Outs[0].Code)
			}
		}
		for _, now := range []int64{0, impl.MaxTime} {
			op := impl.BucketOp{Kind: kind, Key: "k", Limit: 5, Time: now}
			if got := checkStep(t, "a time", b, op); (got.Outs[0].Code == impl.OK) != (kind >= 1 && kind <= 10) {
				t.Errorf("kind %d at %d: code %d", kind, now, got.Outs[0].Code)
			}
		}
	}
}

func TestP14RoomForVersions(t *testing.T) {
	for _, kept := range []bool{true, false} {
		b := bucketOf(kept, manyVersions(impl.MaxObjects-1, rowKey)...)
		run := checkCodes(t, fmt.Sprint("a place left, kept ", kept), b, []buStep{
			{buPut("new", "", 1), impl.OK}, {buPut("newer", "", 1), impl.ErrFull}, {buDelete(rowKey(5), 6, 1), impl.OK}, {buPut("newer", "", 1), impl.OK}, {buPut("newest", "", 1), impl.ErrFull},
		})
		if len(run.Bucket.List) != impl.MaxObjects || run.Bucket.NextId != 302 {
			t.Errorf("kept %v: %d versions", kept, len(run.Bucket.List))
		}
	}
	full := bucketOf(true, manyVersions(impl.MaxObjects, rowKey)...)
	checkCodes(t, "full and kept", full, []buStep{{buPut(rowKey(3), "x", 1), impl.ErrFull}, {buDelete(rowKey(3), 0, 1), impl.ErrFull}, {buKeep(false), impl.OK}, {buPut(rowKey(3), "x", 1), impl.OK}, {buDelete(rowKey(3), 0, 1), impl.OK}})
	one := bucketOf(false, manyVersions(impl.MaxObjects, oneKey)...)
	if run := checkCodes(t, "all of one key go", one, []buStep{{buPut("two", "x", 1), impl.ErrFull}, {buPut("one", "x", 1), impl.OK}, {buPut("two", "x", 1), impl.OK}}); len(run.Bucket.List) != 2 {
		t.Errorf("%v", idsOf(run.Bucket))
	}
	// All but the newest are locked: that one alone makes room.
	for i := range 299 {
		one.List[i].Hold = true
	}
	if run := checkCodes(t, "the newest of one key goes", one, []buStep{{buPut("one", "x", 1), impl.OK}, {buPut("one", "y", 1), impl.OK}, {buPut("two", "x", 1), impl.ErrFull}}); len(run.Bucket.List) != impl.MaxObjects {
		t.Errorf("%v", idsOf(run.Bucket))
	}
	marked := bucketOf(false, append(manyVersions(299, func(i int) string { return oneKey(i) + rowKey(i) }), markerOf("k", 300))...)
	checkCodes(t, "a marker makes room", marked, []buStep{{buPut("m", "", 1), impl.ErrFull}, {buDelete("k", 0, 1), impl.ErrNone}, {buPutIf("k", "x", -1), impl.OK}})
}

func TestP14RoomForIds(t *testing.T) {
	for _, kept := range []bool{true, false} {
		b := impl.Bucket{NextId: topId - 2, Kept: kept}
		run := checkCodes(t, "Ids", b, []buStep{{buPut("a", "1", 1), impl.OK}, {buPut("a", "2", 1), impl.OK}, {buPut("a", "3", 1), impl.ErrFull}, {buPut("b", "3", 1), impl.ErrFull}, {buGet("a", topId-1), impl.OK}})
		if run.Bucket.NextId != topId || run.Outs[0].Id != topId-2 || run.Outs[4].Data != "2" {
			t.Errorf("kept %v: %v", kept, run)
		}
	}
	if run := checkCodes(t, "the first Id", impl.Bucket{NextId: 1}, []buStep{{buPut("a", "1", 1), impl.OK}}); run.Outs[0].Id != 1 || run.Bucket.NextId != 2 {
		t.Errorf("%v", run)
	}
}

func TestP14Quotas(t *testing.T) {
	b := bucketOf(true)
	run := checkCodes(t, "kept", b, []buStep{
		{buQuota(1), impl.OK}, {buPut("a", "12", 1), impl.ErrFull}, {buPut("a", "1", 1), impl.OK}, {buPut("a", "1", 1), impl.ErrFull}, {buPut("a", "", 1), impl.OK}, {buDelete("a", 0, 1), impl.OK},
		{buQuota(0), impl.OK}, {buPut("a", "123456789", 1), impl.OK}, {buQuota(9), impl.ErrFull}, {buQuota(10), impl.OK}, {buPut("b", "1", 1), impl.ErrFull}, {buDelete("a", 1, 1), impl.OK}, {buPut("b", "1", 1), impl.OK},
		{buQuota(9), impl.ErrFull}, {buQuota(topQuota), impl.OK}, {buQuota(topQuota + 1), impl.ErrForm}, {buQuota(math.MinInt64), impl.ErrForm},
	})
	if run.Bucket.Quota != topQuota || impl.BucketBytes(run.Bucket) != 10 {
		t.Errorf("%v", run.Bucket)
	}
	// Where versions are not kept, those that go make room.
	checkCodes(t, "not kept", bucketOf(false), []buStep{
		{buQuota(9), impl.OK}, {buPut("a", "123456789", 1), impl.OK}, {buPut("b", "1", 1), impl.ErrFull}, {buPut("a", "abcdefghi", 1), impl.OK}, {buPut("a", "abcdefghij", 1), impl.ErrFull}, {buPut("a", "abc", 1), impl.OK},
		{buPut("b", "1234567", 1), impl.ErrFull}, {buPut("b", "123456", 1), impl.OK}, {buQuota(8), impl.ErrFull}, {buDelete("a", 0, 1), impl.OK}, {buQuota(6), impl.OK}, {buQuota(5), impl.ErrFull},
	})
	// A version of the key that is locked, but not the newest one, makes none.
	old := bucketOf(false, locked(versionOf("a", 1, "1234"), 50, false), versionOf("a", 2, "12345"))
	old.Quota = 9
	checkCodes(t, "an old one locked", old, []buStep{{buPut("a", "123456", 49), impl.ErrFull}, {buPut("a", "54321", 49), impl.OK}, {buPut("a", "123456789", 50), impl.OK}})
	most := bucketOf(true)
	data := mixedBytes(impl.MaxBytes)
	checkCodes(t, "the most", most, []buStep{
		{buQuota(topQuota), impl.OK}, {buPut("a", data, 1), impl.OK}, {buPut("a", data, 1), impl.OK}, {buPut("b", data, 1), impl.OK}, {buPut("c", data[1:], 1), impl.OK}, {buPut("d", "12", 1), impl.ErrFull},
		{buPut("d", "1", 1), impl.OK}, {buPut("d", "1", 1), impl.ErrFull}, {buPut("d", "", 1), impl.OK}, {buQuota(topQuota - 1), impl.ErrFull}, {buQuota(0), impl.OK}, {buPut("e", data, 1), impl.OK}, {buQuota(topQuota), impl.ErrFull},
	})
}

// lifeBucket has keys of all kinds; its times are the Ids.
func lifeBucket(kept bool) impl.Bucket {
	b := bucketOf(kept, versionOf("a/1", 1, "x"), versionOf("a/1", 2, "y"), versionOf("a/2", 3, ""), markerOf("a/2", 4), markerOf("a/3", 5), versionOf("b", 6, "z"),
		markerOf("b", 7), versionOf("b", 8, "w"), locked(versionOf("c", 9, ""), 40, false), versionOf("d", 10, ""), locked(versionOf("d", 11, ""), 0, true))
	for i := range b.List {
		b.List[i].Time = b.List[i].Id
	}
	return b
}

func TestP14RulesAlone(t *testing.T) {
	for _, c := range []struct {
		kept bool
		now  int64
		rule impl.LifeRule
		ids  []int64
		gone int64
	}{
		{true, 20, ruleOf(impl.RuleExpire, "", 0), []int64{1, 2, 3, 4, 5, 6, 7, 8, 9, 10, 11, 12, 13}, 0},
		{true, 20, ruleOf(impl.RuleExpire, "", 18), []int64{1, 2, 3, 4, 5, 6, 7, 8, 9, 10, 11, 12}, 0},
		{true, 20, ruleOf(impl.RuleExpire, "", 19), []int64{1, 2, 3, 4, 5, 6, 7, 8, 9, 10, 11}, 0},
		{true, 20, ruleOf(impl.RuleExpire, "b", 12), []int64{1, 2, 3, 4, 5, 6, 7, 8, 9, 10, 11, 12}, 0},
		{true, 20, ruleOf(impl.RuleExpire, "b", 13), []int64{1, 2, 3, 4, 5, 6, 7, 8, 9, 10, 11}, 0},
		{true, 40, ruleOf(impl.RuleExpire, "", 31), []int64{1, 2, 3, 4, 5, 6, 7, 8, 9, 10, 11, 12, 13, 14}, 0},
		{false, 20, ruleOf(impl.RuleExpire, "", 0), []int64{3, 4, 5, 9, 10, 11}, 5},
		{false, 20, ruleOf(impl.RuleExpire, "a/", 18), []int64{3, 4, 5, 6, 7, 8, 9, 10, 11}, 2},
		{false, 20, ruleOf(impl.RuleExpire, "a/", 19), []int64{1, 2, 3, 4, 5, 6, 7, 8, 9, 10, 11}, 0},
		{false, 40, ruleOf(impl.RuleExpire, "c", 31), []int64{1, 2, 3, 4, 5, 6, 7, 8, 10, 11}, 1},
		{false, 39, ruleOf(impl.RuleExpire, "c", 0), []int64{1, 2, 3, 4, 5, 6, 7, 8, 9, 10, 11}, 0},
		{true, 20, ruleOf(impl.RuleOld, "", 0), []int64{2, 4, 5, 8, 9, 11}, 5},
		{true, 20, ruleOf(impl.RuleOld, "", 14), []int64{2, 4, 5, 7, 8, 9, 10, 11}, 3},
		{true, 20, ruleOf(impl.RuleOld, "", 13), []int64{2, 4, 5, 8, 9, 10, 11}, 4},
		{false, 20, ruleOf(impl.RuleOld, "b", 0), []int64{1, 2, 3, 4, 5, 8, 9, 10, 11}, 2},
		{false, 20, ruleOf(impl.RuleOld, "bb", 0), []int64{1, 2, 3, 4, 5, 6, 7, 8, 9, 10, 11}, 0},
		{true, 3, ruleOf(impl.RuleOld, "", 0), []int64{2, 4, 5, 6, 7, 8, 9, 10, 11}, 2},
		{true, 20, ruleOf(impl.RuleMarker, "", 0), []int64{1, 2, 3, 4, 6, 7, 8, 9, 10, 11}, 1},
		{false, 20, ruleOf(impl.RuleMarker, "a", 15), []int64{1, 2, 3, 4, 6, 7, 8, 9, 10, 11}, 1},
		{true, 20, ruleOf(impl.RuleMarker, "a", 16), []int64{1, 2, 3, 4, 5, 6, 7, 8, 9, 10, 11}, 0},
		{true, 20, ruleOf(impl.RuleMarker, "b", 0), []int64{1, 2, 3, 4, 5, 6, 7, 8, 9, 10, 11}, 0},
		{true, impl.MaxTime, ruleOf(impl.RuleOld, "", impl.MaxTime), []int64{1, 2, 3, 4, 5, 6, 7, 8, 9, 10, 11}, 0},
		{true, 4, ruleOf(impl.RuleMarker, "", 0), []int64{1, 2, 3, 4, 5, 6, 7, 8, 9, 10, 11}, 0},
	} {
		run := checkCodes(t, fmt.Sprintf("%+v", c), lifeBucket(c.kept), []buStep{{buLife(c.now, c.rule), impl.OK}})
		if !slices.Equal(idsOf(run.Bucket), c.ids) || run.Outs[0].Gone != c.gone || !slices.Equal(run.Bucket.Rules, []impl.LifeRule{c.rule}) {
			t.Errorf("%+v: %d gone, left %v", c, run.Outs[0].Gone, idsOf(run.Bucket))
		}
	}
}

func TestP14RulesOneAfterTheOther(t *testing.T) {
	expire, old, marker := ruleOf(impl.RuleExpire, "", 0), ruleOf(impl.RuleOld, "", 0), ruleOf(impl.RuleMarker, "", 0)
	for _, c := range []struct {
		kept  bool
		rules []impl.LifeRule
		ids   []int64
		gone  int64
	}{
		{true, []impl.LifeRule{}, []int64{1, 2, 3, 4, 5, 6, 7, 8, 9, 10, 11}, 0},
		{true, []impl.LifeRule{old, marker}, []int64{2, 8, 9, 11}, 7},
		{true, []impl.LifeRule{marker, old}, []int64{2, 4, 8, 9, 11}, 6},
		{true, []impl.LifeRule{expire, old, marker}, []int64{9, 11}, 9},
		{true, []impl.LifeRule{expire, old}, []int64{4, 5, 9, 11, 12, 13}, 5},
		{true, []impl.LifeRule{old, expire}, []int64{2, 4, 5, 8, 9, 11, 12, 13}, 3},
		{true, []impl.LifeRule{marker, expire, old, marker}, []int64{9, 11}, 9},
		{true, []impl.LifeRule{expire, expire}, []int64{1, 2, 3, 4, 5, 6, 7, 8, 9, 10, 11, 12, 13}, 0},
		{false, []impl.LifeRule{expire, old, marker}, []int64{9, 11}, 9},
		{false, []impl.LifeRule{marker, expire}, []int64{3, 4, 9, 10, 11}, 6},
	} {
		run := checkCodes(t, fmt.Sprintf("%+v", c), lifeBucket(c.kept), []buStep{{buLife(20, c.rules...), impl.OK}})
		if !slices.Equal(idsOf(run.Bucket), c.ids) || run.Outs[0].Gone != c.gone || !slices.Equal(run.Bucket.Rules, c.rules) {
			t.Errorf("%+v: %d gone, left %v", c, run.Outs[0].Gone, idsOf(run.Bucket))
		}
	}
	// Where an old version is locked, it becomes the newest, and the next rule looks at it.
	b := bucketOf(false, locked(versionOf("k", 1, "old"), 50, false), versionOf("k", 2, "new"))
	if run := checkCodes(t, "an old one locked", b, []buStep{{buLife(20, expire, expire), impl.OK}, {buGet("k", 0), impl.OK}, {buLife(50, expire), impl.OK}}); run.Outs[0].Gone != 1 || run.Outs[1].Data != "old" || run.Outs[2].Gone != 1 {
		t.Errorf("%v", run.Outs)
	}
}

// All rules that there may be, with a Prefix of MaxKey bytes and ages at the edges.
func TestP14RulesAtTheEdges(t *testing.T) {
	long := times("k", impl.MaxKey)
	b := bucketOf(true, aged(versionOf(long, 1, "x"), 0), aged(versionOf(long, 2, "y"), impl.MaxTime), aged(versionOf(long[1:], 3, ""), 0))
	full := slices.Repeat([]impl.LifeRule{ruleOf(impl.RuleMarker, long, impl.MaxTime)}, impl.MaxRules)
	full[19] = ruleOf(impl.RuleOld, long, impl.MaxTime)
	run := checkCodes(t, "edges", b, []buStep{
		{buLife(impl.MaxTime-1, full...), impl.OK}, {buLife(impl.MaxTime, full...), impl.OK}, {buLife(impl.MaxTime, append(slices.Clone(full), full[0])...), impl.ErrForm},
		{buLife(0, ruleOf(impl.RuleExpire, long, 0)), impl.OK}, {buLife(impl.MaxTime-1, ruleOf(impl.RuleExpire, long, 0)), impl.OK}, {buLife(impl.MaxTime, ruleOf(impl.RuleExpire, long, 1)), impl.OK},
		{buLife(impl.MaxTime, ruleOf(impl.RuleExpire, long, 0)), impl.OK}, {buLife(impl.MaxTime, ruleOf(impl.RuleExpire, "", impl.MaxTime)), impl.OK},
	})
	if run.Outs[0].Gone != 0 || run.Outs[1].Gone != 1 || !slices.Equal(idsOf(run.Bucket), []int64{2, 3, 4, 5}) || run.Bucket.List[2].Key != long || run.Bucket.List[3].Key != long[1:] {
		t.Errorf("%v, %v", run.Outs, idsOf(run.Bucket))
	}
}

// Where there is no room for a marker, the key stays; keys are met in their order, not in that of their versions.
func TestP14ExpiringWithoutRoom(t *testing.T) {
	list := manyVersions(298, func(i int) string { return rowKey(297 - i) })
	b := bucketOf(true, list...)
	run := checkCodes(t, "two places", b, []buStep{{buLife(5, ruleOf(impl.RuleExpire, "", 0)), impl.OK}, {buLife(5, ruleOf(impl.RuleExpire, "", 0)), impl.OK}})
	if l := run.Bucket.List; len(l) != 300 || l[298] != aged(markerOf(rowKey(0), 299), 5) || l[299] != aged(markerOf(rowKey(1), 300), 5) {
		t.Errorf("%v", l[298:])
	}
	b.NextId = topId - 1
	if run := checkCodes(t, "one Id", b, []buStep{{buLife(5, ruleOf(impl.RuleExpire, "", 0)), impl.OK}}); run.Bucket.NextId != topId || len(run.Bucket.List) != 299 || run.Bucket.List[298].Key != rowKey(0) {
		t.Errorf("%v", run.Bucket.NextId)
	}
	// An old version that goes by the first rule makes room for the second.
	b = bucketOf(true, manyVersions(300, func(i int) string { return rowKey(i / 2) })...)
	run = checkCodes(t, "room by a rule", b, []buStep{{buLife(5, ruleOf(impl.RuleOld, rowKey(149), 0), ruleOf(impl.RuleExpire, "", 0)), impl.OK}})
	if run.Outs[0].Gone != 0 || len(run.Bucket.List) != 300 || run.Bucket.List[299].Key != rowKey(0) {
		t.Errorf("%v", run.Outs)
	}
}

func TestP14KeptThereAndBack(t *testing.T) {
	run := checkCodes(t, "kept", bucketOf(true), []buStep{
		{buPut("k", "1", 1), impl.OK}, {buPut("k", "2", 2), impl.OK}, {buHold("k", 1, true), impl.OK}, {buKeep(false), impl.OK}, {buGet("k", 1), impl.OK}, {buPut("k", "3", 3), impl.OK},
		{buGet("k", 2), impl.ErrNone}, {buGet("k", 1), impl.OK}, {buKeep(true), impl.OK}, {buPut("k", "4", 4), impl.OK}, {buDelete("k", 0, 5), impl.OK}, {buKeep(false), impl.OK}, {buDelete("k", 0, 6), impl.ErrNone},
		{buPut("k", "6", 6), impl.OK}, {buVersions("", 9), impl.OK}, {buDelete("k", 0, 7), impl.OK}, {buGet("k", 0), impl.OK}, {buDelete("k", 0, 8), impl.ErrLocked}, {buKeep(true), impl.OK}, {buDelete("k", 0, 9), impl.OK},
	})
	if got := run.Outs[14].Keys; !slices.Equal(got, []string{"k#6", "k#1"}) || run.Outs[16].Data != "1" || run.Outs[19].Id != 7 || !run.Bucket.Kept {
		t.Errorf("%v, %v", got, run.Bucket)
	}
}

func TestP14OperationsOfOneRun(t *testing.T) {
	b := bucketOf(false, versionOf("k", 1, "x"))
	ops := slices.Repeat([]impl.BucketOp{buPut("k", "y", 1), buGet("k", 0), buDelete("k", 0, 1), buGet("k", 0)}, impl.MaxOps/4)
	got := impl.RunBucket(b, ops)
	if len(got.Outs) != impl.MaxOps || len(got.Bucket.List) != 0 || got.Bucket.NextId != 502 || got.Outs[1997].Id != 501 || got.Outs[1997].Data != "y" || got.Outs[1999].Code != impl.ErrNone {
		t.Errorf("%d outs", len(got.Outs))
	}
	if got := impl.RunBucket(b, append(slices.Clone(ops), buGet("k", 0))); !isNoBucketRun(got) {
		t.Errorf("one operation too many: %d outs", len(got.Outs))
	}
	if got := impl.RunBucket(b, make([]impl.BucketOp, impl.MaxOps)); len(got.Outs) != impl.MaxOps || !sameBucket(got.Bucket, b) || got.Outs[1999].Code != impl.ErrForm {
		t.Errorf("operations of no kind: %d outs", len(got.Outs))
	}
}

func TestP15WhatIsPutIsReadBack(t *testing.T) {
	keys := append(slices.Clone(bucketKeys), times("k", impl.MaxKey), allBytes()[:impl.MaxKey])
	for _, kept := range []bool{true, false} {
		for _, data := range []string{"", "\x00", "data", allBytes(), mixedBytes(impl.MaxBytes)} {
			var steps []buStep
			for i, key := range keys {
				put := buPut(key, data, int64(i))
				put.Until = int64(i)
				steps = append(steps, buStep{put, impl.OK})
			}
			for i, key := range keys {
				steps = append(steps, buStep{buGet(key, 0), impl.OK}, buStep{buGet(key, int64(i)+1), impl.OK}, buStep{buGet(key, int64(i)+2), impl.ErrNone})
			}
			run := checkCodes(t, fmt.Sprintf("kept %v, %d bytes", kept, len(data)), bucketOf(kept), steps)
			for i, key := range keys {
				outs := run.Outs[len(keys)+3*i:]
				if outs[0].Data != data || outs[1].Data != data || outs[0].Id != int64(i)+1 || run.Outs[i].Id != int64(i)+1 {
					t.Errorf("%.20q: version %d, %d bytes", key, outs[0].Id, len(outs[0].Data))
				}
				want := impl.Version{Key: key, Id: int64(i) + 1, Data: data, Time: int64(i), Until: int64(i)}
				if run.Bucket.List[i] != want || impl.NewestOf(run.Bucket, key) != want {
					t.Errorf("%.20q stands in another way", key)
				}
			}
		}
	}
}

func TestP15PutAgainAndDeleted(t *testing.T) {
	steps := []buStep{
		{buPut("a", "1", 1), impl.OK}, {buPut("b", "2", 2), impl.OK}, {buPut("a", "3", 3), impl.OK}, {buGet("a", 0), impl.OK}, {buGet("a", 3), impl.OK}, {buGet("a", 2), impl.ErrNone},
		{buGet("a", 1), impl.OK}, {buDelete("a", 0, 4), impl.OK}, {buGet("a", 0), impl.ErrNone}, {buGet("a", 4), impl.ErrNone}, {buGet("a", 3), impl.OK},
		{buDelete("a", 4, 5), impl.OK}, {buGet("a", 0), impl.OK}, {buDelete("a", 3, 5), impl.OK}, {buGet("a", 0), impl.OK}, {buDelete("a", 3, 5), impl.ErrNone}, {buDelete("a", 2, 5), impl.ErrNone}, {buGet("b", 0), impl.OK},
	}
	run := checkCodes(t, "kept", bucketOf(true), steps)
	for i, want := range map[int]string{3: "3", 4: "3", 6: "1", 10: "3", 12: "3", 14: "1", 17: "2"} {
		if run.Outs[i].Data != want {
			t.Errorf("operation %d reads %q, not %q", i, run.Outs[i].Data, want)
		}
	}
	for i := range steps {
		steps[i].code = []int64{0, 0, 0, 0, 0, impl.ErrNone, impl.ErrNone, 0, impl.ErrNone, impl.ErrNone, impl.ErrNone, impl.ErrNone, impl.ErrNone, impl.ErrNone, impl.ErrNone, impl.ErrNone, impl.ErrNone, 0}[i]
	}
	run = checkCodes(t, "not kept", bucketOf(false), steps)
	if run.Outs[3].Data != "3" || run.Outs[4].Data != "3" || run.Outs[7].Id != 0 || !slices.Equal(idsOf(run.Bucket), []int64{2}) {
		t.Errorf("%v", run)
	}
}

// What a delete tells: the Id of a marker, and of nothing else.
func TestP15WhatDeletesTell(t *testing.T) {
	list := []impl.Version{versionOf("k", 1, "x"), versionOf("k", 2, "y")}
	for _, c := range []struct {
		kept bool
		op   impl.BucketOp
		id   int64
	}{{true, buDelete("k", 0, 1), 3}, {true, buDelete("k", 1, 1), 0}, {false, buDelete("k", 0, 1), 0}, {false, buDelete("k", 2, 1), 0}} {
		if run := checkBucket(t, "delete", bucketOf(c.kept, list...), []impl.BucketOp{c.op}); !sameBuOut(run.Outs[0], impl.BucketOut{Id: c.id}) {
			t.Errorf("kept %v, %s: %v", c.kept, shortOp(c.op), run.Outs[0])
		}
	}
}

func TestP15Pieces(t *testing.T) {
	data := mixedBytes(20)
	b := bucketOf(true, versionOf("k", 1, data), versionOf("none", 2, ""))
	ends := []int64{0, 1, 2, 10, 19, 20, 21, 22, math.MaxInt64 - 20, math.MaxInt64 - 1, math.MaxInt64}
	for _, from := range ends {
		for _, count := range ends {
			out := checkStep(t, "pieces", b, buPiece("k", from, count)).Outs[0]
			if from > 20 {
				if out.Code != impl.ErrSize {
					t.Errorf("from %d: code %d", from, out.Code)
				}
				continue
			}
			want := data[from:]
			if count > 0 {
				want = want[:min(count, int64(len(want)))]
			}
			if out.Code != impl.OK || out.Data != want || out.Id != 1 {
				t.Errorf("from %d, %d bytes: %v", from, count, out)
			}
		}
	}
	checkCodes(t, "no bytes", b, []buStep{{buPiece("none", 0, 0), impl.OK}, {buPiece("none", 0, 9), impl.OK}, {buPiece("none", 1, 0), impl.ErrSize}, {buPiece("none", -1, 0), impl.ErrForm}, {buPiece("none", 0, -1), impl.ErrForm}})
	long := bucketOf(false, versionOf("k", 1, mixedBytes(impl.MaxBytes)))
	var whole strings.Builder
	for from := int64(0); from <= impl.MaxBytes; from += 777 {
		whole.WriteString(checkStep(t, "long", long, buPiece("k", from, 777)).Outs[0].Data)
	}
	if whole.String() != long.List[0].Data {
		t.Error("the pieces are not the whole")
	}
	checkCodes(t, "the end of long data", long, []buStep{{buPiece("k", impl.MaxBytes, 0), impl.OK}, {buPiece("k", impl.MaxBytes, 1), impl.OK}, {buPiece("k", impl.MaxBytes+1, 0), impl.ErrSize}, {buPiece("k", impl.MaxBytes-1, 9), impl.OK}})
}

// Each condition is asked of a key that never was, one that is there, one that was deleted, and one that came back.
func TestP15Conditions(t *testing.T) {
	b := bucketOf(true, versionOf("there", 1, "old"), versionOf("there", 2, "new"), versionOf("deleted", 3, "old"), markerOf("deleted", 4), markerOf("back", 5), versionOf("back", 6, "new"), markerOf("marked", 7))
	newest := map[string]int64{"there": 2, "back": 6, "deleted": 0, "never": 0, "marked": 0}
	for key, id := range newest {
		for ifId := int64(-3); ifId <= 9; ifId++ {
			want := int64(impl.OK)
			switch {
			case ifId < -1:
				want = impl.ErrForm
			case ifId == -1 && id > 0, ifId > 0 && ifId != id:
				want = impl.ErrStale
			}
			for _, kept := range []bool{true, false} {
				b.Kept = kept
				put := checkCodes(t, "put", b, []buStep{{buPutIf(key, "put", ifId), want}})
				if got := impl.NewestOf(put.Bucket, key); (got.Data == "put") != (want == impl.OK) {
					t.Errorf("%s, if %d: %v", key, ifId, got)
				}
				if want == impl.OK && id == 0 {
					want = impl.ErrNone
				}
				deleted := checkCodes(t, "delete", b, []buStep{{buDeleteIf(key, 0, ifId), want}})
				if _, there := plainNewest(deleted.Bucket.List, key); there != (id > 0 && want != impl.OK) {
					t.Errorf("%s, if %d: there %v", key, ifId, there)
				}
				if want == impl.ErrNone {
					want = impl.OK
				}
			}
		}
	}
	// With an Id no condition is looked at.
	for _, ifId := range []int64{math.MinInt64, -2, -1, 1, 9, math.MaxInt64} {
		checkCodes(t, "by Id", b, []buStep{{buDeleteIf("there", 1, ifId), impl.OK}, {buDeleteIf("deleted", 4, ifId), impl.OK}, {buDeleteIf("never", 3, ifId), impl.ErrNone}})
	}
}

// Of several that put under the same condition the first alone does.
func TestP15OneOfManyPutsHolds(t *testing.T) {
	for _, kept := range []bool{true, false} {
		checkCodes(t, "many", bucketOf(kept), []buStep{
			{buPutIf("k", "1", -1), impl.OK}, {buPutIf("k", "2", -1), impl.ErrStale}, {buPutIf("k", "3", 1), impl.OK}, {buPutIf("k", "4", 1), impl.ErrStale}, {buPutIf("k", "5", 2), impl.OK},
			{buDeleteIf("k", 0, 2), impl.ErrStale}, {buDeleteIf("k", 0, 3), impl.OK}, {buPutIf("k", "6", 3), impl.ErrStale}, {buDeleteIf("k", 0, 3), impl.ErrStale}, {buPutIf("k", "7", -1), impl.OK},
		})
	}
}

// Behind any run each version that a put made is read back as it was put, as long as it is there; and it is there, if
// nothing deleted it or took its place.
func TestP15WhatWasPutStands(t *testing.T) {
	x := newBuckets(16)
	for i := range 400 {
		b := bucketOf(true)
		var ops []impl.BucketOp
		for n := range 40 {
			op := x.op(int64(n))
			if op.Kind == impl.BuDelete && op.Id != 0 || op.Kind == impl.BuKeep {
				continue
			}
			if op.Kind == impl.BuLife {
				op.Rules = slices.DeleteFunc(op.Rules, func(r impl.LifeRule) bool { return r.Kind != impl.RuleExpire })
			}
			ops = append(ops, op)
		}
		run := impl.RunBucket(b, ops)
		for k, op := range ops {
			if op.Kind != impl.BuPut || run.Outs[k].Code != impl.OK {
				continue
			}
			got := impl.RunBucket(run.Bucket, []impl.BucketOp{buGet(op.Key, run.Outs[k].Id)}).Outs[0]
			if got.Code != impl.OK || got.Data != op.Data || got.Id != run.Outs[k].Id {
				t.Fatalf("run %d: what operation %d put is read as %v", i, k, got)
			}
		}
	}
}

// keysBucket has versions of keys in a mixed order, some of them gone again.
func keysBucket(keys []string) impl.Bucket {
	b := bucketOf(true)
	for i := range keys {
		key := keys[(i*7+3)%len(keys)]
		b.List = append(b.List, versionOf(key, b.NextId, "x"), versionOf(key, b.NextId+1, "y"))
		b.NextId += 2
	}
	for i, key := range keys {
		if i%4 == 3 {
			b.List = append(b.List, markerOf(key, b.NextId))
			b.NextId++
		}
	}
	return b
}

func TestP15ListingsAsKnown(t *testing.T) {
	b := bucketOf(true)
	for i, key := range []string{"b", "a/x", "a/y", "c/z", "a", "a/", "ab/1", "ab/2", "photo-1", "gone"} {
		b.List = append(b.List, versionOf(key, int64(i)+1, ""))
	}
	b.List = append(b.List, markerOf("gone", 11))
	b.NextId = 12
	list := func(words ...string) []string { return words }
	for _, c := range []struct {
		op             impl.BucketOp
		keys, prefixes []string
		next           string
	}{
		{buList("", "", "", 1000), list("a", "a/", "a/x", "a/y", "ab/1", "ab/2", "b", "c/z", "photo-1"), nil, ""},
		{buList("", "/", "", 1000), list("a", "b", "photo-1"), list("a/", "ab/", "c/"), ""},
		{buList("a", "/", "", 1000), list("a"), list("a/", "ab/"), ""},
		{buList("a/", "/", "", 1000), list("a/", "a/x", "a/y"), nil, ""},
		{buList("a/", "", "", 1000), list("a/", "a/x", "a/y"), nil, ""},
		{buList("ab", "/", "", 1000), nil, list("ab/"), ""},
		{buList("ab/", "/", "", 1000), list("ab/1", "ab/2"), nil, ""},
		{buList("x", "/", "", 1000), nil, nil, ""},
		{buList("gone", "", "", 1000), nil, nil, ""},
		{buList("", "o-", "", 1000), list("a", "a/", "a/x", "a/y", "ab/1", "ab/2", "b", "c/z"), list("photo-"), ""},
		{buList("", "/x", "", 1000), list("a", "a/", "a/y", "ab/1", "ab/2", "b", "c/z", "photo-1"), list("a/x"), ""},
		{buList("", "/", "", 1), list("a"), nil, "a"},
		{buList("", "/", "", 2), list("a"), list("a/"), "a/"},
		{buList("", "/", "", 3), list("a"), list("a/", "ab/"), "ab/"},
		{buList("", "/", "", 5), list("a", "b"), list("a/", "ab/", "c/"), "c/"},
		{buList("", "/", "", 6), list("a", "b", "photo-1"), list("a/", "ab/", "c/"), ""},
		{buList("", "/", "a", 2), nil, list("a/", "ab/"), "ab/"},
		{buList("", "/", "a/", 2), list("b"), list("ab/"), "b"},
		{buList("", "/", "a/x", 1000), list("b", "photo-1"), list("ab/", "c/"), ""},
		{buList("", "/", "aa", 2), list("b"), list("ab/"), "b"},
		{buList("", "/", "photo-1", 2), nil, nil, ""},
		{buList("", "/", "photo-", 1), list("photo-1"), nil, ""},
		{buList("", "", "a/x", 2), list("a/y", "ab/1"), nil, "ab/1"},
		{buList("a/", "", "a", 1), list("a/"), nil, "a/"},
		{buList("a/", "", "b", 1), nil, nil, ""},
	} {
		out := checkCodes(t, shortOp(c.op), b, []buStep{{c.op, impl.OK}}).Outs[0]
		if !slices.Equal(out.Keys, c.keys) || !slices.Equal(out.Prefixes, c.prefixes) || out.Next != c.next {
			t.Errorf("%s: %q, %q, %q", shortOp(c.op), out.Keys, out.Prefixes, out.Next)
		}
	}
}

// Every Prefix, Delim and After that the keys give rise to.
func TestP15ListingsByTheWords(t *testing.T) {
	keys := []string{"a", "a/", "a/b", "a/b/c", "a//", "ab", "ab/c", "aab", "b", "\x00", "\xff", "aaa", "aaab/a"}
	b := keysBucket(keys)
	marks := []string{"", "zz", "a/c", "\xff\xff"}
	for _, key := range keys {
		for end := range len(key) {
			marks = append(marks, key[:end+1])
		}
	}
	slices.Sort(marks)
	marks = slices.Compact(marks)
	for _, prefix := range marks {
		for _, delim := range []string{"", "/", "a", "b", "aa", "//", "/b", "ab", "\xff", "zz", "a/b/c"} {
			var ops []impl.BucketOp
			for _, after := range marks {
				for _, most := range []int64{1, 2, 3, 1000} {
					ops = append(ops, buList(prefix, delim, after, most))
				}
			}
			got, want := impl.RunBucket(b, ops), plainBucketRun(b, ops)
			if !slices.EqualFunc(got.Outs, want.Outs, sameBuOut) || !sameBucket(got.Bucket, b) {
				t.Fatalf("Prefix %q, Delim %q: listed in another way", prefix, delim)
			}
		}
	}
}

// pagesOf lists by pages of a size, each behind the one ahead of it, and puts them together.
func pagesOf(t *testing.T, b impl.Bucket, op impl.BucketOp) impl.BucketOut {
	t.Helper()
	var all impl.BucketOut
	for range impl.MaxObjects + 1 {
		page := impl.RunBucket(b, []impl.BucketOp{op}).Outs[0]
		all.Keys = append(all.Keys, page.Keys...)
		all.Prefixes = append(all.Prefixes, page.Prefixes...)
		count := int64(len(page.Keys) + len(page.Prefixes))
		if page.Code != impl.OK || count > op.Limit || page.Next != "" && count < op.Limit {
			t.Fatalf("%s: a page of %d, code %d", shortOp(op), count, page.Code)
		}
		if page.Next == "" {
			return all
		}
		op.After = page.Next
	}
	t.Fatalf("%s: the pages do not end", shortOp(op))
	return all
}

func TestP15PagesPutTogetherAreTheListing(t *testing.T) {
	x := newBuckets(17)
	for i := range 200 {
		b := x.bucket(60)
		for range 5 {
			op := buList(x.prefix(), bucketDelims[x.chance.Intn(len(bucketDelims))], "", 1000)
			if i%2 == 0 {
				op.Prefix = ""
			}
			if i%3 == 0 {
				op.After = x.key()
			}
			whole := checkStep(t, "whole", b, op).Outs[0]
			if !sameBuOut(whole, plainBuList(b, op)) || whole.Next != "" {
				t.Fatalf("%d: %s: %v", i, shortOp(op), whole)
			}
			count := int64(len(whole.Keys) + len(whole.Prefixes))
			for size := int64(1); size <= count+2; size++ {
				op.Limit = size
				if got := pagesOf(t, b, op); !sameBuOut(got, whole) {
					t.Fatalf("%d: %s: %v, not %v", i, shortOp(op), got, whole)
				}
			}
		}
	}
}

func TestP15PagesOfFullBuckets(t *testing.T) {
	full := rightBuckets()["full"]
	for _, op := range []impl.BucketOp{buList("", "", "", 0), buList("key/", "", "", 0), buList("", "/", "", 0), buList("", "5", "", 0), buList("key/", "9", "", 0), buList("key/1", "0", "", 0)} {
		op.Limit = 1000
		whole := impl.RunBucket(full, []impl.BucketOp{op}).Outs[0]
		if !sameBuOut(whole, plainBuList(full, op)) {
			t.Fatalf("%s: listed in another way", shortOp(op))
		}
		for _, size := range []int64{1, 2, 7, 99, 100, 149, 150, 299, 300, 301, 1000} {
			op.Limit = size
			if got := pagesOf(t, full, op); !sameBuOut(got, whole) {
				t.Errorf("%s: the pages are not the listing", shortOp(op))
			}
		}
	}
	for size := int64(298); size <= 302; size++ {
		out := impl.RunBucket(full, []impl.BucketOp{buList("", "", "", size)}).Outs[0]
		want := ""
		if size < 300 {
			want = rowKey(int(size) - 1)
		}
		if int64(len(out.Keys)) != min(size, 300) || out.Next != want {
			t.Errorf("a page of %d: %d keys, next %q", size, len(out.Keys), out.Next)
		}
	}
}

// A key of MaxKey bytes, and prefixes as long.
func TestP15ListingsOfLongKeys(t *testing.T) {
	long := times("k", impl.MaxKey-1)
	b := bucketOf(true, versionOf(long+"/", 1, ""), versionOf(long+"0", 2, ""), versionOf(long, 3, ""))
	for _, c := range []struct {
		op             impl.BucketOp
		keys, prefixes int
	}{
		{buList("", "/", "", 9), 2, 1}, {buList(long, "/", "", 9), 2, 1}, {buList(long+"/", "/", "", 9), 1, 0}, {buList(long+"/x", "/", "", 9), 0, 0}, {buList(long, long, "", 9), 3, 0}, {buList("", long, "", 9), 0, 1},
		{buList("", long+"/", "", 9), 2, 1}, {buList("", "", long, 9), 2, 0}, {buList("", "", long+"0", 9), 0, 0}, {buList("", "", long+"/\x00", 9), 1, 0}, {buList(times("k", 1000), "", "", 9), 0, 0},
	} {
		out := checkCodes(t, "long", b, []buStep{{c.op, impl.OK}}).Outs[0]
		if len(out.Keys) != c.keys || len(out.Prefixes) != c.prefixes {
			t.Errorf("%s: %d keys, %d prefixes", shortOp(c.op), len(out.Keys), len(out.Prefixes))
		}
	}
}

func TestP15VersionsListed(t *testing.T) {
	b := bucketOf(true, versionOf("b", 1, ""), versionOf("a", 2, ""), markerOf("b", 3), versionOf("ab", 9, ""), versionOf("b", 10, ""), versionOf("a", 11, ""), markerOf("a#2", 12))
	all := []string{"a#11", "a#2", "a#2#12-", "ab#9", "b#10", "b#3-", "b#1"}
	for most := int64(1); most <= 9; most++ {
		if out := checkStep(t, "versions", b, buVersions("", most)).Outs[0]; !sameBuOut(out, impl.BucketOut{Keys: all[:min(most, 7)]}) {
			t.Errorf("%d: %q", most, out.Keys)
		}
	}
	for prefix, want := range map[string][]string{"": all, "a": all[:4], "ab": all[3:4], "b": all[4:], "a#": all[2:3], "c": nil, "b#": nil} {
		if out := checkStep(t, "versions", b, buVersions(prefix, 1000)).Outs[0]; !sameBuOut(out, impl.BucketOut{Keys: want}) {
			t.Errorf("%q: %q", prefix, out.Keys)
		}
	}
	for _, key := range []func(int) string{oneKey, rowKey} {
		full := bucketOf(true, manyVersions(impl.MaxObjects, key)...)
		for _, most := range []int64{1, 299, 300, 1000} {
			if out := impl.RunBucket(full, []impl.BucketOp{buVersions("", most)}).Outs[0]; !sameBuOut(out, plainBuVersions(full, buVersions("", most))) {
				t.Errorf("%d of a full bucket: %d", most, len(out.Keys))
			}
		}
	}
}

// lentBucket is a bucket with operations, all of whose texts and lists the test can look into.
type lentBucket struct {
	bucket impl.Bucket
	ops    []impl.BucketOp
	texts  []*loan
	lists  [][]impl.LifeRule
	were   [][]impl.LifeRule
	room   []impl.Version
	was    []impl.Version
	given  []impl.BucketOp
}

func (l *lentBucket) text(text string) string {
	lent := newLoan(text)
	l.texts = append(l.texts, lent)
	return lent.text()
}

func (l *lentBucket) rules(rules []impl.LifeRule) []impl.LifeRule {
	var room []impl.LifeRule
	for _, r := range rules {
		room = append(room, ruleOf(r.Kind, l.text(r.Prefix), r.Age))
	}
	room = append(room, ruleOf(7, "room", 7), ruleOf(8, "behind", 8))
	l.lists = append(l.lists, room)
	l.were = append(l.were, slices.Clone(room))
	return room[:len(rules)]
}

func lendBucket(b impl.Bucket, ops []impl.BucketOp) *lentBucket {
	l := &lentBucket{bucket: b}
	l.bucket.Rules = l.rules(b.Rules)
	for _, v := range b.List {
		v.Key, v.Data = l.text(v.Key), l.text(v.Data)
		l.room = append(l.room, v)
	}
	l.room = append(l.room, versionOf("room", 77, "behind"), markerOf("room", 88))
	l.was = slices.Clone(l.room)
	l.bucket.List = l.room[:len(b.List)]
	for _, op := range ops {
		op.Key, op.Data, op.Prefix, op.Delim, op.After = l.text(op.Key), l.text(op.Data), l.text(op.Prefix), l.text(op.Delim), l.text(op.After)
		op.Rules = l.rules(op.Rules)
		l.ops = append(l.ops, op)
	}
	l.ops = append(l.ops, buPut("room", "behind", 1), buDelete("room", 0, 2))
	l.given = slices.Clone(l.ops)
	return l
}

// list are the operations, with room behind them.
func (l *lentBucket) list() []impl.BucketOp {
	return l.ops[:len(l.ops)-2]
}

func sameOp(a, b impl.BucketOp) bool {
	rules := slices.Equal(a.Rules, b.Rules)
	a.Rules, b.Rules = nil, nil
	return rules && fmt.Sprint(a) == fmt.Sprint(b)
}

func (l *lentBucket) kept() bool {
	for _, text := range l.texts {
		if !text.kept() {
			return false
		}
	}
	return slices.Equal(l.room, l.was) && slices.EqualFunc(l.lists, l.were, slices.Equal) && slices.EqualFunc(l.ops, l.given, sameOp)
}

// spoil changes all that was lent.
func (l *lentBucket) spoil() {
	for _, text := range l.texts {
		text.spoil()
	}
	for _, list := range l.lists {
		spoilRules(list)
	}
	spoilVersions(l.room)
	for i := range l.ops {
		l.ops[i] = impl.BucketOp{Kind: -1}
	}
}

func spoilRules(rules []impl.LifeRule) {
	rules = rules[:cap(rules)]
	for i := range rules {
		rules[i] = ruleOf(rules[i].Kind+1, "spoiled "+rules[i].Prefix, rules[i].Age+1)
	}
}

func spoilVersions(list []impl.Version) {
	list = list[:cap(list)]
	for i := range list {
		list[i] = versionOf("spoiled", list[i].Id+1, "")
	}
}

// spoilNames changes all of a list of texts, the room behind it included.
func spoilNames(list []string) {
	list = list[:cap(list)]
	for i := range list {
		list[i] = "spoiled " + list[i]
	}
}

func TestP14AnswersOfBucketsAreNewMemory(t *testing.T) {
	x := newBuckets(18)
	for i := range 400 {
		b := x.bucket(12)
		ops := x.ops(x.chance.Intn(25), b.NextId)
		if i%3 == 0 {
			rules := x.rules(3)
			ops = append(ops, buList("", "/", "", 9), buList("", "/", "", 9), buVersions("", 9), buVersions("", 9), buLife(3, rules...), buLife(3, rules...))
		}
		if i%7 == 0 {
			ops = nil
		}
		lent := lendBucket(b, ops)
		got := impl.RunBucket(lent.bucket, lent.list())
		if !lent.kept() {
			t.Fatalf("run %d wrote into an argument", i)
		}
		lent.spoil()
		want := plainBucketRun(b, ops)
		if !sameBucket(got.Bucket, want.Bucket) || !slices.EqualFunc(got.Outs, want.Outs, sameBuOut) {
			t.Fatalf("run %d shares memory with an argument", i)
		}
		for k := range got.Outs {
			if !sameBuOut(got.Outs[k], want.Outs[k]) {
				t.Fatalf("run %d: the lists of operation %d share memory with those ahead of it", i, k)
			}
			spoilNames(got.Outs[k].Keys)
			if !slices.Equal(got.Outs[k].Prefixes, want.Outs[k].Prefixes) {
				t.Fatalf("run %d: Keys and Prefixes of operation %d share memory", i, k)
			}
			spoilNames(got.Outs[k].Prefixes)
		}
		if !sameBucket(got.Bucket, want.Bucket) {
			t.Fatalf("run %d: the bucket shares memory with an out", i)
		}
		spoilRules(got.Bucket.Rules)
		spoilVersions(got.Bucket.List)
	}
}

// What is told of a key stays as it was told, whichever operations named the key ahead of that, and when they are spoiled.
func TestP14NamesThatAreToldAreNewMemory(t *testing.T) {
	key := "dir/k"
	for _, kept := range []bool{true, false} {
		b := bucketOf(kept, locked(versionOf(key, 1, "old"), 50, false), versionOf(key, 2, ""), versionOf(key, 3, "new"))
		for _, op := range []impl.BucketOp{
			buPut(key, "x", 1), buDelete(key, 0, 1), buDelete(key, 3, 1), buDelete(key, 2, 1), buDelete(key, 1, 1), buGet(key, 0), buLock(key, 0, 9, 1), buHold(key, 0, true),
			buLife(1, ruleOf(impl.RuleOld, key, 0)), buLife(1, ruleOf(impl.RuleExpire, key, 0)), buList(key, "/", "", 9), buList("", "", "dir", 9), buVersions(key, 9),
		} {
			ops := []impl.BucketOp{op, buList("", "", "", 1), buList("", "/", "", 9), buVersions("", 9), buPut(key+"/2", "", 2), buList("", "/", "", 1), buList("", "", "", 1)}
			lent := lendBucket(b, ops)
			got := impl.RunBucket(lent.bucket, lent.list())
			lent.spoil()
			if want := plainBucketRun(b, ops); !sameBucket(got.Bucket, want.Bucket) || !slices.EqualFunc(got.Outs, want.Outs, sameBuOut) {
				t.Errorf("kept %v, behind %s: %+v", kept, shortOp(op), got.Outs)
			}
		}
	}
}

func TestP14AnswersOfLooksAreNewMemory(t *testing.T) {
	x := newBuckets(19)
	for i := range 200 {
		b := x.bucket(12)
		key := x.key()
		lent, asked := lendBucket(b, nil), newLoan(key)
		got := impl.NewestOf(lent.bucket, asked.text())
		fault, size := impl.BucketFault(lent.bucket), impl.BucketBytes(lent.bucket)
		if !lent.kept() || !asked.kept() {
			t.Fatalf("%d: a call wrote into an argument", i)
		}
		lent.spoil()
		asked.spoil()
		if want, _ := plainNewest(b.List, key); got != want || fault != impl.OK || size != plainBytes(b.List) {
			t.Fatalf("%d: %v, not %v", i, got, want)
		}
	}
}

func TestP14NoCallOfBucketsPanics(t *testing.T) {
	x := newBuckets(20)
	numbers := []int64{math.MinInt64, -2, -1, 0, 1, 2, 3, 4, 5, 10, 1000, 1001, impl.MaxTime, impl.MaxTime + 1, topId, topId + 1, math.MaxInt64}
	number := func() int64 { return numbers[x.chance.Intn(len(numbers))] }
	texts := []string{"", "a", "b", "a/b", "/", "\x00", "\xff", times("k", impl.MaxKey), times("k", impl.MaxKey+1), times("t", impl.MaxBytes+1)}
	text := func() string { return texts[x.chance.Intn(len(texts))] }
	rules := func() []impl.LifeRule {
		var list []impl.LifeRule
		for range x.chance.Intn(3) {
			list = append(list, ruleOf(number(), text(), number()))
		}
		return list
	}
	for i := range 8000 {
		b := impl.Bucket{NextId: number(), Kept: i%4 == 0, Quota: number(), Rules: rules()}
		for range x.chance.Intn(4) {
			b.List = append(b.List, impl.Version{Key: text(), Id: number(), Marker: x.chance.Intn(3) == 0, Data: text(), Time: number(), Until: number(), Hold: x.chance.Intn(3) == 0})
		}
		if i%4 > 0 {
			b = x.bucket(8)
		}
		var ops []impl.BucketOp
		for range x.chance.Intn(8) {
			ops = append(ops, impl.BucketOp{Kind: x.chance.Int63n(13) - 1, Key: text(), Id: number(), Data: text(), Time: number(), Until: number(), Flag: x.chance.Intn(2) == 0, IfId: number(),
				Prefix: text(), Delim: text(), After: text(), Limit: number(), Rules: rules(), From: number(), Count: number()})
		}
		key := text()
		noPanic(t, "BucketFault", func() {
			if got, want := impl.BucketFault(b), plainBucketFault(b); got != want {
				t.Errorf("%d: fault %d, not %d", i, got, want)
			}
		})
		noPanic(t, "NewestOf", func() { impl.NewestOf(b, key) })
		noPanic(t, "BucketBytes", func() { impl.BucketBytes(b) })
		noPanic(t, "RunBucket", func() {
			got, want := impl.RunBucket(b, ops), plainBucketRun(b, ops)
			if !sameBucket(got.Bucket, want.Bucket) || !slices.EqualFunc(got.Outs, want.Outs, sameBuOut) {
				t.Errorf("%d: run in another way", i)
			}
		})
	}
}

// The longest runs on the greatest buckets: each has to end.
func TestP14TheLongestRunsEnd(t *testing.T) {
	long := times("k", impl.MaxKey-3)
	full := bucketOf(true, manyVersions(impl.MaxObjects, func(i int) string { return fmt.Sprintf("%s%03d", long, i) })...)
	for kind := int64(impl.BuPut); kind <= impl.BuKeep; kind++ {
		op := impl.BucketOp{Kind: kind, Key: full.List[7].Key, Data: "data", Limit: 1000, Delim: "9", Flag: true, Time: 5, Until: 9, Count: 9}
		op.Rules = slices.Repeat([]impl.LifeRule{ruleOf(impl.RuleExpire, long, 0), ruleOf(impl.RuleOld, "", 0), ruleOf(impl.RuleMarker, "k", 0), ruleOf(impl.RuleExpire, "", 0)}, impl.MaxRules/4)
		for i := range full.List {
			full.List[i].Data = mixedBytes(impl.MaxBytes / 100)
		}
		if got := impl.RunBucket(full, slices.Repeat([]impl.BucketOp{op}, impl.MaxOps)); len(got.Outs) != impl.MaxOps || impl.BucketFault(got.Bucket) != impl.OK {
			t.Errorf("kind %d: %d outs", kind, len(got.Outs))
		}
	}
}
