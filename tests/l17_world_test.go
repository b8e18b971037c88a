package tests

import (
	"fmt"
	"math"
	"math/rand"
	"runtime"
	"slices"
	"strconv"
	"strings"
	"sync"
	"testing"

	"loop.example/g00020/impl"
)

// Short names for operations.
func woSend(now int64, texts ...string) impl.WorldOp {
	return impl.WorldOp{Kind: impl.WoSend, Time: now, Data: strings.Join(texts, "")}
}
func woFail(disk int64) impl.WorldOp { return impl.WorldOp{Kind: impl.WoFail, Disk: disk} }
func woBack(disk int64) impl.WorldOp { return impl.WorldOp{Kind: impl.WoBack, Disk: disk} }
func woRot(id, shard, at, turn int64) impl.WorldOp {
	return impl.WorldOp{Kind: impl.WoRot, Key: fmt.Sprint(id), Shard: shard, At: at, Turn: turn}
}
func woRepair(num int64) impl.WorldOp { return impl.WorldOp{Kind: impl.WoRepair, Num: num} }
func woScrub() impl.WorldOp           { return impl.WorldOp{Kind: impl.WoScrub} }

// Keys of the worlds of these tests.
var (
	annKey  = impl.AccessKey{Id: "ann", Secret: "s"}
	bobKey  = impl.AccessKey{Id: "bob", Secret: "the secret of bob"}
	cyKey   = impl.AccessKey{Id: "cy7", Secret: "\x00\xff\n"}
	rootKey = impl.AccessKey{Id: "root", Secret: times("r", 100)}
)

// lettersTime is that at which letters are sent, if it plays no part.
const lettersTime = 50

// letter is a request as it is sent, signed by a key for all times.
func letter(k impl.AccessKey, r impl.Request) string {
	return impl.WriteRequest(impl.SignRequest(r, k, nil, 0, impl.MaxTime))
}

// Letters about a key, with headers as names and values.
func putLetter(k impl.AccessKey, key, body string, headers ...string) string {
	return letter(k, impl.Request{Method: "PUT", Path: "/" + key, Body: body, Headers: pairsOf(headers...)})
}
func getLetter(k impl.AccessKey, key string, headers ...string) string {
	return letter(k, impl.Request{Method: "GET", Path: "/" + key, Headers: pairsOf(headers...)})
}
func deleteLetter(k impl.AccessKey, key string, headers ...string) string {
	return letter(k, impl.Request{Method: "DELETE", Path: "/" + key, Headers: pairsOf(headers...)})
}
func listLetter(k impl.AccessKey, query ...string) string {
	return letter(k, impl.Request{Method: "GET", Path: "/", Query: pairsOf(query...)})
}

// tellAll is the answers of statuses and Ids without bodies.
func tellAll(numbers ...int64) string {
	text := ""
	for i := 0; i < len(numbers); i += 2 {
		text += plainAnswer(numbers[i], numbers[i+1], "")
	}
	return text
}

func plainAnswer(status, id int64, body string) string {
	return fmt.Sprintf("%d %d %d\n%s", status, id, len(body), body)
}

func plainAction(r impl.Request) string {
	if r.Method == "GET" && r.Path == "/" {
		return "list"
	}
	if len(r.Path) < 2 || r.Path[0] != '/' {
		return ""
	}
	return map[string]string{"GET": "get", "PUT": "put", "DELETE": "delete"}[r.Method]
}

// plainNumber is the number in a header, 0 if there is none.
func plainNumber(r impl.Request, name string) int64 {
	value, _ := plainHeader(r, name)
	n, _ := strconv.ParseInt(value, 10, 64)
	if !numberForm.MatchString(value) || n > 4102444800 {
		return 0
	}
	return n
}

func plainIfId(r impl.Request) int64 {
	if value, _ := plainHeader(r, "if-id"); value == "none" {
		return -1
	}
	return plainNumber(r, "if-id")
}

func plainPair(r impl.Request, name string) string {
	for _, p := range r.Query {
		if p.Name == name {
			return p.Value
		}
	}
	return ""
}

// plainHeld is what stands in the cluster of a version's bytes.
func plainHeld(master string, id int64, body string) string {
	s := plainSeal(master, fmt.Sprint("k", id), id, body)
	return impl.PutText(s.Wrapped) + impl.PutNum(int64(len(s.Data))) + s.Data
}

// plainUnheld is the other way, false if what is held is otherwise made.
func plainUnheld(master string, id int64, held string) (string, bool) {
	wrapped := impl.GetText(held, 0)
	size := impl.GetNum(held, wrapped.Next)
	if !wrapped.Good || !size.Good || size.Num != int64(len(held))-size.Next {
		return "", false
	}
	opened := plainOpen(master, impl.Sealed{Wrapped: wrapped.Text, Data: held[size.Next:]}, id)
	return opened.Data, opened.Code == 0
}

// plainWorld is the document's sentences for all operations, over those of the chapters that they name.
type plainWorld struct {
	config  impl.WorldConfig
	policy  []impl.Statement
	bucket  impl.Bucket
	cluster *plainCluster
	seen    met
}

func newPlainWorld(c impl.WorldConfig) *plainWorld {
	return &plainWorld{config: c, policy: plainPolicy(c.Policy).Statements, bucket: c.Bucket, cluster: newPlainCluster(c.Cluster), seen: met{}}
}

// reply is an answer in parts.
type reply struct {
	status int64
	id     int64
	body   string
}

func coded(code int64) reply {
	return reply{status: map[int64]int64{0: 200, 1: 400, 5: 404, 10: 412, 11: 423, 7: 507, 2: 413}[code]}
}

func (p *plainWorld) put(key string, r impl.Request, now int64) reply {
	next := p.bucket
	next.Quota = 0
	op := impl.BucketOp{Kind: 1, Key: key, Data: r.Body, Time: now, Until: plainNumber(r, "until"), IfId: plainIfId(r)}
	out := plainBuOp(&next, op)
	if out.Code != impl.OK {
		return coded(out.Code)
	}
	if code := p.cluster.doKind(clPut(fmt.Sprint(out.Id), plainHeld(p.config.Master, out.Id, r.Body))).Code; code != impl.OK {
		p.seen[fmt.Sprint("put code of the cluster ", code)]++
		return reply{status: 507}
	}
	next.Quota = p.bucket.Quota
	next.List = slices.Clone(next.List)
	next.List[len(next.List)-1].Data = ""
	p.bucket = next
	return reply{status: 200, id: out.Id}
}

func (p *plainWorld) get(key string, r impl.Request, now int64) reply {
	out := plainBuOp(&p.bucket, impl.BucketOp{Kind: 3, Key: key, Id: plainNumber(r, "version"), Time: now})
	if out.Code != impl.OK {
		return coded(out.Code)
	}
	held := p.cluster.doKind(clGet(fmt.Sprint(out.Id)))
	if held.Code != impl.OK {
		return reply{status: 503}
	}
	body, ok := plainUnheld(p.config.Master, out.Id, held.Data)
	if !ok {
		p.seen["made of bent shards"]++
		return reply{status: 503}
	}
	return reply{status: 200, id: out.Id, body: body}
}

func (p *plainWorld) list(r impl.Request, now int64) reply {
	out := plainBuOp(&p.bucket, impl.BucketOp{Kind: 4, Time: now, Prefix: plainPair(r, "prefix"), Delim: plainPair(r, "delim"), After: plainPair(r, "after"), Limit: 1000})
	got := coded(out.Code)
	for _, key := range out.Keys {
		got.body += "key " + plainEscape(key) + "\n"
	}
	for _, prefix := range out.Prefixes {
		got.body += "prefix " + plainEscape(prefix) + "\n"
		p.seen["a prefix"]++
	}
	return got
}

func (p *plainWorld) delete(key string, r impl.Request, now int64) reply {
	was := p.bucket.List
	out := plainBuOp(&p.bucket, impl.BucketOp{Kind: 2, Key: key, Id: plainNumber(r, "version"), IfId: plainIfId(r), Time: now})
	for _, v := range was {
		if slices.ContainsFunc(p.bucket.List, func(stays impl.Version) bool { return stays.Id == v.Id }) {
			continue
		}
		p.seen["a version that goes"]++
		if p.cluster.doKind(clDrop(fmt.Sprint(v.Id))).Code != impl.OK {
			p.seen["a marker that goes"]++
		}
	}
	got := coded(out.Code)
	got.id = out.Id
	return got
}

func (p *plainWorld) answer(r impl.Request, now int64) reply {
	check := plainCheck(r, p.config.Keys, now)
	if check.Code != impl.OK {
		p.seen[fmt.Sprint("check code ", check.Code)]++
		return reply{status: 401}
	}
	action := plainAction(r)
	if action == "" {
		return reply{status: 400}
	}
	key := r.Path[1:]
	from, _ := plainHeader(r, "from")
	judged := plainJudge(p.policy, impl.Ask{Who: check.Id, What: action, Which: key, From: from, Time: now})
	if judged != impl.JudgeAllow {
		p.seen[fmt.Sprint("judged ", judged)]++
		return reply{status: 403}
	}
	switch action {
	case "put":
		return p.put(key, r, now)
	case "get":
		return p.get(key, r, now)
	case "list":
		return p.list(r, now)
	}
	return p.delete(key, r, now)
}

func (p *plainWorld) send(data string, now int64) string {
	text := ""
	for at := int64(0); at < int64(len(data)); {
		read := plainRequestRead(data, at)
		if read.Code != impl.OK {
			p.seen[fmt.Sprint("read code ", read.Code)]++
			return text + plainAnswer(400, 0, "")
		}
		got := p.answer(read.Request, now)
		p.seen[fmt.Sprint(plainAction(read.Request), " ", got.status)]++
		text += plainAnswer(got.status, got.id, got.body)
		at = read.Next
	}
	return text
}

func (p *plainWorld) lacks() int64 {
	var lacks int64
	for _, o := range p.cluster.objects {
		lacks += int64(len(o.disks)) - countTrue(p.cluster.goods(o))
	}
	return lacks
}

func (p *plainWorld) do(op impl.WorldOp) impl.WorldOut {
	out := impl.WorldOut{Code: impl.ErrForm}
	kind, there := map[int64]int64{2: 4, 3: 5, 4: 6, 5: 8, 6: 7}[op.Kind]
	switch {
	case op.Kind == 1 && isPlainTime(op.Time):
		out = impl.WorldOut{Told: p.send(op.Data, op.Time)}
	case there:
		got := p.cluster.doKind(impl.ClusterOp{Kind: kind, Disk: op.Disk, Key: op.Key, Shard: op.Shard, At: op.At, Turn: op.Turn, Num: op.Num})
		out = impl.WorldOut{Code: got.Code, Bent: got.Bent, Moved: got.Moved}
	}
	out.Lacks = p.lacks()
	p.seen[fmt.Sprintf("kind %d code %d", min(max(op.Kind, 0), 7), out.Code)]++
	return out
}

func plainWorldFault(c impl.WorldConfig) int64 {
	if impl.NodesFault(c.Cluster.Nodes) != 0 || impl.CodeFault(c.Cluster.Code) != 0 || c.Cluster.Unit < 1 || c.Cluster.Unit > 4096 {
		return impl.ErrForm
	}
	if plainBucketFault(c.Bucket) != 0 || len(c.Bucket.List) != 0 || !c.Bucket.Kept || plainPolicy(c.Policy).Code != 0 || !plainKeyFits(c.Master) || len(c.Keys) > 100 {
		return impl.ErrForm
	}
	for i, k := range c.Keys {
		for _, other := range c.Keys[:i] {
			if k.Id == other.Id {
				return impl.ErrForm
			}
		}
	}
	return impl.OK
}

func plainWorldRun(c impl.WorldConfig, ops []impl.WorldOp) impl.WorldRun {
	if plainWorldFault(c) != 0 {
		return impl.WorldRun{Code: impl.ErrForm}
	}
	if len(ops) > 2000 {
		return impl.WorldRun{Code: impl.ErrCount}
	}
	if slices.ContainsFunc(ops, func(op impl.WorldOp) bool { return len(op.Data) > 400000 }) {
		return impl.WorldRun{Code: impl.ErrSize}
	}
	p := newPlainWorld(c)
	var run impl.WorldRun
	for _, op := range ops {
		run.Outs = append(run.Outs, p.do(op))
	}
	run.Bucket = p.bucket
	return run
}

func sameWoOut(a, b impl.WorldOut) bool {
	return a.Code == b.Code && a.Told == b.Told && slices.Equal(a.Bent, b.Bent) && a.Moved == b.Moved && a.Lacks == b.Lacks
}

func sameWorld(a, b impl.WorldRun) bool {
	return a.Code == b.Code && slices.EqualFunc(a.Outs, b.Outs, sameWoOut) && sameBucket(a.Bucket, b.Bucket)
}

func isOnlyWorldCode(r impl.WorldRun, code int64) bool {
	return r.Code == code && len(r.Outs) == 0 && sameBucket(r.Bucket, impl.Bucket{})
}

// requestsIn are those of data up to the first that can't be read, and whether there is such a one.
func requestsIn(data string) ([]impl.Request, bool) {
	var list []impl.Request
	for at := int64(0); at < int64(len(data)); {
		read := impl.ReadRequest(data, at)
		if read.Code != impl.OK {
			return list, true
		}
		list = append(list, read.Request)
		at = read.Next
	}
	return list, false
}

// repliesIn parts what is told into its answers.
func repliesIn(t *testing.T, text string) []reply {
	t.Helper()
	var list []reply
	for text != "" {
		var got reply
		var size int
		line, rest, _ := strings.Cut(text, "\n")
		if n, err := fmt.Sscanf(line, "%d %d %d", &got.status, &got.id, &size); n != 3 || err != nil || size > len(rest) {
			t.Fatalf("no answer: %q", line)
		}
		got.body, text = rest[:size], rest[size:]
		list = append(list, got)
	}
	return list
}

// ledger is what puts have been answered with 200, and not deleted.
type ledger struct {
	keys   map[int64]string
	bodies map[int64]string
	last   int64
}

// enter holds the answer to a request against what was put, and takes it in.
func (l *ledger) enter(t *testing.T, what string, r impl.Request, got reply) {
	t.Helper()
	version := plainNumber(r, "version")
	key := r.Path[1:]
	switch action := plainAction(r); {
	case got.status != 200:
		if there, ok := l.keys[version]; action == "get" && ok && there == key && got.status != 503 {
			t.Errorf("%s: version %d was put, and is answered with %d", what, version, got.status)
		}
	case action == "put":
		if got.id <= l.last {
			t.Errorf("%s: Id %d behind %d", what, got.id, l.last)
		}
		l.keys[got.id], l.bodies[got.id], l.last = key, r.Body, got.id
	case action == "get":
		if body, ok := l.bodies[got.id]; !ok || l.keys[got.id] != key || body != got.body || version > 0 && got.id != version {
			t.Errorf("%s: version %d of %q as %s", what, version, key, shortly(got))
		}
	case action == "delete" && version > 0:
		delete(l.keys, version)
		delete(l.bodies, version)
	}
}

// checkPromise holds a run to the promise itself: each request is answered just if it is signed in time and allowed, and
// what was put is read back.
func checkPromise(t *testing.T, what string, c impl.WorldConfig, ops []impl.WorldOp, outs []impl.WorldOut) {
	t.Helper()
	policy := impl.ReadPolicy(c.Policy).Statements
	book := &ledger{keys: map[int64]string{}, bodies: map[int64]string{}}
	for i, op := range ops {
		if op.Kind != impl.WoSend || !isPlainTime(op.Time) {
			continue
		}
		list, broken := requestsIn(op.Data)
		replies := repliesIn(t, outs[i].Told)
		if broken {
			if last := len(replies) - 1; last < 0 || replies[last] != (reply{status: 400}) {
				t.Fatalf("%s: operation %d: %s of what can't be read", what, i, shortly(replies))
			}
			replies = replies[:len(replies)-1]
		}
		if len(replies) != len(list) {
			t.Fatalf("%s: operation %d: %d answers to %d requests", what, i, len(replies), len(list))
		}
		for k, r := range list {
			check := impl.CheckSigned(r, c.Keys, op.Time)
			from, _ := plainHeader(r, "from")
			action := impl.ActionOf(r)
			may := check.Code == impl.OK && action != "" && impl.Judge(policy, impl.Ask{Who: check.Id, What: action, Which: r.Path[1:], From: from, Time: op.Time}) == impl.JudgeAllow
			refused := slices.Contains([]int64{401, 403}, replies[k].status) || action == "" && replies[k].status == 400
			if may == refused || !may && replies[k] != (reply{status: replies[k].status}) {
				t.Errorf("%s: operation %d, request %d: %s", what, i, k, shortly(replies[k]))
			}
			if may {
				book.enter(t, fmt.Sprint(what, ": operation ", i, ", request ", k), r, replies[k])
			}
		}
	}
}

// holdWorld holds a run against the plain one.
func holdWorld(t *testing.T, what string, ops []impl.WorldOp, got, want impl.WorldRun) {
	t.Helper()
	if got.Code != want.Code || len(got.Outs) != len(want.Outs) {
		t.Fatalf("%s: code %d with %d outs, not %d with %d", what, got.Code, len(got.Outs), want.Code, len(want.Outs))
	}
	for i := range want.Outs {
		if !sameWoOut(got.Outs[i], want.Outs[i]) {
			t.Fatalf("%s: operation %d, %s: %s, not %s", what, i, shortly(ops[i]), shortly(got.Outs[i]), shortly(want.Outs[i]))
		}
	}
	if !sameBucket(got.Bucket, want.Bucket) {
		t.Fatalf("%s: %s, not %s", what, shortly(got.Bucket), shortly(want.Bucket))
	}
}

// checkWorld holds a run against the plain one.
func checkWorld(t *testing.T, what string, c impl.WorldConfig, ops []impl.WorldOp) impl.WorldRun {
	t.Helper()
	got := impl.RunWorld(c, ops)
	holdWorld(t, what, ops, got, plainWorldRun(c, ops))
	return got
}

// woProbes ask for all that a world has by Id, and make it show what disks and Ids there are.
func woProbes(k impl.AccessKey, bucket impl.Bucket) []impl.WorldOp {
	texts := []string{listLetter(k)}
	for _, v := range bucket.List {
		texts = append(texts, getLetter(k, v.Key, "version", fmt.Sprint(v.Id)), getLetter(k, v.Key))
	}
	all := woSend(lettersTime, texts...)
	return []impl.WorldOp{all, woScrub(), woRepair(clAll), all, woSend(lettersTime, putLetter(k, "probe", "x"))}
}

// checkUnchanged tells whether a world is the same with an operation behind others and without it.
func checkUnchanged(t *testing.T, what string, c impl.WorldConfig, ops []impl.WorldOp, op impl.WorldOp) impl.WorldOut {
	t.Helper()
	ahead := impl.RunWorld(c, ops)
	tell := woProbes(annKey, ahead.Bucket)
	was := impl.RunWorld(c, slices.Concat(ops, tell))
	now := impl.RunWorld(c, slices.Concat(ops, []impl.WorldOp{op}, tell))
	if was.Code != impl.OK || now.Code != impl.OK {
		t.Fatalf("%s: codes %d and %d", what, was.Code, now.Code)
	}
	if !slices.EqualFunc(was.Outs[len(ops):], now.Outs[len(ops)+1:], sameWoOut) || !sameBucket(was.Bucket, now.Bucket) {
		t.Errorf("%s: %s: the world has become another", what, shortly(op))
	}
	out := now.Outs[len(ops)]
	if len(ops) > 0 && out.Lacks != ahead.Outs[len(ops)-1].Lacks {
		t.Errorf("%s: %s: lacks %d", what, shortly(op), out.Lacks)
	}
	return out
}

// checkTold is that a world answers texts at a time, and stays as it is.
func checkTold(t *testing.T, what string, c impl.WorldConfig, ops []impl.WorldOp, now int64, text, want string) {
	t.Helper()
	if out := checkUnchanged(t, what, c, ops, woSend(now, text)); out.Code != impl.OK || out.Told != want || len(out.Bent) != 0 || out.Moved != 0 {
		t.Errorf("%s: %s, not %q", what, shortly(out), want)
	}
}

// worldOf is a world in which ann may do all, and bob what stands under p/; others may nothing.
func worldOf(code impl.Code, unit int64, disks int) impl.WorldConfig {
	return impl.WorldConfig{
		Cluster: impl.ClusterConfig{Code: code, Unit: unit, Nodes: alike(disks, 1)},
		Keys:    []impl.AccessKey{annKey, bobKey},
		Policy:  "allow who ann do * on *\nallow who bob do get,put,delete on p/*\n",
		Master:  "master",
		Bucket:  impl.Bucket{NextId: 1, Kept: true},
	}
}

func smallWorld() impl.WorldConfig { return worldOf(impl.Code{K: 2, M: 1}, 8, 4) }

// woSettled is a world that has something of all that one can have: a key with two versions, one that is locked, one that
// is deleted, a version that has gone, one that is bent, and a disk that failed.
func woSettled() (impl.WorldConfig, []impl.WorldOp) {
	return smallWorld(), []impl.WorldOp{
		woSend(10, putLetter(annKey, "k", "first"), putLetter(annKey, "k", "second"), putLetter(annKey, "locked", "for long", "until", "90"), putLetter(annKey, "gone", "x"), deleteLetter(annKey, "gone"), putLetter(bobKey, "p/a", ""), putLetter(annKey, "k2", "away"), deleteLetter(annKey, "k2", "version", "7")),
		woRot(1, 0, 0, 1), woFail(2),
	}
}

func TestP21KindsAsTheDocumentHasThem(t *testing.T) {
	got := []int{impl.WoSend, impl.WoFail, impl.WoBack, impl.WoRot, impl.WoRepair, impl.WoScrub}
	if !slices.Equal(got, []int{1, 2, 3, 4, 5, 6}) {
		t.Error(got)
	}
	// They go with numbers of any type.
	if small := uint8(1); small != impl.WoSend {
		t.Error(small)
	}
}

// worlds draws worlds and operations.
type worlds struct {
	chance *rand.Rand
	disks  clusterRuns
}

func newWorlds(seed int64) worlds {
	disks := newClusterRuns(seed)
	return worlds{chance: disks.chance, disks: disks}
}

// some is one of a list.
func some[T any](x worlds, list ...T) T {
	return list[x.chance.Intn(len(list))]
}

// worldPolicies allow much, little or nothing, by who, what, which, from and time.
var worldPolicies = []string{
	"allow who * do * on *\n",
	"allow who * do * on *\n",
	"allow who * do * on *",
	"allow who ann,root do * on *\nallow who bob do get on p/*\n",
	"allow who * do * on *\ndeny who bob do put,delete on *\n\n  deny who * do delete on p/* before 40\n",
	"allow who * do * on * from 10.*\nallow who root,ann do * on *\n",
	"allow who * do get,list on *\nallow who ann do put on * after 30 before 60\nallow who root do * on *\ndeny who cy7 do * on ?\n",
	"allow who * do * on * prefix p/\nallow who root do * on *\n",
	"",
	"deny who * do * on *\nallow who * do * on *\n",
}

func (x worlds) config() impl.WorldConfig {
	cluster := x.disks.config()
	cluster.Unit = some[int64](x, 1, 2, 3, 5, 8, 13, 40)
	for i := range cluster.Nodes {
		// Of a weight most times: where there is no place, nothing is put.
		if cluster.Nodes[i].Weight == 0 && x.chance.Intn(4) > 0 {
			cluster.Nodes[i].Weight = 1
		}
	}
	keys := []impl.AccessKey{annKey, bobKey, cyKey, rootKey}
	keys = append(keys, impl.AccessKey{Id: "no-id", Secret: "s"}, impl.AccessKey{Id: "dumb"}, impl.AccessKey{Secret: "s"})
	x.chance.Shuffle(len(keys), func(i, k int) { keys[i], keys[k] = keys[k], keys[i] })
	return impl.WorldConfig{
		Cluster: cluster,
		Keys:    keys[:some(x, 7, 7, 7, 7, 6, 5, 3, 1)],
		Policy:  some(x, worldPolicies...),
		Master:  some(x, "m", "master", "\x00", times("m", impl.MaxKey), mixedBytes(70)),
		Bucket: impl.Bucket{
			NextId: some[int64](x, 1, 1, 1, 1, 2, 95, 999, impl.MaxTime-2, topId-4, topId),
			Kept:   true,
			Quota:  some[int64](x, 0, 0, 1, 9, topQuota),
			Rules:  some(x, nil, nil, []impl.LifeRule{ruleOf(impl.RuleExpire, "", 0), ruleOf(impl.RuleOld, "p/", 3), ruleOf(impl.RuleMarker, "", 0)}),
		},
	}
}

// worldNames are keys that share prefixes, and such as have to be escaped; one is too long to be put.
var worldNames = []string{"a", "b", "p/a", "p/b", "p/q/a", "b c", "q", "a/", "/", "\x00\xff%", times("k", impl.MaxKey), times("k", impl.MaxKey+1), "p/" + times("x", 500)}

func (x worlds) name(p *plainWorld) string {
	if len(p.bucket.List) > 0 && x.chance.Intn(3) > 0 {
		return some(x, p.bucket.List...).Key
	}
	if x.chance.Intn(6) > 0 {
		return some(x, worldNames[:9]...)
	}
	return some(x, worldNames...)
}

// number is the text of an Id that there is or may be, or one that is no number.
func (x worlds) number(p *plainWorld) string {
	if x.chance.Intn(5) == 0 {
		return some(x, "", "none", "0", "00", "01", "-1", "+1", "1.", "x", "1 1", "4102444800", "4102444801", "10000000001", "99999999999999999999")
	}
	if len(p.bucket.List) > 0 && x.chance.Intn(5) > 0 {
		return fmt.Sprint(some(x, p.bucket.List...).Id)
	}
	return fmt.Sprint(p.bucket.NextId - 2 + x.chance.Int63n(4))
}

// version makes a request ask for a version by its Id, mostly for one that there is.
func (x worlds) version(p *plainWorld, r *impl.Request) {
	if len(p.bucket.List) == 0 || x.chance.Intn(6) == 0 {
		r.Headers = append(r.Headers, impl.Pair{Name: "version", Value: x.number(p)})
		return
	}
	v := some(x, p.bucket.List...)
	r.Path = "/" + v.Key
	r.Headers = append(r.Headers, impl.Pair{Name: "version", Value: fmt.Sprint(v.Id)})
}

// condition asks for what is there, for nothing, or for something else.
func (x worlds) condition(p *plainWorld, r *impl.Request) {
	value := some(x, "none", x.number(p))
	if newest, there := plainNewest(p.bucket.List, r.Path[1:]); there && x.chance.Intn(2) == 0 {
		value = fmt.Sprint(newest.Id)
	}
	r.Headers = append(r.Headers, impl.Pair{Name: "if-id", Value: value})
}

func (x worlds) put(p *plainWorld) impl.Request {
	r := impl.Request{Method: "PUT", Path: "/" + x.name(p), Body: x.disks.bytes(some[int64](x, 0, 1, 2, 5, 9, 20, 33, 60, 113, 114, 124, 500))}
	if x.chance.Intn(4) == 0 {
		r.Headers = append(r.Headers, impl.Pair{Name: "until", Value: some(x, "0", "20", "50", "51", "80", "99", "099", "4102444800", "4102444801", "", "x")})
	}
	if x.chance.Intn(3) == 0 {
		x.condition(p, &r)
	}
	return r
}

func (x worlds) list(p *plainWorld) impl.Request {
	r := impl.Request{Method: "GET", Path: "/"}
	if x.chance.Intn(3) == 0 {
		r.Query = append(r.Query, impl.Pair{Name: "prefix", Value: some(x, "", "p/", "p", "a", "/", "no", "b ")})
	}
	if x.chance.Intn(3) > 0 {
		r.Query = append(r.Query, impl.Pair{Name: "delim", Value: some(x, "", "/", "/", "/", "a", " c", "p/")})
	}
	if x.chance.Intn(3) == 0 {
		r.Query = append(r.Query, impl.Pair{Name: "after", Value: some(x, "", "a", "b", "p/", "p/a", "\xff", x.name(p))})
	}
	x.chance.Shuffle(len(r.Query), func(i, k int) { r.Query[i], r.Query[k] = r.Query[k], r.Query[i] })
	return r
}

func (x worlds) request(p *plainWorld) impl.Request {
	var r impl.Request
	switch kind := x.chance.Intn(100); {
	case kind < 35:
		r = x.put(p)
	case kind < 62:
		r = impl.Request{Method: "GET", Path: "/" + x.name(p)}
		if x.chance.Intn(5) > 0 {
			x.version(p, &r)
		}
	case kind < 78:
		r = impl.Request{Method: "DELETE", Path: "/" + x.name(p)}
		if x.chance.Intn(2) == 0 {
			x.version(p, &r)
		}
		if x.chance.Intn(3) == 0 {
			x.condition(p, &r)
		}
	case kind < 92:
		r = x.list(p)
	default:
		r = impl.Request{Method: some(x, "PUT", "DELETE", "POST", "GETS", "GE", "HEAD", "A"), Path: some(x, "/", "/", "/a", "/p/a")}
	}
	if x.chance.Intn(3) > 0 {
		r.Headers = append(r.Headers, impl.Pair{Name: "from", Value: some(x, "10.0.0.1", "10.0.0.1", "10.", "11.10.", "")})
	}
	return r
}

// signed is a request signed by a key at about a time: in time for the most part.
func (x worlds) signed(r impl.Request, now int64) impl.Request {
	from := max(0, now-x.chance.Int63n(4))
	lasts := now - from + x.chance.Int63n(3)
	k := some(x, annKey, annKey, bobKey, cyKey, rootKey, rootKey)
	var names []string
	if len(r.Headers) > 0 && x.chance.Intn(2) == 0 {
		names = []string{r.Headers[0].Name}
	}
	switch x.chance.Intn(40) {
	case 0:
		return r
	case 1:
		from = min(now+1, impl.MaxTime)
	case 2:
		from, lasts = max(0, now-9), 0
	case 3:
		k.Secret = "!"
	case 4:
		k = some(x, impl.AccessKey{Id: "eve", Secret: "s"}, impl.AccessKey{Id: "dumb", Secret: "s"})
	}
	s := impl.SignRequest(r, k, names, from, lasts)
	switch x.chance.Intn(40) {
	case 0:
		s.Path += "a"
	case 1:
		s.Body += "a"
	case 2:
		s.Query[len(s.Query)-1].Value = some(x, "7", "07", "2147483647", "")
	case 3:
		s.Query = append(s.Query, impl.Pair{Name: "behind", Value: "x"})
	case 4:
		s.Headers = append(s.Headers, impl.Pair{Name: "unsigned", Value: "any"})
	}
	return s
}

// data are one to five requests, some of them spoiled.
func (x worlds) data(p *plainWorld, now int64) string {
	text := ""
	for range 1 + x.chance.Intn(5) {
		one := impl.WriteRequest(x.signed(x.request(p), now))
		if x.chance.Intn(40) == 0 {
			at := x.chance.Intn(len(one))
			one = some(x, one[:at], one[at:], one[:at]+"\n"+one[at:], one[:at]+"~"+one[at:])
		}
		text += one
	}
	return text
}

// bend turns three bytes of a shard so that its sum stays as it was, if that can be.
func (x worlds) bend(p *plainWorld) []impl.WorldOp {
	if len(p.cluster.objects) == 0 {
		return nil
	}
	o := some(x, p.cluster.objects...)
	number := x.chance.Intn(len(o.disks))
	shard, there := p.cluster.shard(o, number)
	id, _ := strconv.ParseInt(o.key, 10, 64)
	data := strings.Join(shard.pieces, "")
	if !there {
		return nil
	}
	for _, at := range x.chance.Perm(max(0, len(data)-2)) {
		if turns := sameSumTurns(data, at); turns != nil {
			return []impl.WorldOp{woRot(id, int64(number), int64(at), turns[0]), woRot(id, int64(number), int64(at)+1, turns[1]), woRot(id, int64(number), int64(at)+2, turns[2])}
		}
	}
	return nil
}

// sameSumTurns turn three bytes of data from a place on so that the sum stays, if they can be: the first becomes 1 more,
// the next 6 less, the last 7 more, or the other way.
func sameSumTurns(data string, at int) []int64 {
	for _, sign := range []int{1, -1} {
		var turns []int64
		for i, by := range []int{1, -6, 7} {
			was := int(data[at+i])
			if now := was + sign*by; now >= 0 && now <= 255 {
				turns = append(turns, int64(was^now))
			}
		}
		if len(turns) == 3 {
			return turns
		}
	}
	return nil
}

func (x worlds) rot(p *plainWorld) impl.WorldOp {
	op := x.disks.rot(p.cluster)
	return impl.WorldOp{Kind: impl.WoRot, Key: op.Key, Shard: op.Shard, At: op.At, Turn: op.Turn}
}

// wrong is an operation that has a fault in itself.
func (x worlds) wrong(p *plainWorld) impl.WorldOp {
	none := some[int64](x, -1, math.MinInt64, math.MaxInt64, int64(len(p.cluster.disks)))
	text := x.data(p, lettersTime)
	return some(x, impl.WorldOp{}, impl.WorldOp{Kind: 7, Time: 3, Data: text}, impl.WorldOp{Kind: -1, Data: text}, impl.WorldOp{Kind: 1<<32 + 1, Data: text}, woSend(-1, text), woSend(impl.MaxTime+1, text), woSend(math.MinInt64, text), woSend(math.MaxInt64, ""),
		woFail(none), woBack(none), woRot(0, 0, 0, 1), woRot(1, none, 0, 1), woRot(1, 0, none, 1), woRot(1, 0, 0, 0), woRot(1, 0, 0, 256), impl.WorldOp{Kind: impl.WoRot, Key: "01", Turn: 1}, impl.WorldOp{Kind: impl.WoRot, Key: "a", Turn: 1}, woRepair(-1), woRepair(1001))
}

// ops are one or some operations.
func (x worlds) ops(p *plainWorld) []impl.WorldOp {
	switch kind := x.chance.Intn(100); {
	case kind < 62 || len(p.cluster.objects) == 0 && kind < 85:
		now := some[int64](x, 0, 20, 30, 31, 40, lettersTime, lettersTime, lettersTime, 51, 60, 80, impl.MaxTime)
		return []impl.WorldOp{woSend(now, x.data(p, now))}
	case kind < 69:
		return []impl.WorldOp{woFail(x.disks.disk(p.cluster, true))}
	case kind < 75:
		return []impl.WorldOp{woBack(x.disks.disk(p.cluster, false))}
	case kind < 82:
		return []impl.WorldOp{x.rot(p)}
	case kind < 85:
		return x.bend(p)
	case kind < 91:
		return []impl.WorldOp{woRepair(x.disks.num())}
	case kind < 94:
		return []impl.WorldOp{woScrub()}
	}
	return []impl.WorldOp{x.wrong(p)}
}

// run draws operations, each with an eye to what there is then, and gives the plain run of them, too. It counts what is
// met in them.
func (x worlds) run(count int, c impl.WorldConfig, seen met) ([]impl.WorldOp, impl.WorldRun) {
	p := newPlainWorld(c)
	p.seen = seen
	var list []impl.WorldOp
	var run impl.WorldRun
	do := func(ops []impl.WorldOp) {
		for _, op := range ops {
			list = append(list, op)
			run.Outs = append(run.Outs, p.do(op))
		}
	}
	for len(list) < count {
		do(x.ops(p))
	}
	for _, k := range []impl.AccessKey{rootKey, bobKey} {
		do(woProbes(k, p.bucket))
	}
	run.Bucket = p.bucket
	return list, run
}

func TestP21DrawnWorldsAsThePlainWords(t *testing.T) {
	x := newWorlds(211)
	seen := met{}
	for i := range 500 {
		c := x.config()
		ops, want := x.run(10+x.chance.Intn(50), c, seen)
		holdWorld(t, fmt.Sprint("drawn ", i, " ", c.Cluster.Code, c.Cluster.Unit), ops, impl.RunWorld(c, ops), want)
	}
	seen.want(t, 20, "put 200", "put 400", "put 401", "put 403", "put 412", "put 507", "get 200", "get 401", "get 403", "get 404", "get 503", "list 200", "list 401", "list 403", "delete 200", "delete 401", "delete 403", "delete 404", "delete 412", "delete 423", " 400", " 401",
		"put code of the cluster 2", "put code of the cluster 7", "a prefix", "a version that goes", "a marker that goes", "made of bent shards", "check code 1", "check code 5", "check code 12", "check code 13", "judged 0", "judged 2", "read code 2", "read code 3",
		"kind 0 code 1", "kind 7 code 1", "kind 1 code 0", "kind 1 code 1", "kind 2 code 0", "kind 2 code 1", "kind 3 code 0", "kind 3 code 1", "kind 3 code 6", "kind 4 code 0", "kind 4 code 1", "kind 4 code 5", "kind 4 code 6", "kind 5 code 0", "kind 5 code 1", "kind 6 code 0")
	seen.want(t, 4, "delete 507", "kind 2 code 6")
}

// Where no shard is bent so that its sum stays, each world is held to the words of the promise.
func TestP21DrawnWorldsKeepThePromise(t *testing.T) {
	x := newWorlds(212)
	for i := range 400 {
		c := x.config()
		// Above MaxTime an Id is no number that can stand in a header.
		c.Bucket.NextId = min(c.Bucket.NextId, 1000)
		p := newPlainWorld(c)
		var ops []impl.WorldOp
		for range 10 + x.chance.Intn(40) {
			more := x.ops(p)
			if len(more) != 1 {
				continue
			}
			p.do(more[0])
			ops = append(ops, more[0])
		}
		ops = append(ops, woProbes(rootKey, p.bucket)...)
		checkPromise(t, fmt.Sprint("drawn ", i), c, ops, impl.RunWorld(c, ops).Outs)
	}
}

// The whole world behind each operation.
func TestP21DrawnWorldsBehindEachOperation(t *testing.T) {
	x := newWorlds(213)
	for i := range 20 {
		c := x.config()
		c.Policy = worldPolicies[0]
		ops, _ := x.run(25, c, met{})
		for count := range 25 {
			part := slices.Clone(ops[:count])
			bucket := impl.RunWorld(c, part).Bucket
			checkWorld(t, fmt.Sprint("drawn ", i, " up to ", count), c, append(part, woProbes(rootKey, bucket)...))
		}
	}
}

// woStep is an operation with what comes of it.
type woStep struct {
	op   impl.WorldOp
	want impl.WorldOut
}

// woTold is what comes of requests.
func woTold(lacks int64, texts ...string) impl.WorldOut {
	return impl.WorldOut{Told: strings.Join(texts, ""), Lacks: lacks}
}

func checkWorldSteps(t *testing.T, what string, c impl.WorldConfig, steps []woStep) impl.WorldRun {
	t.Helper()
	var ops []impl.WorldOp
	for _, step := range steps {
		ops = append(ops, step.op)
	}
	run := checkWorld(t, what, c, ops)
	for i, step := range steps {
		if !sameWoOut(run.Outs[i], step.want) {
			t.Errorf("%s: operation %d: %s, not %s", what, i, shortly(run.Outs[i]), shortly(step.want))
		}
	}
	return run
}

// A run whose answers are written out here.
func TestP21ARunAsKnown(t *testing.T) {
	c := worldOf(impl.Code{K: 2, M: 1}, 8, 3)
	run := checkWorldSteps(t, "known", c, []woStep{
		{woSend(10, putLetter(annKey, "p/a", "hello"), putLetter(annKey, "b c", "world", "until", "30"), getLetter(bobKey, "p/a"), getLetter(bobKey, "b c"), getLetter(annKey, "b c")),
			woTold(0, "200 1 0\n", "200 2 0\n", "200 1 5\nhello", "403 0 0\n", "200 2 5\nworld")},
		{woSend(11, putLetter(bobKey, "p/a", "second", "if-id", "1"), putLetter(bobKey, "p/a", "third", "if-id", "1"), getLetter(annKey, "p/a"), getLetter(annKey, "p/a", "version", "1")),
			woTold(0, "200 3 0\n", "412 0 0\n", "200 3 6\nsecond", "200 1 5\nhello")},
		{woSend(12, listLetter(annKey), listLetter(annKey, "delim", "/"), listLetter(annKey, "prefix", "p/"), listLetter(annKey, "after", "b c"), listLetter(bobKey)),
			woTold(0, "200 0 18\nkey b%20c\nkey p/a\n", "200 0 20\nkey b%20c\nprefix p/\n", "200 0 8\nkey p/a\n", "200 0 8\nkey p/a\n", "403 0 0\n")},
		{woSend(29, deleteLetter(annKey, "b c", "version", "2")), woTold(0, "423 0 0\n")},
		{woSend(30, deleteLetter(annKey, "b c", "version", "2"), getLetter(annKey, "b c"), getLetter(annKey, "b c", "version", "2")), woTold(0, "200 0 0\n", "404 0 0\n", "404 0 0\n")},
		{woSend(31, deleteLetter(bobKey, "p/a"), getLetter(bobKey, "p/a"), getLetter(bobKey, "p/a", "version", "3"), getLetter(bobKey, "p/a", "version", "4"), listLetter(annKey)),
			woTold(0, "200 4 0\n", "404 0 0\n", "200 3 6\nsecond", "404 0 0\n", "200 0 0\n")},
		{woFail(0), impl.WorldOut{Lacks: 2}},
		{woFail(0), impl.WorldOut{Code: impl.ErrState, Lacks: 2}},
		{woSend(32, getLetter(bobKey, "p/a", "version", "1"), putLetter(annKey, "new", "x")), woTold(2, "200 1 5\nhello", "507 0 0\n")},
		{woBack(0), impl.WorldOut{Lacks: 2}},
		{woRepair(1), impl.WorldOut{Moved: 1, Lacks: 1}},
		{woRepair(9), impl.WorldOut{Moved: 1}},
		{woRot(3, 1, 4, 255), impl.WorldOut{Lacks: 1}},
		{woScrub(), impl.WorldOut{Bent: []string{"3#1"}, Lacks: 1}},
		{woFail(impl.PlaceKey(c.Cluster.Nodes, "3", 3).Disks[0]), impl.WorldOut{Lacks: 3}},
		{woSend(33, getLetter(annKey, "p/a", "version", "3"), getLetter(annKey, "p/a", "version", "1")), woTold(3, "503 0 0\n", "200 1 5\nhello")},
	})
	want := impl.Bucket{NextId: 5, Kept: true, List: []impl.Version{{Key: "p/a", Id: 1, Time: 10}, {Key: "p/a", Id: 3, Time: 11}, {Key: "p/a", Id: 4, Marker: true, Time: 31}}}
	if !sameBucket(run.Bucket, want) {
		t.Errorf("%+v", run.Bucket)
	}
}

func TestP21ASettledWorldIsAsItSays(t *testing.T) {
	c, ops := woSettled()
	run := checkWorld(t, "settled", c, ops)
	if run.Outs[0].Told != tellAll(200, 1, 200, 2, 200, 3, 200, 4, 200, 5, 200, 6, 200, 7, 200, 0) || run.Outs[2].Lacks < 2 || len(run.Bucket.List) != 6 {
		t.Errorf("%+v", run)
	}
	for i := range ops {
		checkWorld(t, "settled", c, append(slices.Clone(ops[:i]), woProbes(annKey, run.Bucket)...))
	}
}

func TestP21ActionsOfRequests(t *testing.T) {
	for _, known := range []struct{ method, path, action string }{
		{"GET", "/", "list"}, {"GET", "/a", "get"}, {"GET", "//", "get"}, {"GET", "/\x00", "get"}, {"GET", "/a/b c?", "get"}, {"PUT", "/a", "put"}, {"PUT", "//", "put"}, {"DELETE", "/a", "delete"}, {"DELETE", "//", "delete"},
		{"PUT", "/", ""}, {"DELETE", "/", ""}, {"GET", "", ""}, {"PUT", "", ""}, {"DELETE", "", ""}, {"GET", "a", ""}, {"GET", "a/", ""}, {"GET", "?/a", ""}, {"PUT", "a/", ""}, {"DELETE", "ab", ""}, {"GET", " /", ""},
		{"", "/", ""}, {"", "/a", ""}, {"", "", ""}, {"get", "/a", ""}, {"Get", "/", ""}, {"GETS", "/a", ""}, {"GE", "/a", ""}, {"GET ", "/a", ""}, {"POST", "/a", ""}, {"HEAD", "/a", ""}, {"LIST", "/", ""}, {"put", "/a", ""}, {"delete", "/a", ""}, {"GET\x00", "/a", ""},
		{"GET", "/" + times("a", impl.MaxPath), "get"}, {"GET", "/" + times("a", impl.MaxBytes-1), "get"}, {"PUT", "/" + times("a", impl.MaxBytes-1), "put"}, {"GET", "/" + times("a", impl.MaxBytes), ""}, {"PUT", "/" + times("a", impl.MaxBytes), ""}, {"DELETE", "/" + times("a", 2*impl.MaxBytes), ""},
		{times("GET", impl.MaxBytes), "/a", ""},
	} {
		r := impl.Request{Method: known.method, Path: known.path}
		if got := impl.ActionOf(r); got != known.action {
			t.Errorf("%s: %q", shortly(known), got)
		}
		r.Query, r.Headers, r.Body = pairsOf("method", "PUT", "", ""), pairsOf("x", "y"), "DELETE"
		if got := impl.ActionOf(r); got != known.action {
			t.Errorf("%s with more: %q", shortly(known), got)
		}
	}
}

func TestP21ActionsByTheWords(t *testing.T) {
	paths := append(allTexts("/a\x00", 4), "/aGET", "a/b")
	methods := append(allTexts("GET", 3), "PUT", "DELETE", "PUTS", "ADELETE")
	for _, method := range methods {
		for _, path := range paths {
			r := impl.Request{Method: method, Path: path}
			if got := impl.ActionOf(r); got != plainAction(r) {
				t.Errorf("%q %q: %q", method, path, got)
			}
		}
	}
}

func TestP21AnswersAsTexts(t *testing.T) {
	for _, known := range []struct {
		status, id int64
		body, want string
	}{
		{200, 3, "ab", "200 3 2\nab"}, {200, 0, "", "200 0 0\n"}, {0, 0, "", "0 0 0\n"}, {404, 1 << 40, "\n\n", "404 1099511627776 2\n\n\n"}, {-1, -20, "\x00\xff ", "-1 -20 3\n\x00\xff "},
		{math.MaxInt64, math.MinInt64, "é", "9223372036854775807 -9223372036854775808 2\né"},
		{1, 2, times("x", 9), "1 2 9\nxxxxxxxxx"}, {1, 2, times("x", 10), "1 2 10\nxxxxxxxxxx"},
	} {
		if got := impl.AnswerText(known.status, known.id, known.body); got != known.want {
			t.Errorf("%s: %q", shortly(known), got)
		}
	}
	for _, size := range []int{impl.MaxBytes, impl.MaxBytes + 1, 4*impl.MaxBytes - 1, 4 * impl.MaxBytes} {
		body := mixedBytes(size)
		if got := impl.AnswerText(200, 7, body); got != fmt.Sprintf("200 7 %d\n", size)+body {
			t.Errorf("%d bytes: %d bytes", size, len(got))
		}
	}
	for _, size := range []int{4*impl.MaxBytes + 1, 4*impl.MaxBytes + 2, 8 * impl.MaxBytes} {
		if got := impl.AnswerText(200, 7, times("x", size)); got != "" {
			t.Errorf("%d bytes: %d bytes", size, len(got))
		}
	}
}

// loseShards fails the disks of some shards of an object, or rots the shards, or does either in turn.
func loseShards(id int64, disks []int64, have []bool, way int) []impl.WorldOp {
	var ops []impl.WorldOp
	for number, there := range have {
		switch {
		case there:
		case way == 0 || way == 2 && number%2 == 0:
			ops = append(ops, woFail(disks[number]))
		default:
			ops = append(ops, woRot(id, int64(number), 3, 1+int64(number)))
		}
	}
	return ops
}

// With any number of disks lost up to what the code bears, what was put is read back; with one more it is not.
func TestP21AsManyDisksLostAsTheCodeBears(t *testing.T) {
	x := newWorlds(214)
	for _, code := range []impl.Code{{K: 1}, {K: 1, M: 1}, {K: 1, M: 16}, {K: 2, M: 1}, {K: 3, M: 2}, {K: 4, M: 3}, {K: 10, M: 4}, {K: 32}, {K: 32, M: 16}} {
		size := int(impl.CodeSize(code))
		c := worldOf(code, 16, size)
		put := woSend(10, putLetter(annKey, "a", "of one"), putLetter(annKey, "a", ""), putLetter(annKey, "b", mixedBytes(300)))
		get := woSend(11, getLetter(annKey, "a", "version", "1"), getLetter(bobKey, "a"), getLetter(annKey, "a"), getLetter(annKey, "b"))
		whole := plainAnswer(200, 1, "of one") + plainAnswer(403, 0, "") + plainAnswer(200, 2, "") + plainAnswer(200, 3, mixedBytes(300))
		for range 3 {
			ops := []impl.WorldOp{put, get}
			for _, disk := range x.chance.Perm(size)[:code.M+1] {
				ops = append(ops, woFail(int64(disk)), get)
			}
			run := impl.RunWorld(c, ops)
			for lost := range code.M + 1 {
				if out := run.Outs[1+2*lost]; out.Told != whole || out.Lacks != 3*lost {
					t.Errorf("%v: with %d lost: %s", code, lost, shortly(out))
				}
			}
			if out := run.Outs[3+2*code.M]; out.Told != tellAll(503, 0, 403, 0, 503, 0, 503, 0) || out.Lacks != 3*(code.M+1) {
				t.Errorf("%v: with one more lost: %s", code, shortly(out))
			}
		}
	}
}

// All ways to lose shards of small codes, the most of them with groups.
func TestP21AnyShardsLost(t *testing.T) {
	for _, code := range smallCodes {
		c := worldOf(code, 9, int(impl.CodeSize(code)))
		disks := impl.PlaceKey(c.Cluster.Nodes, "1", impl.CodeSize(code)).Disks
		for i, have := range subsets(impl.CodeSize(code)) {
			ops := []impl.WorldOp{woSend(10, putLetter(annKey, "k", "some bytes"))}
			ops = append(ops, loseShards(1, disks, have, i%3)...)
			ops = append(ops, woSend(11, getLetter(annKey, "k")))
			run := checkWorld(t, fmt.Sprint(code, have), c, ops)
			last := run.Outs[len(ops)-1]
			if (last.Told == plainAnswer(200, 1, "some bytes")) == (last.Told == tellAll(503, 0)) || last.Lacks != int64(len(have))-countTrue(have) {
				t.Errorf("%v %v: %s", code, have, shortly(last))
			}
		}
	}
}

// What is repaired ahead of the next loss is never lost, and what is lost comes back no more.
func TestP21RepairedInTime(t *testing.T) {
	c := worldOf(impl.Code{K: 3, M: 2}, 8, 9)
	bodies := []string{"", "a", mixedBytes(100), times("x", 50)}
	var put, get []string
	whole := ""
	for i, body := range bodies {
		put = append(put, putLetter(annKey, rowKey(i), body))
		get = append(get, getLetter(annKey, rowKey(i)))
		whole += plainAnswer(200, int64(i)+1, body)
	}
	ops := []impl.WorldOp{woSend(1, put...)}
	for round := range int64(12) {
		a, b := round*2%9, (round*2+1)%9
		ops = append(ops, woFail(a), woRot(1+round%4, round%5, 5, 9), woScrub(), woRepair(clAll), woFail(b), woRepair(clAll), woSend(2, get...), woBack(a), woBack(b))
	}
	run := checkWorld(t, "repaired", c, ops)
	for i, op := range ops[1:] {
		if op.Kind == impl.WoSend && run.Outs[i+1].Told != whole {
			t.Errorf("operation %d: %s", i+1, shortly(run.Outs[i+1]))
		}
	}
	ops = append(ops[:1:1], woFail(0), woFail(1), woFail(2), woFail(3), woFail(4), woFail(5), woFail(6), woRepair(clAll), woSend(3, get...))
	for disk := range int64(7) {
		ops = append(ops, woBack(disk))
	}
	ops = append(ops, woRepair(clAll), woSend(3, get...), woSend(3, putLetter(annKey, "a", "new"), getLetter(annKey, "a")))
	run = checkWorld(t, "lost", c, ops)
	if out := run.Outs[len(ops)-2]; out.Told != tellAll(503, 0, 503, 0, 503, 0, 503, 0) {
		t.Error(shortly(out))
	}
	if out := run.Outs[len(ops)-1]; out.Told != "200 5 0\n200 5 3\nnew" {
		t.Error(shortly(out))
	}
}

// What stands in the cluster is what the document says, byte by byte: only then do these turns leave the sum as it was.
// What the disks give is opened then, and told if it is what was sealed, and as lost if not.
func TestP21TheBytesStandSealed(t *testing.T) {
	turned, refused := 0, 0
	for _, known := range []struct {
		master string
		id     int64
		body   string
		unit   int64
	}{
		{"m", 1, "", 40}, {"m", 1, "some bytes", 40}, {"another", 12345, "some bytes", 64}, {times("m", impl.MaxKey), 1, mixedBytes(200), 100}, {"\x00", topId - 1, mixedBytes(124), 160}, {"m", 7, mixedBytes(123), 160}, {"m", 7, mixedBytes(20000), 4096},
	} {
		c := worldOf(impl.Code{K: 1}, known.unit, 1)
		c.Master, c.Bucket.NextId = known.master, known.id
		held := plainHeld(known.master, known.id, known.body)
		size := len(held)
		held += times("\x00", (int(known.unit)-size%int(known.unit))%int(known.unit))
		put := woSend(10, putLetter(annKey, "k", known.body))
		for at := 0; at < len(held)-2; at += 1 + len(held)/200 {
			turns := sameSumTurns(held, at)
			if turns == nil {
				continue
			}
			turned++
			ops := []impl.WorldOp{put}
			for i, turn := range turns {
				ops = append(ops, woRot(known.id, 0, int64(at+i), turn))
			}
			run := impl.RunWorld(c, append(ops, woScrub(), woSend(11, getLetter(annKey, "k"))))
			if run.Outs[1].Lacks != 1 || run.Outs[2].Lacks != 1 || run.Outs[3].Lacks != 0 || len(run.Outs[4].Bent) != 0 {
				t.Errorf("%s at %d: %s", shortly(known), at, shortly(run.Outs))
			}
			// What is sealed has a sum of its own, which may stay as it was, too.
			bent := []byte(held[:size])
			for i, turn := range turns {
				if at+i < size {
					bent[at+i] ^= byte(turn)
				}
			}
			want := tellAll(503, 0)
			if body, ok := plainUnheld(known.master, known.id, string(bent)); ok {
				want = plainAnswer(200, known.id, body)
			} else {
				refused++
			}
			if run.Outs[5].Told != want {
				t.Errorf("%s at %d: %s", shortly(known), at, shortly(run.Outs[5]))
			}
		}
		// Behind the last byte there is none that could rot.
		run := impl.RunWorld(c, []impl.WorldOp{put, woRot(known.id, 0, int64(len(held)), 1), woRot(known.id, 0, int64(len(held))-1, 1), woRot(known.id, 0, int64(len(held))-1, 1), woSend(11, getLetter(annKey, "k"))})
		if run.Outs[1].Code != impl.ErrForm || run.Outs[2].Lacks != 1 || run.Outs[3].Lacks != 0 || run.Outs[4].Told != plainAnswer(200, known.id, known.body) {
			t.Errorf("%s: %s", shortly(known), shortly(run.Outs))
		}
	}
	if turned < 300 || refused < 200 {
		t.Errorf("only %d times turned, and %d refused", turned, refused)
	}
}

// paddingTurns are what five of the last bytes of data, which are zeros, have to become to make up for another one being
// turned: each adds itself to the sum times as many factors as there are bytes behind it.
func paddingTurns(data string, at int, turn byte, behind [5]int) []int64 {
	bent := data[:at] + string([]byte{data[at] ^ turn}) + data[at+1:]
	wanted := impl.SumOf(data, 4) - impl.SumOf(bent, 4) + impl.SumPrime
	var weights [5]int64
	for i, count := range behind {
		weights[i] = 1
		for range count {
			weights[i] = weights[i] * 65539 % impl.SumPrime
		}
	}
	ends := map[int64][]int64{}
	for i := range int64(1 << 16) {
		ends[(i/256*weights[3]+i%256*weights[4])%impl.SumPrime] = []int64{i / 256, i % 256}
	}
	for i := range int64(1 << 24) {
		a, b, c := i/65536, i/256%256, i%256
		added := (a*weights[0] + b*weights[1] + c*weights[2]) % impl.SumPrime
		if end, ok := ends[(wanted+impl.SumPrime-added)%impl.SumPrime]; ok {
			return append([]int64{a, b, c}, end...)
		}
	}
	return nil
}

// How many bytes there are stands with them: where that is another number, they are not so made.
func TestP21TheNumberOfBytesCounts(t *testing.T) {
	c := worldOf(impl.Code{K: 1}, 96, 1)
	behind := [5]int{40, 31, 22, 9, 0}
	tried := 0
	for id := int64(1); id < 4; id++ {
		c.Bucket.NextId = id
		held := plainHeld(c.Master, id, "some bytes of a text")
		data := held + times("\x00", 96-len(held))
		place := len(impl.PutText(plainSeal(c.Master, fmt.Sprint("k", id), id, "").Wrapped))
		for _, turn := range []byte{1, 16, 0x7f} {
			turns := paddingTurns(data, place, turn, behind)
			if turns == nil {
				continue
			}
			tried++
			ops := []impl.WorldOp{woSend(10, putLetter(annKey, "k", "some bytes of a text")), woRot(id, 0, int64(place), int64(turn))}
			for i, by := range turns {
				if by > 0 {
					ops = append(ops, woRot(id, 0, int64(95-behind[i]), by))
				}
			}
			run := checkWorld(t, "bent", c, append(ops, woSend(11, getLetter(annKey, "k"))))
			if last := run.Outs[len(ops)]; last.Lacks != 0 || last.Told != tellAll(503, 0) {
				t.Errorf("version %d by %d: %s", id, turn, shortly(last))
			}
		}
	}
	if tried < 5 {
		t.Errorf("only %d could be tried", tried)
	}
}

// A right request is answered from its time on for as long as it lasts, and at no other time.
func TestP21SignedInTimeAlone(t *testing.T) {
	for _, span := range [][2]int64{{20, 30}, {20, 0}, {0, 0}, {0, 5}, {0, impl.MaxTime}, {impl.MaxTime, 0}, {impl.MaxTime, impl.MaxTime}, {impl.MaxTime - 1, 1}, {7, impl.MaxTime}} {
		from, until := span[0], span[0]+span[1]
		text := impl.WriteRequest(impl.SignRequest(impl.Request{Method: "PUT", Path: "/k", Body: "x"}, annKey, nil, from, span[1]))
		for _, now := range []int64{0, 1, from - 1, from, from + 1, until - 1, until, until + 1, impl.MaxTime - 1, impl.MaxTime} {
			if now < 0 || now > impl.MaxTime {
				continue
			}
			if from <= now && now <= until {
				run := checkWorld(t, "in time", smallWorld(), []impl.WorldOp{woSend(now, text)})
				if run.Outs[0].Told != tellAll(200, 1) || run.Bucket.List[0].Time != now {
					t.Errorf("%v at %d: %s", span, now, shortly(run))
				}
			} else {
				checkTold(t, fmt.Sprint(span, " at ", now), smallWorld(), nil, now, text, tellAll(401, 0))
			}
		}
	}
}

// The times that are none answer ErrForm, and nothing is looked at.
func TestP21TimesThatAreNone(t *testing.T) {
	c, ops := woSettled()
	text := putLetter(annKey, "new", "x")
	for _, now := range []int64{-1, -2, impl.MaxTime + 1, impl.MaxTime + 2, 1 << 40, math.MinInt64, math.MaxInt64} {
		for _, data := range []string{text, "", "ill", text + text} {
			if out := checkUnchanged(t, "no time", c, ops, woSend(now, data)); out.Code != impl.ErrForm || out.Told != "" {
				t.Errorf("%d: %s", now, shortly(out))
			}
		}
	}
	for _, now := range []int64{0, 1, impl.MaxTime - 1, impl.MaxTime} {
		if run := checkWorld(t, "a time", c, append(slices.Clone(ops), woSend(now, text, getLetter(annKey, "new")))); run.Outs[len(ops)].Told != "200 8 0\n200 8 1\nx" {
			t.Errorf("%d: %s", now, shortly(run.Outs[len(ops)]))
		}
	}
	// What is no request is none at any time; neither is nothing.
	checkTold(t, "nothing", c, ops, 0, "", "")
	checkTold(t, "nothing", c, ops, impl.MaxTime, "", "")
}

// Nothing is answered that is not signed by one of the keys, just as it was signed.
func TestP21NotSigned(t *testing.T) {
	c, ops := woSettled()
	refuse := func(what string, r impl.Request) {
		t.Helper()
		text := impl.WriteRequest(r)
		if text == "" {
			t.Fatalf("%s: no right request", what)
		}
		checkTold(t, what, c, ops, lettersTime, text, tellAll(401, 0))
	}
	for _, own := range []impl.Request{
		{Method: "PUT", Path: "/k", Body: "new"}, {Method: "GET", Path: "/k"}, {Method: "DELETE", Path: "/k"}, {Method: "GET", Path: "/"}, {Method: "GET", Path: "/", Query: pairsOf("prefix", "p")}, {Method: "DELETE", Path: "/k", Headers: pairsOf("version", "2")}, {Method: "POST", Path: "/k"}, {Method: "GET", Path: "/none"},
	} {
		refuse("not signed", own)
		for name, k := range map[string]impl.AccessKey{"another secret": {Id: "ann", Secret: "S"}, "a longer secret": {Id: "ann", Secret: "ss"}, "of bob": {Id: "ann", Secret: bobKey.Secret}, "no such key": {Id: "eve", Secret: "s"}, "a longer Id": {Id: "anna", Secret: "s"}, "another Id": {Id: "an", Secret: "s"}} {
			refuse(name, impl.SignRequest(own, k, nil, 0, impl.MaxTime))
		}
		right := impl.SignRequest(own, annKey, nil, 0, impl.MaxTime)
		for change, make := range map[string]func(*impl.Request){
			"longer path": func(r *impl.Request) { r.Path += "k" }, "other method": func(r *impl.Request) { r.Method += "X" }, "other body": func(r *impl.Request) { r.Body += "x" }, "query ahead": func(r *impl.Request) { r.Query = append(pairsOf("delim", "/"), r.Query...) },
			"query behind": func(r *impl.Request) { r.Query = append(r.Query, impl.Pair{Name: "after", Value: "k"}) }, "no sum": func(r *impl.Request) { r.Query = r.Query[:len(r.Query)-1] }, "other sum": func(r *impl.Request) { r.Query[len(r.Query)-1].Value = "5" }, "longer": func(r *impl.Request) { r.Query[len(r.Query)-3].Value = "4102444799" }, "as bob": func(r *impl.Request) { r.Query[len(r.Query)-5].Value = "bob" },
		} {
			r := right
			r.Query = slices.Clone(right.Query)
			make(&r)
			refuse(change, r)
		}
	}
	// Each letter of the Path turned into each other one.
	right := impl.SignRequest(impl.Request{Method: "DELETE", Path: "/locked/k2"}, annKey, nil, 0, impl.MaxTime)
	eachLetter(right.Path, "abcdefghijklmnopqrstuvwxyz0123456789", func(turned string) {
		r := right
		r.Path = turned
		if got := impl.RunWorld(c, []impl.WorldOp{woSend(lettersTime, impl.WriteRequest(r))}); got.Outs[0].Told != tellAll(401, 0) {
			t.Errorf("%q: %s", turned, shortly(got.Outs[0]))
		}
	})
	// A header that is signed counts, one that is not does not.
	signed := impl.SignRequest(impl.Request{Method: "PUT", Path: "/k", Headers: pairsOf("if-id", "none", "until", "5")}, annKey, []string{"if-id"}, 0, impl.MaxTime)
	checkTold(t, "as it was signed", c, ops, lettersTime, impl.WriteRequest(signed), tellAll(412, 0))
	signed.Headers = pairsOf("if-id", "none", "until", "9")
	checkTold(t, "a header that is not signed", c, ops, lettersTime, impl.WriteRequest(signed), tellAll(412, 0))
	signed.Headers = pairsOf("if-id", "1", "until", "5")
	refuse("a header that is signed", signed)
	// Without its key nothing of a world is answered.
	c.Keys = []impl.AccessKey{bobKey}
	refuse("no key of ann", right)
	c.Keys = nil
	for _, text := range []string{putLetter(annKey, "k", "x"), getLetter(bobKey, "p/a"), listLetter(annKey), deleteLetter(annKey, "k")} {
		if run := checkWorld(t, "no keys", c, []impl.WorldOp{woSend(lettersTime, text)}); run.Outs[0].Told != tellAll(401, 0) {
			t.Error(shortly(run.Outs[0]))
		}
	}
}

// Each of the policies, with who asks for what, from where and when.
func TestP21AllowedAndDenied(t *testing.T) {
	c := smallWorld()
	c.Keys = []impl.AccessKey{annKey, bobKey, cyKey, rootKey}
	put := woSend(10, putLetter(rootKey, "p/a", "x"), putLetter(rootKey, "q", "y"))
	ahead := "allow who root do put on * before 11\n"
	for _, known := range []struct {
		policy string
		now    int64
		text   string
		status int64
	}{
		// By who.
		{"allow who ann do * on *", 20, getLetter(annKey, "q"), 200}, {"allow who ann do * on *", 20, getLetter(bobKey, "q"), 403}, {"allow who a?n,c* do * on *", 20, getLetter(cyKey, "q"), 200}, {"allow who c* do * on *", 20, getLetter(annKey, "q"), 403}, {"allow who anna,an,ann? do * on *", 20, getLetter(annKey, "q"), 403},
		// By what.
		{"allow who * do get on *", 20, getLetter(annKey, "q"), 200}, {"allow who * do get on *", 20, putLetter(annKey, "q", ""), 403}, {"allow who * do get on *", 20, deleteLetter(annKey, "q"), 403}, {"allow who * do get on *", 20, listLetter(annKey), 403},
		{"allow who * do put on *", 20, putLetter(annKey, "q", ""), 200}, {"allow who * do put on *", 20, getLetter(annKey, "q"), 403}, {"allow who * do list on *", 20, listLetter(annKey), 200}, {"allow who * do list on *", 20, getLetter(annKey, "q"), 403}, {"allow who * do delete on *", 20, deleteLetter(annKey, "q"), 200}, {"allow who * do delete on *", 20, putLetter(annKey, "q", ""), 403}, {"allow who * do GET,PUT on *", 20, getLetter(annKey, "q"), 403},
		// By which: the Path without its first byte, and of a list nothing.
		{"allow who * do * on p/*", 20, getLetter(annKey, "p/a"), 200}, {"allow who * do * on p/*", 20, getLetter(annKey, "q"), 403}, {"allow who * do * on /p/*", 20, getLetter(annKey, "p/a"), 403}, {"allow who * do * on ?", 20, getLetter(annKey, "q"), 200}, {"allow who * do * on ?", 20, getLetter(annKey, "p/a"), 403}, {"allow who * do * on ?*", 20, listLetter(annKey), 403}, {"allow who * do * on /", 20, listLetter(annKey), 403}, {"allow who * do * on **", 20, listLetter(annKey), 200},
		{"allow who * do * on * prefix p", 20, getLetter(annKey, "p/a"), 200}, {"allow who * do * on * prefix p", 20, getLetter(annKey, "q"), 403}, {"allow who * do * on * prefix p", 20, listLetter(annKey, "prefix", "p"), 403},
		// By from where: the header, and without one nothing.
		{"allow who * do * on * from 10.*", 20, getLetter(annKey, "q", "from", "10.1"), 200}, {"allow who * do * on * from 10.*", 20, getLetter(annKey, "q", "from", "110.1"), 403}, {"allow who * do * on * from 10.*", 20, getLetter(annKey, "q"), 403}, {"allow who * do * on * from *", 20, getLetter(annKey, "q"), 200}, {"allow who * do * on * from ?*", 20, getLetter(annKey, "q"), 403}, {"allow who * do * on * from ?*", 20, getLetter(annKey, "q", "from", "x"), 200}, {"allow who * do * on * from x", 20, getLetter(annKey, "q", "from-", "y", "from", "x"), 200},
		{"allow who * do * on * from a", 20, letter(annKey, impl.Request{Method: "GET", Path: "/q", Query: pairsOf("from", "a")}), 403}, {"allow who * do * on * from a", 20, getLetter(annKey, "q", "from-a", "a"), 403},
		// By when.
		{"allow who * do * on * before 20", 19, getLetter(annKey, "q"), 200}, {"allow who * do * on * before 20", 20, getLetter(annKey, "q"), 403}, {"allow who * do * on * after 20", 20, getLetter(annKey, "q"), 403}, {"allow who * do * on * after 20", 21, getLetter(annKey, "q"), 200}, {"allow who * do * on * after 20 before 22", 21, getLetter(annKey, "q"), 200}, {"allow who * do * on * after 20 before 21", 21, getLetter(annKey, "q"), 403},
		// Denied, and allowed by none.
		{"", 20, getLetter(annKey, "q"), 403}, {"allow who * do * on *\ndeny who ann do * on *", 20, getLetter(annKey, "q"), 403}, {"deny who ann do * on *\nallow who * do * on *", 20, getLetter(annKey, "q"), 403}, {"deny who ann do * on *\nallow who * do * on *", 20, getLetter(bobKey, "q"), 200}, {"deny who ann do * on *", 20, getLetter(bobKey, "q"), 403}, {"allow who * do * on *\ndeny who * do put on p/* from x", 20, putLetter(annKey, "p/a", "", "from", "x"), 403}, {"allow who * do * on *\ndeny who * do put on p/* from x", 20, putLetter(annKey, "p/a", "", "from", "y"), 200},
		{"allow who * do * on *\ndeny who * do * on * after 19 before 21", 20, listLetter(bobKey), 403}, {"allow who * do * on *\ndeny who * do * on * after 19 before 21", 21, listLetter(bobKey), 200},
	} {
		c.Policy = ahead + known.policy
		run := checkWorld(t, known.policy, c, []impl.WorldOp{put, woSend(known.now, known.text)})
		if run.Outs[0].Told != tellAll(200, 1, 200, 2) || repliesIn(t, run.Outs[1].Told)[0].status != known.status {
			t.Errorf("%q at %d, %.60q: %s", known.policy, known.now, known.text, shortly(run.Outs))
		}
		if known.status == 403 && (run.Outs[1].Told != tellAll(403, 0) || run.Bucket.NextId != 3 || len(run.Bucket.List) != 2) {
			t.Errorf("%q at %d, %.60q: %s", known.policy, known.now, known.text, shortly(run))
		}
	}
}

// Where a request has several faults, the one told first is answered.
func TestP21TheFirstStatus(t *testing.T) {
	c, ops := woSettled()
	late := func(k impl.AccessKey, r impl.Request) string {
		return impl.WriteRequest(impl.SignRequest(r, k, nil, 0, lettersTime-1))
	}
	post := impl.Request{Method: "POST", Path: "/k"}
	long := times("k", impl.MaxKey+1)
	most := times("x", 200*16)
	for name, known := range map[string]struct {
		text string
		want string
	}{
		"ill ahead of all":               {late(annKey, post)[1:] + "\x00\n", tellAll(401, 0, 400, 0)},
		"ill":                            {"~" + late(bobKey, post), tellAll(400, 0)},
		"late, no action":                {late(annKey, post), tellAll(401, 0)},
		"late, denied":                   {late(bobKey, impl.Request{Method: "GET", Path: "/k"}), tellAll(401, 0)},
		"late, not there":                {late(annKey, impl.Request{Method: "GET", Path: "/none"}), tellAll(401, 0)},
		"not signed, no action":          {impl.WriteRequest(post), tellAll(401, 0)},
		"no action, denied":              {letter(bobKey, post), tellAll(400, 0)},
		"no action":                      {letter(annKey, post), tellAll(400, 0)},
		"put of /":                       {letter(annKey, impl.Request{Method: "PUT", Path: "/"}), tellAll(400, 0)},
		"delete of /":                    {letter(bobKey, impl.Request{Method: "DELETE", Path: "/"}), tellAll(400, 0)},
		"denied, not there":              {getLetter(bobKey, "none"), tellAll(403, 0)},
		"denied, ill key":                {putLetter(bobKey, long, ""), tellAll(403, 0)},
		"denied, stale":                  {putLetter(bobKey, "k", "", "if-id", "none"), tellAll(403, 0)},
		"denied, locked":                 {deleteLetter(bobKey, "locked", "version", "3"), tellAll(403, 0)},
		"an ill key, stale":              {putLetter(annKey, long, "", "if-id", "7"), tellAll(400, 0)},
		"an ill key, too many bytes":     {putLetter(annKey, long, most), tellAll(400, 0)},
		"stale, too many bytes":          {putLetter(annKey, "k", most, "if-id", "1"), tellAll(412, 0)},
		"there, too many bytes":          {putLetter(annKey, "k", most, "if-id", "none"), tellAll(412, 0)},
		"too many bytes":                 {putLetter(annKey, "k", most), tellAll(507, 0)},
		"stale, not there":               {deleteLetter(annKey, "none", "if-id", "1"), tellAll(412, 0)},
		"not there":                      {deleteLetter(annKey, "none"), tellAll(404, 0)},
		"not there, if none":             {deleteLetter(annKey, "none", "if-id", "none"), tellAll(404, 0)},
		"there, if none":                 {deleteLetter(annKey, "k", "if-id", "none"), tellAll(412, 0)},
		"deleted":                        {deleteLetter(annKey, "gone"), tellAll(404, 0)},
		"no such version":                {deleteLetter(annKey, "k", "version", "3"), tellAll(404, 0)},
		"no such version, stale":         {deleteLetter(annKey, "k", "version", "3", "if-id", "1"), tellAll(404, 0)},
		"locked":                         {deleteLetter(annKey, "locked", "version", "3"), tellAll(423, 0)},
		"locked, of another key":         {deleteLetter(annKey, "k", "version", "3"), tellAll(404, 0)},
		"locked, stale":                  {deleteLetter(annKey, "locked", "version", "3", "if-id", "none"), tellAll(423, 0)},
		"a version that has gone":        {getLetter(annKey, "k2", "version", "7"), tellAll(404, 0)},
		"a marker":                       {getLetter(annKey, "gone", "version", "5"), tellAll(404, 0)},
		"a version of another key":       {getLetter(annKey, "k", "version", "3"), tellAll(404, 0)},
		"of a key that is too long":      {getLetter(annKey, long), tellAll(404, 0)},
		"delete of one that is too long": {deleteLetter(annKey, long), tellAll(404, 0)},
	} {
		checkTold(t, name, c, ops, lettersTime, known.text, known.want)
	}
	// Lost, but by another one's rights or a version that there is not.
	lost := append(slices.Clone(ops), woFail(0), woFail(1), woFail(3))
	for name, known := range map[string]struct {
		text string
		want string
	}{
		"denied and lost": {getLetter(bobKey, "k"), tellAll(403, 0)}, "late and lost": {late(annKey, impl.Request{Method: "GET", Path: "/k"}), tellAll(401, 0)}, "not there": {getLetter(annKey, "none"), tellAll(404, 0)}, "lost": {getLetter(annKey, "k"), tellAll(503, 0)}, "the newest": {getLetter(bobKey, "p/a"), tellAll(503, 0)}, "stale, and no place": {putLetter(annKey, "k", "", "if-id", "1"), tellAll(412, 0)}, "no place": {putLetter(annKey, "k", ""), tellAll(507, 0)},
	} {
		checkTold(t, name, c, lost, lettersTime, known.text, known.want)
	}
}

// Numbers in headers: from 0 to MaxTime, in one writing each; what is none counts as 0.
func TestP21NumbersInHeaders(t *testing.T) {
	numbers := map[string]int64{"0": 0, "1": 1, "2": 2, "9": 9, "10": 10, "90": 90, "4102444799": impl.MaxTime - 1, "4102444800": impl.MaxTime}
	for _, none := range []string{"", "00", "01", "02", "007", "+1", "-1", "-0", "1 1", "1.", "1.0", "1e1", "0x1", "1_0", "a", "one", "None", "NONE", "none.", "4102444801", "4102444810", "9999999999", "10000000000", "18446744073709551617", "9223372036854775808", "4294967297", times("1", 1000), "1,2", "'1'"} {
		numbers[none] = 0
	}
	c := smallWorld()
	ahead := woSend(10, putLetter(annKey, "k", "1"), putLetter(annKey, "k", "22"))
	for text, number := range numbers {
		run := checkWorld(t, "until "+text, c, []impl.WorldOp{woSend(10, putLetter(annKey, "k", "x", "until", text))})
		if run.Outs[0].Told != tellAll(200, 1) || run.Bucket.List[0].Until != number {
			t.Errorf("until %.40q: %s", text, shortly(run))
		}
		run = checkWorld(t, "version "+text, c, []impl.WorldOp{ahead, woSend(11, getLetter(annKey, "k", "version", text))})
		want := map[int64]string{0: plainAnswer(200, 2, "22"), 1: plainAnswer(200, 1, "1"), 2: plainAnswer(200, 2, "22")}[number]
		if want == "" {
			want = tellAll(404, 0)
		}
		if run.Outs[1].Told != want {
			t.Errorf("version %.40q: %s", text, shortly(run.Outs[1]))
		}
		// A delete: of the key, of a version, or of none such.
		run = checkWorld(t, "delete "+text, c, []impl.WorldOp{ahead, woSend(11, deleteLetter(annKey, "k", "version", text))})
		want = map[int64]string{0: tellAll(200, 3), 1: tellAll(200, 0), 2: tellAll(200, 0)}[number]
		if want == "" {
			want = tellAll(404, 0)
		}
		if run.Outs[1].Told != want {
			t.Errorf("delete of version %.40q: %s", text, shortly(run.Outs[1]))
		}
		for _, letter := range []string{putLetter(annKey, "k", "x", "if-id", text), deleteLetter(annKey, "k", "if-id", text)} {
			run = checkWorld(t, "if-id "+text, c, []impl.WorldOp{ahead, woSend(11, letter)})
			want = tellAll(412, 0)
			if number == 0 || number == 2 {
				want = tellAll(200, 3)
			}
			if run.Outs[1].Told != want {
				t.Errorf("if-id %.40q: %s", text, shortly(run.Outs[1]))
			}
		}
	}
	// None in the others is no number.
	run := checkWorld(t, "none", c, []impl.WorldOp{ahead, woSend(11, getLetter(annKey, "k", "version", "none"), putLetter(annKey, "k", "x", "until", "none"), putLetter(annKey, "new", "x", "if-id", "none"), deleteLetter(annKey, "new", "version", "none"))})
	if run.Outs[1].Told != "200 2 2\n22"+tellAll(200, 3, 200, 4, 200, 5) || run.Bucket.List[2].Until != 0 {
		t.Error(shortly(run))
	}
	// Headers of other names, and pairs of the Query, are none of these.
	r := impl.Request{Method: "GET", Path: "/k", Query: pairsOf("version", "1", "if-id", "7"), Headers: pairsOf("versions", "1", "if-idd", "none", "x-version", "1")}
	run = checkWorld(t, "other names", c, []impl.WorldOp{ahead, woSend(11, letter(annKey, r))})
	if run.Outs[1].Told != "200 2 2\n22" {
		t.Error(shortly(run))
	}
	r = impl.Request{Method: "PUT", Path: "/k", Query: pairsOf("if-id", "7", "until", "90"), Headers: pairsOf("version", "1", "prefix", "p")}
	run = checkWorld(t, "other names", c, []impl.WorldOp{ahead, woSend(11, letter(annKey, r))})
	if run.Outs[1].Told != tellAll(200, 3) || run.Bucket.List[2].Until != 0 {
		t.Error(shortly(run))
	}
}

// Conditions hold or do not, for puts and for deletes.
func TestP21Conditions(t *testing.T) {
	c := smallWorld()
	for name, known := range map[string]struct {
		text string
		want string
	}{
		"one of many holds":       {putLetter(annKey, "k", "a", "if-id", "none") + putLetter(annKey, "k", "b", "if-id", "none") + putLetter(annKey, "k", "c", "if-id", "1") + putLetter(annKey, "k", "d", "if-id", "1") + getLetter(annKey, "k"), tellAll(200, 1, 412, 0, 200, 2, 412, 0) + "200 2 1\nc"},
		"none behind a delete":    {putLetter(annKey, "k", "a") + deleteLetter(annKey, "k", "if-id", "1") + putLetter(annKey, "k", "b", "if-id", "2") + putLetter(annKey, "k", "c", "if-id", "none"), tellAll(200, 1, 200, 2, 412, 0, 200, 3)},
		"of a key that is not":    {putLetter(annKey, "k", "a", "if-id", "1") + deleteLetter(annKey, "k", "if-id", "1"), tellAll(412, 0, 412, 0)},
		"a delete that is stale":  {putLetter(annKey, "k", "a") + putLetter(annKey, "k", "b") + deleteLetter(annKey, "k", "if-id", "1") + deleteLetter(annKey, "k", "if-id", "2") + deleteLetter(annKey, "k", "if-id", "3"), tellAll(200, 1, 200, 2, 412, 0, 200, 3, 412, 0)},
		"by version it is nought": {putLetter(annKey, "k", "a") + putLetter(annKey, "k", "b") + deleteLetter(annKey, "k", "version", "1", "if-id", "none") + deleteLetter(annKey, "k", "version", "2", "if-id", "9"), tellAll(200, 1, 200, 2, 200, 0, 200, 0)},
		"a stale put keeps no Id": {putLetter(annKey, "k", "a") + putLetter(annKey, "k", "b", "if-id", "9") + putLetter(annKey, "k", "c", "if-id", "1"), tellAll(200, 1, 412, 0, 200, 2)},
	} {
		run := checkWorld(t, name, c, []impl.WorldOp{woSend(10, known.text)})
		if run.Outs[0].Told != known.want {
			t.Errorf("%s: %q", name, run.Outs[0].Told)
		}
	}
}

// A version that is locked does not go until its time, but may be hidden.
func TestP21Locks(t *testing.T) {
	c := smallWorld()
	put := woSend(10, putLetter(annKey, "k", "kept", "until", "90"), putLetter(annKey, "k", "free"), putLetter(annKey, "l", "just", "until", "10"))
	away := deleteLetter(annKey, "k", "version", "1")
	read := getLetter(annKey, "k", "version", "1")
	for _, now := range []int64{0, 10, 11, 89, 90, 91, impl.MaxTime} {
		run := checkWorld(t, "locked", c, []impl.WorldOp{put, woSend(now, away, read)})
		want := tellAll(423, 0) + plainAnswer(200, 1, "kept")
		if now >= 90 {
			want = tellAll(200, 0, 404, 0)
		}
		if run.Outs[1].Told != want {
			t.Errorf("at %d: %q", now, run.Outs[1].Told)
		}
	}
	run := checkWorld(t, "hidden", c, []impl.WorldOp{put, woSend(20, deleteLetter(annKey, "k"), deleteLetter(annKey, "k", "version", "2"), deleteLetter(annKey, "k", "version", "4"), read, getLetter(annKey, "k"), deleteLetter(annKey, "l", "version", "3"))})
	if run.Outs[1].Told != tellAll(200, 4, 200, 0, 200, 0)+plainAnswer(200, 1, "kept")+plainAnswer(200, 1, "kept")+tellAll(200, 0) {
		t.Errorf("%q", run.Outs[1].Told)
	}
}

// A version that goes leaves the cluster, one that is only hidden does not.
func TestP21WhatGoesLeavesTheCluster(t *testing.T) {
	c := smallWorld()
	put := woSend(10, putLetter(annKey, "k", "a"), putLetter(annKey, "k", "b"), putLetter(annKey, "l", "c"))
	checkWorldSteps(t, "gone", c, []woStep{
		{put, woTold(0, tellAll(200, 1, 200, 2, 200, 3))},
		{woRot(1, 0, 0, 1), impl.WorldOut{Lacks: 1}}, {woRot(2, 1, 0, 1), impl.WorldOut{Lacks: 2}}, {woRot(3, 2, 0, 1), impl.WorldOut{Lacks: 3}},
		{woScrub(), impl.WorldOut{Bent: []string{"1#0", "2#1", "3#2"}, Lacks: 3}},
		{woSend(11, deleteLetter(annKey, "k", "version", "2")), woTold(2, tellAll(200, 0))},
		{woRot(2, 0, 0, 1), impl.WorldOut{Code: impl.ErrNone, Lacks: 2}},
		{woSend(11, deleteLetter(annKey, "k")), woTold(2, tellAll(200, 4))},
		{woRot(4, 0, 0, 1), impl.WorldOut{Code: impl.ErrNone, Lacks: 2}},
		{woScrub(), impl.WorldOut{Bent: []string{"1#0", "3#2"}, Lacks: 2}},
		{woSend(11, deleteLetter(annKey, "k", "version", "4"), deleteLetter(annKey, "k", "version", "2"), getLetter(annKey, "k")), woTold(2, tellAll(200, 0, 404, 0), plainAnswer(200, 1, "a"))},
		{woSend(11, deleteLetter(annKey, "k", "version", "1"), deleteLetter(annKey, "l", "version", "3")), woTold(0, tellAll(200, 0, 200, 0))},
		{woScrub(), impl.WorldOut{}},
		{woSend(11, putLetter(annKey, "k", "new"), getLetter(annKey, "k"), listLetter(annKey)), woTold(0, tellAll(200, 5), plainAnswer(200, 5, "new"), plainAnswer(200, 0, "key k\n"))},
	})
}

// Listings, put by put, by prefix, delimiter and after.
func TestP21Listings(t *testing.T) {
	c := smallWorld()
	var put []string
	for _, key := range []string{"a", "b/1", "b/2", "b/c/3", "b c", "\xff\x00", "%", "d/", "/", "//", "key x\ny", "e", times("k", impl.MaxKey)} {
		put = append(put, putLetter(annKey, key, "x"))
	}
	put = append(put, deleteLetter(annKey, "e"))
	ahead := woSend(10, put...)
	long := "key " + times("k", impl.MaxKey) + "\n"
	for _, known := range []struct {
		query []string
		want  string
	}{
		{nil, "key %25\nkey /\nkey //\nkey a\nkey b%20c\nkey b/1\nkey b/2\nkey b/c/3\nkey d/\nkey key%20x%0Ay\n" + long + "key %FF%00\n"},
		{[]string{"delim", "/"}, "key %25\nkey a\nkey b%20c\nkey key%20x%0Ay\n" + long + "key %FF%00\nprefix /\nprefix b/\nprefix d/\n"},
		{[]string{"prefix", "b/"}, "key b/1\nkey b/2\nkey b/c/3\n"}, {[]string{"prefix", "b/", "delim", "/"}, "key b/1\nkey b/2\nprefix b/c/\n"}, {[]string{"delim", "/", "prefix", "b"}, "key b%20c\nprefix b/\n"},
		{[]string{"after", "b/2"}, "key b/c/3\nkey d/\nkey key%20x%0Ay\n" + long + "key %FF%00\n"}, {[]string{"after", "b/", "delim", "/", "prefix", "b"}, ""}, {[]string{"after", "b/.", "delim", "/", "prefix", "b"}, ""}, {[]string{"after", "b", "delim", "/", "prefix", "b"}, "key b%20c\nprefix b/\n"},
		{[]string{"prefix", "none"}, ""}, {[]string{"prefix", "\xff"}, "key %FF%00\n"}, {[]string{"after", "\xff\x00"}, ""}, {[]string{"after", "\xff"}, "key %FF%00\n"}, {[]string{"delim", " "}, "key %25\nkey /\nkey //\nkey a\nkey b/1\nkey b/2\nkey b/c/3\nkey d/\n" + long + "key %FF%00\nprefix b%20\nprefix key%20\n"},
		{[]string{"prefix", "", "delim", "", "after", ""}, "key %25\nkey /\nkey //\nkey a\nkey b%20c\nkey b/1\nkey b/2\nkey b/c/3\nkey d/\nkey key%20x%0Ay\n" + long + "key %FF%00\n"}, {[]string{"limit", "1", "Prefix", "b", "prefix", "a", "version", "3"}, "key a\n"}, {[]string{"prefix", times("k", impl.MaxKey)}, long}, {[]string{"prefix", times("k", 1000)}, ""}, {[]string{"delim", times("k", 1000), "prefix", "a"}, "key a\n"}, {[]string{"after", times("\xff", 1000)}, ""},
		{[]string{"delim", "c/", "prefix", "b"}, "key b%20c\nkey b/1\nkey b/2\nprefix b/c/\n"},
	} {
		run := checkWorld(t, "listed", c, []impl.WorldOp{ahead, woSend(11, listLetter(annKey, known.query...))})
		if run.Outs[1].Told != plainAnswer(200, 0, known.want) {
			t.Errorf("%.60q: %q", known.query, run.Outs[1].Told)
		}
	}
	// As many keys as there may be are all told.
	all := ""
	put = nil
	for i := range impl.MaxHeld {
		put = append(put, putLetter(annKey, rowKey(i), ""))
		all += "key " + rowKey(i) + "\n"
	}
	if run := checkWorld(t, "all", c, []impl.WorldOp{woSend(10, put...), woSend(11, listLetter(annKey))}); run.Outs[1].Told != plainAnswer(200, 0, all) {
		t.Errorf("%q", run.Outs[1].Told)
	}
	// A header or the body is none of these.
	r := impl.Request{Method: "GET", Path: "/", Headers: pairsOf("prefix", "b", "delim", "/", "after", "b"), Query: pairsOf("prefix", "a"), Body: "prefix=b"}
	if run := checkWorld(t, "headers", c, []impl.WorldOp{ahead, woSend(11, letter(annKey, r))}); run.Outs[1].Told != plainAnswer(200, 0, "key a\n") {
		t.Errorf("%q", run.Outs[1].Told)
	}
}

// Requests one behind the other are answered one behind the other, up to the first that can't be read.
func TestP21SeveralRequestsInOneData(t *testing.T) {
	c := smallWorld()
	texts := []string{putLetter(annKey, "k", "a\n"), getLetter(annKey, "k"), getLetter(bobKey, "k"), listLetter(annKey), putLetter(annKey, "k", "", "if-id", "none"), deleteLetter(annKey, "k"), getLetter(annKey, "k"), impl.WriteRequest(impl.Request{Method: "GET", Path: "/k"}), putLetter(annKey, "l", "200 1 0\n")}
	answers := []string{"200 1 0\n", "200 1 2\na\n", "403 0 0\n", "200 0 6\nkey k\n", "412 0 0\n", "200 2 0\n", "404 0 0\n", "401 0 0\n", "200 3 0\n"}
	all := strings.Join(texts, "")
	if run := checkWorld(t, "all", c, []impl.WorldOp{woSend(10, all)}); run.Outs[0].Told != strings.Join(answers, "") {
		t.Errorf("%q", run.Outs[0].Told)
	}
	// One by one they are answered as together.
	var ops []impl.WorldOp
	for _, text := range texts {
		ops = append(ops, woSend(10, text))
	}
	run := checkWorld(t, "one by one", c, ops)
	for i, want := range answers {
		if run.Outs[i].Told != want {
			t.Errorf("%d: %q", i, run.Outs[i].Told)
		}
	}
	// Cut off at any place.
	whole := 0
	for size := range len(all) + 1 {
		ends := 0
		for i := range texts {
			if ends+len(texts[i]) > size {
				break
			}
			ends += len(texts[i])
			whole = i + 1
		}
		if size < len(texts[0]) {
			whole = 0
		}
		want := strings.Join(answers[:whole], "")
		if size > ends {
			want += "400 0 0\n"
		}
		if got := impl.RunWorld(c, []impl.WorldOp{woSend(10, all[:size])}); got.Outs[0].Told != want {
			t.Fatalf("cut off at %d: %q, not %q", size, got.Outs[0].Told, want)
		}
	}
	// A spoiled one among them: what stands behind it is not looked at.
	for i := range texts {
		for _, spoiled := range []string{"\n", "x\n", " " + texts[i], texts[i][1:5] + "\n" + texts[i], strings.Replace(texts[i], "length", "Length", 1), "GET /\nlength: 0\nx", "GET /\nlength: 100001\n\n"} {
			data := strings.Join(texts[:i], "") + spoiled + strings.Join(texts[i:], "")
			if got := checkWorld(t, "spoiled", c, []impl.WorldOp{woSend(10, data)}); got.Outs[0].Told != strings.Join(answers[:i], "")+"400 0 0\n" {
				t.Errorf("%.20q ahead of %d: %q", spoiled, i, got.Outs[0].Told)
			}
		}
	}
	settled, before := woSettled()
	for _, ill := range []string{"\n", "x", "GET", "GET /k\n", "PUT /k\nlength: 5\n\nabcd", "\x00", " ", all[:20] + "\n"} {
		checkTold(t, "ill", settled, before, 10, ill, tellAll(400, 0))
	}
	for _, ill := range []string{"\n", "x", "GET\n", "GET /k\n", "GET /k\nlength: 0\n", "\x00", " ", all[:20] + "\n"} {
		checkTold(t, "ill ahead", settled, before, 10, ill+all, tellAll(400, 0))
	}
}

// Bodies from none to the greatest that can be put: what stands with them in the cluster has its bytes, too.
func TestP21BodiesOfAnySize(t *testing.T) {
	for _, known := range []struct {
		code impl.Code
		unit int64
		id   int64
		most int
	}{
		{impl.Code{K: 1, M: 1}, 4096, 1, 99985}, {impl.Code{K: 1, M: 1}, 500, 9, 99985}, {impl.Code{K: 1, M: 1}, 501, 10, 99984}, {impl.Code{K: 32, M: 16, Groups: 16}, 4096, 99, 99984}, {impl.Code{K: 4, M: 2}, 4096, topId - 1, 99973},
		{impl.Code{K: 1}, 1, 1, 186}, {impl.Code{K: 2, M: 1}, 1, 1, 386}, {impl.Code{K: 5, M: 3}, 3, 1, 2986}, {impl.Code{K: 1, Groups: 1}, 499, 1, 99785}, {impl.Code{K: 3}, 1, 12345, 582},
	} {
		c := worldOf(known.code, known.unit, int(impl.CodeSize(known.code)))
		c.Bucket.NextId = known.id
		for _, size := range []int{0, 1, 2, 4, 123, 124, known.most - 1, known.most} {
			body := mixedBytes(min(size, known.most))
			run := impl.RunWorld(c, []impl.WorldOp{woSend(10, putLetter(annKey, "k", body)), woSend(11, getLetter(annKey, "k"))})
			if run.Outs[0].Told != tellAll(200, known.id) || run.Outs[1].Told != plainAnswer(200, known.id, body) || run.Bucket.List[0].Data != "" {
				t.Errorf("%v of %d, %d bytes: %s", known.code, known.unit, size, shortly(run.Outs))
			}
		}
		for _, size := range []int{known.most + 1, known.most + 2, max(known.most+3, impl.MaxBytes-1), impl.MaxBytes} {
			text := putLetter(annKey, "k", mixedBytes(size))
			if text == "" {
				t.Fatal("no right request")
			}
			checkTold(t, fmt.Sprint(known.code, known.unit, " with ", size), c, nil, 10, text, tellAll(507, 0))
			checkTold(t, fmt.Sprint(known.code, known.unit, " with ", size), c, []impl.WorldOp{woSend(10, putLetter(annKey, "k", "a"))}, 10, text, tellAll(507, 0))
		}
	}
}

// The Quota and the Rules of the bucket count nothing, and stand there in the end as they did.
func TestP21QuotaAndRulesCountNothing(t *testing.T) {
	c := smallWorld()
	for _, quota := range []int64{0, 1, 5, topQuota} {
		c.Bucket.Quota = quota
		c.Bucket.Rules = []impl.LifeRule{ruleOf(impl.RuleExpire, "", 0), ruleOf(impl.RuleOld, "k", 0), ruleOf(impl.RuleMarker, "", 0)}
		run := checkWorld(t, "quota", c, []impl.WorldOp{woSend(10, putLetter(annKey, "k", "more than five"), putLetter(annKey, "k", "again so many"), deleteLetter(annKey, "k"), putLetter(annKey, "l", times("x", 1000))), woSend(impl.MaxTime, getLetter(annKey, "k", "version", "1"))})
		if run.Outs[0].Told != tellAll(200, 1, 200, 2, 200, 3, 200, 4) || run.Outs[1].Told != plainAnswer(200, 1, "more than five") {
			t.Error(shortly(run))
		}
		if run.Bucket.Quota != quota || !slices.Equal(run.Bucket.Rules, c.Bucket.Rules) || !run.Bucket.Kept || impl.BucketBytes(run.Bucket) != 0 || len(run.Bucket.List) != 4 {
			t.Error(shortly(run.Bucket))
		}
	}
}

// As many objects as a cluster may hold, and one more when one has gone.
func TestP21AsManyObjectsAsThereMayBe(t *testing.T) {
	c := worldOf(impl.Code{K: 1, M: 1}, 40, 3)
	var texts []string
	want := ""
	for i := range impl.MaxHeld {
		texts = append(texts, putLetter(annKey, rowKey(i%40), fmt.Sprint("body ", i)))
		want += tellAll(200, int64(i)+1)
	}
	full := woSend(10, texts...)
	more := putLetter(annKey, "more", "x")
	run := checkWorldSteps(t, "full", c, []woStep{
		{full, woTold(0, want)},
		{woSend(11, more, putLetter(annKey, rowKey(0), "x"), putLetter(annKey, "more", "", "if-id", "none")), woTold(0, tellAll(507, 0, 507, 0, 507, 0))},
		{woSend(11, deleteLetter(annKey, rowKey(7)), more), woTold(0, tellAll(200, 101, 507, 0))},
		{woSend(11, deleteLetter(annKey, rowKey(7), "version", "101"), more), woTold(0, tellAll(200, 0, 507, 0))},
		{woSend(11, deleteLetter(annKey, rowKey(7), "version", "8"), more, more), woTold(0, tellAll(200, 0, 200, 102, 507, 0))},
		{woSend(11, getLetter(annKey, "more"), getLetter(annKey, rowKey(7)), getLetter(annKey, rowKey(7), "version", "48")), woTold(0, plainAnswer(200, 102, "x"), plainAnswer(200, 88, "body 87"), plainAnswer(200, 48, "body 47"))},
	})
	if run.Bucket.NextId != 103 || len(run.Bucket.List) != impl.MaxHeld {
		t.Errorf("%d versions, next %d", len(run.Bucket.List), run.Bucket.NextId)
	}
	checkTold(t, "one more", c, []impl.WorldOp{full}, 11, more, tellAll(507, 0))
	checkTold(t, "one more", c, []impl.WorldOp{full, woFail(0), woRepair(clAll)}, 11, more, tellAll(507, 0))
	// What was lost still counts.
	checkTold(t, "one more", c, []impl.WorldOp{full, woFail(0), woFail(1), woFail(2), woBack(0), woBack(1)}, 11, more, tellAll(507, 0))
}

// As many versions as a bucket may have: the most are markers then, of which the cluster knows nothing.
func TestP21AsManyVersionsAsThereMayBe(t *testing.T) {
	c := worldOf(impl.Code{K: 1}, 40, 2)
	var texts []string
	for i := range int64(impl.MaxObjects - 2) {
		texts = append(texts, putLetter(annKey, "k", "x"), deleteLetter(annKey, "k"), deleteLetter(annKey, "k", "version", fmt.Sprint(2*i+1)))
	}
	next := int64(2*(impl.MaxObjects-2) + 1)
	ahead := woSend(10, texts...)
	steps := []woStep{
		{woSend(11, putLetter(annKey, "k", "299")), woTold(0, tellAll(200, next))},
		{woSend(11, putLetter(annKey, "l", "300")), woTold(0, tellAll(200, next+1))},
		{woSend(11, putLetter(annKey, "m", "301"), deleteLetter(annKey, "k"), deleteLetter(annKey, "none"), deleteLetter(annKey, "k", "if-id", "1"), putLetter(annKey, "k", "", "if-id", "none")), woTold(0, tellAll(507, 0, 507, 0, 404, 0, 412, 0, 412, 0))},
		{woSend(11, deleteLetter(annKey, "k", "version", "2"), deleteLetter(annKey, "k"), putLetter(annKey, "m", "")), woTold(0, tellAll(200, 0, 200, next+2, 507, 0))},
		{woSend(11, deleteLetter(annKey, "k", "version", "4"), putLetter(annKey, "m", "301"), getLetter(annKey, "m"), getLetter(annKey, "k", "version", fmt.Sprint(next))), woTold(0, tellAll(200, 0, 200, next+3), plainAnswer(200, next+3, "301"), plainAnswer(200, next, "299"))},
	}
	ops := []impl.WorldOp{ahead}
	for _, step := range steps {
		ops = append(ops, step.op)
	}
	run := checkWorld(t, "full", c, ops)
	for i, step := range steps {
		if !sameWoOut(run.Outs[i+1], step.want) {
			t.Errorf("%d: %s", i, shortly(run.Outs[i+1]))
		}
	}
	for i, got := range repliesIn(t, run.Outs[0].Told) {
		if got.status != 200 {
			t.Fatalf("request %d: %s", i, shortly(got))
		}
	}
	if len(run.Bucket.List) != impl.MaxObjects {
		t.Errorf("%d versions", len(run.Bucket.List))
	}
}

// The last Ids that there are.
func TestP21TheLastIds(t *testing.T) {
	c := smallWorld()
	c.Bucket.NextId = topId - 2
	run := checkWorldSteps(t, "last", c, []woStep{
		{woSend(10, putLetter(annKey, "k", "a"), deleteLetter(annKey, "k"), putLetter(annKey, "k", "b"), deleteLetter(annKey, "k")), woTold(0, tellAll(200, topId-2, 200, topId-1, 507, 0, 404, 0))},
		{woSend(10, getLetter(annKey, "k"), getLetter(annKey, "k", "version", fmt.Sprint(topId-2)), listLetter(annKey)), woTold(0, tellAll(404, 0, 404, 0, 200, 0))},
		{woRot(topId-2, 0, 0, 1), impl.WorldOut{Lacks: 1}},
	})
	if run.Bucket.NextId != topId {
		t.Error(shortly(run.Bucket))
	}
	c.Bucket.NextId = topId
	checkTold(t, "none left", c, nil, 10, putLetter(annKey, "k", "a"), tellAll(507, 0))
	// The greatest Id that can stand in a header, and the first that can't: that is no number, and so the newest is told.
	c.Bucket.NextId = impl.MaxTime - 1
	run = checkWorld(t, "in a header", c, []impl.WorldOp{woSend(10, putLetter(annKey, "k", "a"), putLetter(annKey, "k", "b"), putLetter(annKey, "k", "c"), putLetter(annKey, "k", "d"), getLetter(annKey, "k", "version", "4102444799"), getLetter(annKey, "k", "version", "4102444800"), getLetter(annKey, "k", "version", "4102444801"))})
	if !strings.HasSuffix(run.Outs[0].Told, plainAnswer(200, impl.MaxTime-1, "a")+plainAnswer(200, impl.MaxTime, "b")+plainAnswer(200, impl.MaxTime+2, "d")) {
		t.Errorf("%q", run.Outs[0].Told)
	}
}

// A put that the cluster does not take leaves no trace: not a version, not an Id, not a key.
func TestP21WhatTheClusterDoesNotTake(t *testing.T) {
	c := worldOf(impl.Code{K: 2, M: 1}, 8, 3)
	ahead := []impl.WorldOp{woSend(10, putLetter(annKey, "k", "a"), putLetter(annKey, "l", "b"), deleteLetter(annKey, "l")), woFail(1)}
	for _, text := range []string{putLetter(annKey, "k", "new"), putLetter(annKey, "l", "new"), putLetter(annKey, "m", "new", "if-id", "none", "until", "99"), putLetter(annKey, "k", "", "if-id", "1")} {
		checkTold(t, "no place", c, ahead, 11, text, tellAll(507, 0))
		checkTold(t, "no place", c, ahead, 11, text+text+text, tellAll(507, 0, 507, 0, 507, 0))
	}
	run := checkWorld(t, "taken then", c, append(ahead, woSend(11, putLetter(annKey, "m", "new")), woBack(1), woSend(12, putLetter(annKey, "m", "newer"), getLetter(annKey, "m"), listLetter(annKey))))
	if out := run.Outs[len(ahead)+2]; out.Told != tellAll(200, 4)+plainAnswer(200, 4, "newer")+plainAnswer(200, 0, "key k\nkey m\n") {
		t.Errorf("%q", out.Told)
	}
}

// woConfigs are a right configuration with another thing in it.
func woConfigs() (right, wrong map[string]impl.WorldConfig) {
	right, wrong = map[string]impl.WorldConfig{}, map[string]impl.WorldConfig{}
	add := func(to map[string]impl.WorldConfig, name string, change func(*impl.WorldConfig)) {
		c := smallWorld()
		change(&c)
		to[name] = c
	}
	keys := func(count int) []impl.AccessKey {
		var list []impl.AccessKey
		for i := range count {
			list = append(list, impl.AccessKey{Id: fmt.Sprint("k", i), Secret: "s"})
		}
		return list
	}
	for i, nodes := range wrongNodes() {
		add(wrong, fmt.Sprint("nodes ", i), func(c *impl.WorldConfig) { c.Cluster.Nodes = nodes })
	}
	for _, code := range wrongCodes {
		add(wrong, fmt.Sprint("code ", code), func(c *impl.WorldConfig) { c.Cluster.Code = code })
	}
	for _, unit := range []int64{0, -1, impl.MaxShard + 1, math.MinInt64, math.MaxInt64} {
		add(wrong, fmt.Sprint("unit ", unit), func(c *impl.WorldConfig) { c.Cluster.Unit = unit })
	}
	for name, b := range wrongBuckets() {
		b.Kept = true
		add(wrong, "bucket "+name, func(c *impl.WorldConfig) { c.Bucket = b })
	}
	for name, b := range rightBuckets() {
		kept := b
		kept.Kept = true
		to := right
		if len(b.List) > 0 {
			to = wrong
		}
		add(to, "kept bucket "+name, func(c *impl.WorldConfig) { c.Bucket = kept })
		b.Kept = false
		add(wrong, "bucket that is not kept "+name, func(c *impl.WorldConfig) { c.Bucket = b })
	}
	for _, policy := range []string{"x", "allow", "allow who ann do * on", "allow who ann do * on * after -1", "Allow who ann do * on *", "allow who ann do * on *\nx\n", "allow who ann do * on *\x00", times("\n", impl.MaxPolicy+1), times(" ", impl.MaxBytes+1), times("allow who a do b on c\n", impl.MaxStatements+1), "allow who a do b on c" + times(" from a", 11)} {
		add(wrong, fmt.Sprintf("policy %.40q", policy), func(c *impl.WorldConfig) { c.Policy = policy })
	}
	for _, policy := range []string{"", "\n", "  \n \n", times("\n", impl.MaxPolicy), times("allow who a do b on c\n", impl.MaxStatements), "deny who * do * on *", "allow who a do b on c" + times(" from a", 10)} {
		add(right, fmt.Sprintf("policy %.40q", policy), func(c *impl.WorldConfig) { c.Policy = policy })
	}
	for _, size := range []int{0, impl.MaxKey + 1, impl.MaxKey + 2, impl.MaxBytes + 1} {
		add(wrong, fmt.Sprint("master of ", size), func(c *impl.WorldConfig) { c.Master = times("m", size) })
	}
	for _, size := range []int{1, 2, impl.MaxKey - 1, impl.MaxKey} {
		add(right, fmt.Sprint("master of ", size), func(c *impl.WorldConfig) { c.Master = times("\xff", size) })
	}
	for _, count := range []int{101, 102, 1000} {
		add(wrong, fmt.Sprint(count, " keys"), func(c *impl.WorldConfig) { c.Keys = keys(count) })
	}
	for _, count := range []int{0, 1, 2, 99, 100} {
		add(right, fmt.Sprint(count, " keys"), func(c *impl.WorldConfig) { c.Keys = keys(count) })
	}
	add(wrong, "two of one Id", func(c *impl.WorldConfig) { c.Keys = append(keys(3), impl.AccessKey{Id: "k0", Secret: "t"}) })
	add(wrong, "two the same", func(c *impl.WorldConfig) { c.Keys = append(keys(3), keys(3)[2]) })
	add(wrong, "two of no Id", func(c *impl.WorldConfig) { c.Keys = append(keys(1), impl.AccessKey{}, impl.AccessKey{Secret: "s"}) })
	add(wrong, "the last of 100", func(c *impl.WorldConfig) { c.Keys = append(keys(99), impl.AccessKey{Id: "k98", Secret: "t"}) })
	add(right, "two of one Secret", func(c *impl.WorldConfig) { c.Keys = []impl.AccessKey{{Id: "a", Secret: "s"}, {Id: "b", Secret: "s"}} })
	add(right, "keys that can't sign", func(c *impl.WorldConfig) {
		c.Keys = []impl.AccessKey{{}, {Id: "A", Secret: "s"}, {Id: "a"}, {Id: times("a", 41), Secret: times("s", 101)}, {Id: times("a", impl.MaxBytes+1)}}
	})
	add(wrong, "nothing", func(c *impl.WorldConfig) { *c = impl.WorldConfig{} })
	return right, wrong
}

func TestP21ConfigurationsRightAndWrong(t *testing.T) {
	right, wrong := woConfigs()
	ops := []impl.WorldOp{woSend(10, putLetter(annKey, "k", "x")), woScrub()}
	long := impl.WorldOp{Data: times("x", 4*impl.MaxBytes+1)}
	for name, c := range right {
		if fault := impl.WorldFault(c); fault != impl.OK || plainWorldFault(c) != impl.OK {
			t.Errorf("%s: fault %d", name, fault)
		}
		if run := impl.RunWorld(c, nil); run.Code != impl.OK || len(run.Outs) != 0 || !sameBucket(run.Bucket, c.Bucket) {
			t.Errorf("%s: %s", name, shortly(run))
		}
		checkWorld(t, name, c, ops)
	}
	for name, c := range wrong {
		if fault := impl.WorldFault(c); fault != impl.ErrForm || plainWorldFault(c) != impl.ErrForm {
			t.Errorf("%s: fault %d", name, fault)
		}
		// It is looked for ahead of all that may be wrong with the operations.
		for _, list := range [][]impl.WorldOp{nil, ops, make([]impl.WorldOp, impl.MaxOps+1), {long}} {
			if run := impl.RunWorld(c, list); !isOnlyWorldCode(run, impl.ErrForm) {
				t.Errorf("%s: %s", name, shortly(run))
			}
		}
	}
}

// Each of as many keys as there may be signs for itself.
func TestP21AsManyKeysAsThereMayBe(t *testing.T) {
	c := smallWorld()
	c.Keys, c.Policy = nil, "allow who * do * on *\ndeny who k50 do * on *\n"
	var texts []string
	want := ""
	for i := range 100 {
		k := impl.AccessKey{Id: fmt.Sprint("k", i), Secret: fmt.Sprint("secret ", i)}
		c.Keys = append(c.Keys, k)
		texts = append(texts, listLetter(k), listLetter(impl.AccessKey{Id: k.Id, Secret: fmt.Sprint("secret ", i+1)}))
		if i == 50 {
			want += tellAll(403, 0, 401, 0)
		} else {
			want += tellAll(200, 0, 401, 0)
		}
	}
	if run := checkWorld(t, "100 keys", c, []impl.WorldOp{woSend(10, texts...)}); run.Outs[0].Told != want {
		t.Errorf("%q", run.Outs[0].Told)
	}
}

// What was sealed under a master of any length is read back.
func TestP21MastersOfAnyLength(t *testing.T) {
	for _, master := range append(sealKeys(), "m", times("\x00", impl.MaxKey), mixedBytes(impl.MaxKey)) {
		c := smallWorld()
		c.Master = master
		if run := checkWorld(t, "master", c, []impl.WorldOp{woSend(10, putLetter(annKey, "k", "some bytes"), getLetter(annKey, "k"))}); run.Outs[0].Told != tellAll(200, 1)+plainAnswer(200, 1, "some bytes") {
			t.Errorf("%.30q: %q", master, run.Outs[0].Told)
		}
	}
}

func TestP21AsManyOperationsAsThereMayBe(t *testing.T) {
	c := smallWorld()
	put := woSend(10, putLetter(annKey, "k", "x"))
	ops := slices.Concat([]impl.WorldOp{put}, slices.Repeat([]impl.WorldOp{woSend(11, getLetter(annKey, "k")), woFail(0), woBack(0), woRepair(clAll)}, 499), []impl.WorldOp{woScrub(), put, {}})
	if len(ops) != impl.MaxOps {
		t.Fatal(len(ops))
	}
	if run := checkWorld(t, "most", c, ops); run.Code != impl.OK || len(run.Outs) != impl.MaxOps || run.Bucket.NextId != 3 {
		t.Error(shortly(run))
	}
	long := impl.WorldOp{Data: times("x", 4*impl.MaxBytes+1)}
	for _, more := range [][]impl.WorldOp{{put}, {put, put}, {long}, slices.Repeat([]impl.WorldOp{{}}, 2000)} {
		if run := impl.RunWorld(c, slices.Concat(ops, more)); !isOnlyWorldCode(run, impl.ErrCount) {
			t.Errorf("%d more: %s", len(more), shortly(run))
		}
	}
}

// Data of the most bytes, and of one more, whatever the kind of the operation.
func TestP21AsManyBytesAsThereMayBe(t *testing.T) {
	c := worldOf(impl.Code{K: 1, M: 1}, 4096, 2)
	text := ""
	for i := range 3 {
		text += putLetter(annKey, rowKey(i), mixedBytes(99985))
	}
	rest := putLetter(annKey, "rest", "")
	// The length has five digits in the place of one.
	body := mixedBytes(4*impl.MaxBytes - len(text) - len(rest) - 4)
	text += putLetter(annKey, "rest", body)
	for sum := 0; len(text) != 4*impl.MaxBytes && sum < 9; sum++ {
		// The sum of the signature may have a digit more or less.
		body = mixedBytes(len(body) + 4*impl.MaxBytes - len(text))
		text = text[:strings.LastIndex(text, "PUT /rest")] + putLetter(annKey, "rest", body)
	}
	if len(text) != 4*impl.MaxBytes {
		t.Fatal(len(text))
	}
	run := impl.RunWorld(c, []impl.WorldOp{woSend(10, text), woSend(10, getLetter(annKey, "rest"))})
	if run.Code != impl.OK || run.Outs[0].Told != tellAll(200, 1, 200, 2, 200, 3, 200, 4) || run.Outs[1].Told != plainAnswer(200, 4, body) {
		t.Error(shortly(run))
	}
	for _, kind := range []int64{impl.WoSend, impl.WoFail, impl.WoBack, impl.WoRot, impl.WoRepair, impl.WoScrub, 0, 7, -1} {
		for _, now := range []int64{10, -1} {
			for _, more := range []string{"x", "xx", text} {
				run := impl.RunWorld(c, []impl.WorldOp{woSend(10, putLetter(annKey, "k", "x")), {Kind: kind, Time: now, Data: text + more}, woScrub()})
				if !isOnlyWorldCode(run, impl.ErrSize) {
					t.Errorf("kind %d: %s", kind, shortly(run))
				}
			}
		}
		run := impl.RunWorld(c, []impl.WorldOp{{Kind: kind, Time: 10, Data: text}})
		if run.Code != impl.OK || len(run.Outs) != 1 {
			t.Errorf("kind %d: %s", kind, shortly(run))
		}
	}
	// The last operation counts, too.
	ops := make([]impl.WorldOp, impl.MaxOps)
	ops[impl.MaxOps-1].Data = text + "x"
	if run := impl.RunWorld(c, ops); !isOnlyWorldCode(run, impl.ErrSize) {
		t.Error(shortly(run))
	}
}

func TestP21OperationsOfNoKind(t *testing.T) {
	c, ops := woSettled()
	for _, kind := range []int64{0, -1, -6, 7, 8, 10, 100, 1 << 32, 1<<32 + 1, math.MaxInt64, math.MinInt64, math.MinInt64 + 2} {
		out := checkUnchanged(t, "kind", c, ops, impl.WorldOp{Kind: kind, Time: 10, Data: putLetter(annKey, "k", "x"), Disk: 0, Key: "1", Shard: 1, At: 1, Turn: 1, Num: 9})
		if out.Code != impl.ErrForm || out.Told != "" || len(out.Bent) != 0 || out.Moved != 0 {
			t.Errorf("%d: %s", kind, shortly(out))
		}
	}
}

// The operations of the cluster, and their codes, the first of them first.
func TestP21RefusedByTheDisks(t *testing.T) {
	c, ops := woSettled()
	disks := impl.PlaceKey(c.Cluster.Nodes, "6", 3).Disks
	gone := int64(slices.Index(disks, 2))
	there := (gone + 1) % 3
	if gone < 0 {
		t.Fatal("no shard of version 6 has gone")
	}
	type refusal struct {
		op   impl.WorldOp
		code int64
	}
	list := []refusal{
		{woFail(2), impl.ErrState}, {woBack(0), impl.ErrState}, {woRot(0, 0, 0, 1), impl.ErrNone}, {woRot(7, 0, 0, 1), impl.ErrNone}, {woRot(5, 0, 0, 1), impl.ErrNone}, {woRot(99, -1, -1, 0), impl.ErrNone}, {woRot(6, 3, 0, 1), impl.ErrForm}, {woRot(6, -1, 0, 1), impl.ErrForm}, {woRot(6, 0, 0, 0), impl.ErrForm}, {woRot(6, 0, 0, 256), impl.ErrForm},
		{woRot(6, gone, 99, 0), impl.ErrForm}, {woRot(6, gone, 99, 1), impl.ErrState}, {woRot(6, there, 8, 1), impl.ErrForm}, {woRot(6, there, -1, 1), impl.ErrForm}, {woRepair(-1), impl.ErrForm}, {woRepair(1001), impl.ErrForm},
	}
	for _, none := range []int64{-1, 4, 5, 200, 1 << 32, math.MinInt64, math.MaxInt64} {
		list = append(list, refusal{woFail(none), impl.ErrForm}, refusal{woBack(none), impl.ErrForm})
	}
	for _, key := range []string{"", "01", "+1", "1 ", "1#0", "k", "-1", "1.0", "k1", times("1", impl.MaxKey+1), times("1", impl.MaxBytes+1)} {
		list = append(list, refusal{impl.WorldOp{Kind: impl.WoRot, Key: key, Turn: 1}, impl.ErrNone})
	}
	for _, known := range list {
		if out := checkUnchanged(t, "disks", c, ops, known.op); out.Code != known.code || out.Told != "" || len(out.Bent) != 0 || out.Moved != 0 {
			t.Errorf("%s: %s, not %d", shortly(known.op), shortly(out), known.code)
		}
	}
}

// All that an operation does not name may be anything.
func TestP21WhatAnOperationDoesNotNamePlaysNoPart(t *testing.T) {
	x := newWorlds(227)
	number := func() int64 { return some[int64](x, math.MinInt64, -1, 0, 1, 2, 7, 64, 1001, math.MaxInt64) }
	text := func() string { return some(x, "", "1", "a", putLetter(annKey, "a", "x"), times("x", impl.MaxBytes+1)) }
	for i := range 100 {
		c := x.config()
		ops, want := x.run(30, c, met{})
		for i, own := range ops {
			op := impl.WorldOp{Kind: own.Kind, Time: number(), Data: text(), Disk: number(), Key: text(), Shard: number(), At: number(), Turn: number(), Num: number()}
			switch own.Kind {
			case impl.WoSend:
				op.Time, op.Data = own.Time, own.Data
			case impl.WoFail, impl.WoBack:
				op.Disk = own.Disk
			case impl.WoRot:
				op.Key, op.Shard, op.At, op.Turn = own.Key, own.Shard, own.At, own.Turn
			case impl.WoRepair:
				op.Num = own.Num
			}
			ops[i] = op
		}
		holdWorld(t, fmt.Sprint("named ", i), ops, impl.RunWorld(c, ops), want)
	}
}

// lentWorld is a configuration and operations whose texts and lists the test can change.
type lentWorld struct {
	config impl.WorldConfig
	nodes  *nodesLoan
	bucket *lentBucket
	keys   []impl.AccessKey
	wereK  []impl.AccessKey
	ops    []impl.WorldOp
	was    []impl.WorldOp
	texts  []*loan
}

func (l *lentWorld) text(text string) string {
	lent := newLoan(text)
	l.texts = append(l.texts, lent)
	return lent.text()
}

func lendWorld(c impl.WorldConfig, ops []impl.WorldOp) *lentWorld {
	l := &lentWorld{config: c, nodes: lendNodes(c.Cluster.Nodes), bucket: lendBucket(c.Bucket, nil)}
	l.config.Cluster.Nodes = l.nodes.list()
	l.config.Bucket = l.bucket.bucket
	l.config.Policy, l.config.Master = l.text(c.Policy), l.text(c.Master)
	for _, k := range c.Keys {
		l.keys = append(l.keys, impl.AccessKey{Id: l.text(k.Id), Secret: l.text(k.Secret)})
	}
	// The room behind a list is the test's, too.
	l.keys = append(l.keys, annKey, bobKey)
	l.config.Keys = l.keys[:len(c.Keys)]
	for _, op := range ops {
		op.Data, op.Key = l.text(op.Data), l.text(op.Key)
		l.ops = append(l.ops, op)
	}
	l.ops = append(l.ops, impl.WorldOp{Kind: 77}, impl.WorldOp{Kind: 88})
	l.wereK, l.was = slices.Clone(l.keys), slices.Clone(l.ops)
	return l
}

func (l *lentWorld) given() []impl.WorldOp {
	return l.ops[:len(l.ops)-2]
}

func (l *lentWorld) kept() bool {
	return l.nodes.kept() && l.bucket.kept() && slices.Equal(l.keys, l.wereK) && slices.Equal(l.ops, l.was) && !slices.ContainsFunc(l.texts, func(text *loan) bool { return !text.kept() })
}

func (l *lentWorld) spoil() {
	for _, text := range l.texts {
		text.spoil()
	}
	l.bucket.spoil()
	clear(l.nodes.room)
	clear(l.keys)
	clear(l.ops)
}

func TestP21TheAnswerIsNewMemory(t *testing.T) {
	x := newWorlds(229)
	for i := range 120 {
		c := x.config()
		ops, want := x.run(30, c, met{})
		lent := lendWorld(c, ops)
		got := impl.RunWorld(lent.config, lent.given())
		impl.WorldFault(lent.config)
		kept := lent.kept()
		lent.spoil()
		if !kept || !sameWorld(got, want) {
			t.Fatalf("%d: written into, or shared", i)
		}
	}
	for _, size := range []int{0, 1, 100, 4 * impl.MaxBytes} {
		body := newLoan(mixedBytes(size))
		got := impl.AnswerText(200, 1, body.text())
		kept := body.kept()
		body.spoil()
		if !kept || got != plainAnswer(200, 1, mixedBytes(size)) {
			t.Errorf("%d bytes: written into, or shared", size)
		}
	}
	for _, r := range []impl.Request{{Method: "GET", Path: "/"}, {Method: "PUT", Path: "/k", Body: "x", Query: pairsOf("a", "b"), Headers: pairsOf("c", "d")}, {Method: "DELETE", Path: "/k"}, {Method: "GET", Path: "/k"}} {
		lent := lendRequest(r)
		got := impl.ActionOf(lent.r)
		kept := lent.kept()
		lent.spoil()
		if !kept || got != plainAction(r) {
			t.Errorf("%v: written into, or shared", r)
		}
	}
}

// No two lists of one answer share memory, nor does one with another call's.
func TestP21NoTwoListsOfAWorldShareMemory(t *testing.T) {
	x := newWorlds(233)
	for i := range 25 {
		c := x.config()
		c.Bucket.Rules = []impl.LifeRule{ruleOf(impl.RuleExpire, "p", 3), ruleOf(impl.RuleOld, "q", 4)}
		ops, _ := x.run(15, c, met{})
		ops = append(ops, woScrub(), woScrub())
		want := plainWorldRun(c, ops)
		for spoiled := range len(ops) + 2 {
			run, again := impl.RunWorld(c, ops), impl.RunWorld(c, ops)
			switch spoiled {
			case len(ops):
				spoilRules(run.Bucket.Rules)
				run.Bucket.Rules = want.Bucket.Rules
			case len(ops) + 1:
				spoilVersions(run.Bucket.List)
				run.Bucket.List = want.Bucket.List
			default:
				spoilNames(run.Outs[spoiled].Bent)
				run.Outs[spoiled].Bent = want.Outs[spoiled].Bent
			}
			if !sameWorld(run, want) || !sameWorld(again, want) || !sameBucket(impl.RunWorld(c, nil).Bucket, c.Bucket) {
				t.Fatalf("%d: another list changes with list %d", i, spoiled)
			}
		}
	}
}

// wild draws operations of any numbers and texts.
func (x worlds) wild(count int) []impl.WorldOp {
	number := func() int64 {
		return some[int64](x, math.MinInt64, -2, -1, 0, 0, 0, 1, 1, 1, 2, 2, 3, 4, 63, 64, 255, 256, 1000, 1001, 1<<32, impl.MaxTime, impl.MaxTime+1, math.MaxInt64)
	}
	text := func() string {
		one := some(x, "", "1", "2", "k", "\x00", "\n", "GET / \n", "GET /\nlength: 0\n\n", "PUT /k\nlength: 3\n\nabc", times("t", 300), times("\n", 4*impl.MaxBytes), putLetter(annKey, "k", "x"), putLetter(annKey, "k", "y"), getLetter(annKey, "k"), deleteLetter(annKey, "k"), listLetter(annKey), deleteLetter(annKey, "k", "version", "1"))
		return one + some(x, "", "", putLetter(annKey, "l", "z"), getLetter(annKey, "k", "version", "1"), "\xff")
	}
	var ops []impl.WorldOp
	for range count {
		ops = append(ops, impl.WorldOp{Kind: some[int64](x, 1, 1, 1, x.chance.Int63n(10)-1), Time: some(x, 10, 10, number()), Data: text(), Disk: number(), Key: some(x, "1", "2", text()), Shard: number(), At: number(), Turn: number(), Num: number()})
	}
	return ops
}

func (x worlds) wildConfig() impl.WorldConfig {
	number := func() int64 { return some[int64](x, math.MinInt64, -1, 0, 1, 1, 2, 16, 32, 4096, math.MaxInt64) }
	c := x.config()
	switch x.chance.Intn(8) {
	case 0:
		c.Cluster.Code = impl.Code{K: number(), M: number(), Groups: number()}
	case 1:
		c.Cluster.Nodes = append(c.Cluster.Nodes, impl.Node{Domain: number(), Weight: number()})
	case 2:
		c.Cluster.Unit = number()
	case 3:
		c.Keys = slices.Repeat(c.Keys, x.chance.Intn(3))
	case 4:
		c.Policy = some(x, "allow", "\x00", times("x", 10001), "allow who , do * on *")
	case 5:
		c.Master = times("m", x.chance.Intn(300))
	case 6:
		c.Bucket = impl.Bucket{NextId: number(), Kept: x.chance.Intn(2) == 0, Quota: number(), List: make([]impl.Version, x.chance.Intn(2)), Rules: make([]impl.LifeRule, x.chance.Intn(2))}
	}
	return c
}

func TestP21NoCallOfAWorldPanics(t *testing.T) {
	x := newWorlds(239)
	codes := met{}
	for i := range 800 {
		c, ops := x.wildConfig(), x.wild(x.chance.Intn(12))
		noPanic(t, "WorldFault", func() { impl.WorldFault(c) })
		noPanic(t, "RunWorld", func() {
			got := impl.RunWorld(c, ops)
			codes[fmt.Sprint("code ", got.Code)]++
			if !sameWorld(got, plainWorldRun(c, ops)) {
				t.Errorf("%d: run in another way", i)
			}
		})
	}
	codes.want(t, 40, "code 0", "code 1", "code 2")
	for _, number := range edgeNumbers() {
		noPanic(t, "AnswerText", func() { impl.AnswerText(number, -number, "x") })
	}
	for _, text := range []string{"", "/", "\x00", "GET", times("/", impl.MaxBytes+1)} {
		for _, method := range []string{"", "GET", "PUT", "DELETE", "\xff", times("G", impl.MaxBytes+1)} {
			r := impl.Request{Method: method, Path: text, Body: text, Query: []impl.Pair{{}, {Name: text}}, Headers: []impl.Pair{{Value: text}}}
			noPanic(t, "ActionOf", func() { impl.ActionOf(r) })
			noPanic(t, "AnswerText", func() { impl.AnswerText(1, 1, method+text) })
		}
	}
}

func TestP21NothingOfAWorldGoesOnBehindTheAnswer(t *testing.T) {
	x := newWorlds(241)
	ahead := runtime.NumGoroutine()
	for i := range 100 {
		c := x.config()
		ops, _ := x.run(15, c, met{})
		impl.RunWorld(c, ops)
		impl.RunWorld(c, make([]impl.WorldOp, impl.MaxOps+i%2))
		impl.RunWorld(impl.WorldConfig{}, nil)
		if i%20 == 0 && !isQuiet(ahead) {
			t.Fatalf("%d: %d go on, not %d", i, runtime.NumGoroutine(), ahead)
		}
	}
	if !isQuiet(ahead) {
		t.Errorf("%d go on, not %d", runtime.NumGoroutine(), ahead)
	}
}

// Calls at one time, and however many of the machine's cores there are, answer the same.
func TestP21TheAnswerOfAWorldHangsOnTheArgumentsAlone(t *testing.T) {
	x := newWorlds(251)
	c := x.config()
	c.Cluster = impl.ClusterConfig{Code: impl.Code{K: 4, M: 2, Groups: 2}, Unit: 16, Nodes: x.disks.nodes(12)}
	c.Policy = worldPolicies[0]
	ops, want := x.run(120, c, met{})
	cores := runtime.GOMAXPROCS(0)
	defer runtime.GOMAXPROCS(cores)
	for _, count := range []int{1, 2, cores} {
		runtime.GOMAXPROCS(count)
		var calls sync.WaitGroup
		same := make([]bool, 24)
		for i := range same {
			calls.Go(func() { same[i] = sameWorld(impl.RunWorld(c, ops), want) })
		}
		calls.Wait()
		if slices.Contains(same, false) {
			t.Errorf("on %d cores: %v", count, same)
		}
	}
}

// The longest runs: each has to end.
func TestP21TheLongestRunsOfAWorldEnd(t *testing.T) {
	body := mixedBytes(99985)
	long := worldOf(impl.Code{K: 1, M: 1}, 4096, 2)
	wide := worldOf(impl.Code{K: 32, M: 16, Groups: 16}, 4096, impl.MaxNodes)
	put := woSend(10, putLetter(annKey, "k", body))
	var held []string
	for i := range impl.MaxHeld {
		held = append(held, putLetter(annKey, rowKey(i), "x"))
	}
	for name, known := range map[string]struct {
		c     impl.WorldConfig
		ahead impl.WorldOp
		ops   []impl.WorldOp
		last  impl.WorldOut
	}{
		"get of the greatest": {long, put, []impl.WorldOp{woSend(11, getLetter(annKey, "k"))}, woTold(0, plainAnswer(200, 1, body))},
		"puts beyond room":    {wide, woScrub(), []impl.WorldOp{woSend(10, putLetter(annKey, "l", "")), {Kind: -1}}, impl.WorldOut{Code: impl.ErrForm}},
		"fail and repair":     {wide, woSend(10, held...), []impl.WorldOp{woFail(7), woRepair(clAll), woBack(7), woScrub()}, impl.WorldOut{}},
		"what is refused":     {long, put, []impl.WorldOp{woSend(10, times("GET /q\nlength: 0\n\n", 1000))}, woTold(0, times(tellAll(401, 0), 1000))},
	} {
		ops := []impl.WorldOp{known.ahead}
		count := (impl.MaxOps - 1) / len(known.ops) * len(known.ops)
		for i := range count {
			ops = append(ops, known.ops[i%len(known.ops)])
		}
		if name == "get of the greatest" {
			ops = ops[:400]
		}
		run := impl.RunWorld(known.c, ops)
		if last := run.Outs[len(ops)-1]; run.Code != impl.OK || !sameWoOut(last, known.last) {
			t.Errorf("%s: %s", name, shortly(last))
		}
	}
	// As many requests as Data can have.
	get := getLetter(annKey, "k")
	count := 4 * impl.MaxBytes / len(get)
	run := impl.RunWorld(smallWorld(), []impl.WorldOp{woSend(10, putLetter(annKey, "k", "x")), woSend(11, times(get, count))})
	if run.Code != impl.OK || run.Outs[1].Told != times(plainAnswer(200, 1, "x"), count) {
		t.Error(shortly(run))
	}
}
