package tests

import (
	"fmt"
	"math"
	"math/rand"
	"runtime"
	"slices"
	"strings"
	"sync"
	"testing"

	"loop.example/g00020/impl"
)

// Short names for operations.
func clPut(key, data string) impl.ClusterOp {
	return impl.ClusterOp{Kind: impl.ClPut, Key: key, Data: data}
}
func clGet(key string) impl.ClusterOp { return impl.ClusterOp{Kind: impl.ClGet, Key: key} }
func clPiece(key string, from, count int64) impl.ClusterOp {
	return impl.ClusterOp{Kind: impl.ClGet, Key: key, From: from, Count: count}
}
func clDrop(key string) impl.ClusterOp { return impl.ClusterOp{Kind: impl.ClDrop, Key: key} }
func clFail(disk int64) impl.ClusterOp { return impl.ClusterOp{Kind: impl.ClFail, Disk: disk} }
func clBack(disk int64) impl.ClusterOp { return impl.ClusterOp{Kind: impl.ClBack, Disk: disk} }
func clRot(key string, shard, at, turn int64) impl.ClusterOp {
	return impl.ClusterOp{Kind: impl.ClRot, Key: key, Shard: shard, At: at, Turn: turn}
}
func clScrub() impl.ClusterOp           { return impl.ClusterOp{Kind: impl.ClScrub} }
func clRepair(num int64) impl.ClusterOp { return impl.ClusterOp{Kind: impl.ClRepair, Num: num} }
func clWeight(disk, num int64) impl.ClusterOp {
	return impl.ClusterOp{Kind: impl.ClWeight, Disk: disk, Num: num}
}
func clMove(num int64) impl.ClusterOp { return impl.ClusterOp{Kind: impl.ClMove, Num: num} }

// clAll is as many as an operation may make or move.
const clAll = 1000

// plainShard is what a disk has of a shard: its piece of each stripe, and the sum that stands with them.
type plainShard struct {
	pieces []string
	sum    int64
	right  bool
}

func sumOfPieces(pieces []string) int64 {
	return impl.SumOf(strings.Join(pieces, ""), 4)
}

type plainDisk struct {
	node  impl.Node
	works bool
	has   map[shardOf]plainShard
}

// shardOf names a shard of an object.
type shardOf struct {
	key    string
	number int
}

type plainObject struct {
	key   string
	size  int64
	disks []int64
}

// plainCluster is the document's sentences for all operations, over the functions of the chapters that they name.
type plainCluster struct {
	config  impl.ClusterConfig
	disks   []*plainDisk
	objects []*plainObject
	// back tells whether a disk has come back.
	back bool
	seen met
}

func newPlainCluster(c impl.ClusterConfig) *plainCluster {
	p := &plainCluster{config: c, seen: met{}}
	for _, node := range c.Nodes {
		p.disks = append(p.disks, &plainDisk{node: node, works: true, has: map[shardOf]plainShard{}})
	}
	return p
}

func (p *plainCluster) size() int { return int(impl.CodeSize(p.config.Code)) }

// nodes are the disks as PlaceKey is to see them.
func (p *plainCluster) nodes() []impl.Node {
	var list []impl.Node
	for _, disk := range p.disks {
		node := disk.node
		if !disk.works {
			node.Weight = 0
		}
		list = append(list, node)
	}
	return list
}

func (p *plainCluster) find(key string) *plainObject {
	for _, o := range p.objects {
		if o.key == key {
			return o
		}
	}
	return nil
}

func (p *plainCluster) isNoDisk(disk int64) bool {
	return disk < 0 || disk > int64(len(p.disks))-1
}

func (p *plainCluster) shard(o *plainObject, number int) (plainShard, bool) {
	shard, there := p.disks[o.disks[number]].has[shardOf{o.key, number}]
	return shard, there
}

// write puts a shard on the disk that it is said to be on.
func (p *plainCluster) write(o *plainObject, number int, shard plainShard) {
	shard.right = sumOfPieces(shard.pieces) == shard.sum
	p.disks[o.disks[number]].has[shardOf{o.key, number}] = shard
}

func (p *plainCluster) isGood(o *plainObject, number int) bool {
	shard, there := p.shard(o, number)
	return p.disks[o.disks[number]].works && there && shard.right
}

func (p *plainCluster) goods(o *plainObject) []bool {
	var list []bool
	for number := range o.disks {
		list = append(list, p.isGood(o, number))
	}
	return list
}

func countTrue(list []bool) int64 {
	var count int64
	for _, is := range list {
		if is {
			count++
		}
	}
	return count
}

// isReadable tells by the rank of what is good whether an object can be made of it.
func (p *plainCluster) isReadable(o *plainObject) bool {
	if o.size == 0 {
		return true
	}
	m := impl.Matrix{Cols: p.config.Code.K}
	for number, good := range p.goods(o) {
		if good {
			m.Rows++
			m.Cells = append(m.Cells, impl.CodeRow(p.config.Code, int64(number))...)
		}
	}
	return impl.MatRank(m) == p.config.Code.K
}

// stripes are the good shards of each stripe.
func (p *plainCluster) stripes(o *plainObject) []impl.HeldStripe {
	stripes := make([]impl.HeldStripe, impl.StripeCount(p.config.Code, p.config.Unit, o.size))
	for i := range stripes {
		for number := range o.disks {
			var held impl.Shard
			if p.isGood(o, number) {
				shard, _ := p.shard(o, number)
				held = impl.Shard{Have: true, Data: shard.pieces[i]}
			}
			stripes[i].Shards = append(stripes[i].Shards, held)
		}
	}
	return stripes
}

func clCode(code int64) impl.ClusterOut {
	return impl.ClusterOut{Code: code}
}

func (p *plainCluster) put(op impl.ClusterOp) impl.ClusterOut {
	if len(op.Key) < 1 || len(op.Key) > 200 {
		return clCode(impl.ErrForm)
	}
	if impl.StripeCount(p.config.Code, p.config.Unit, int64(len(op.Data))) == -1 {
		return clCode(impl.ErrSize)
	}
	if p.find(op.Key) != nil {
		return clCode(impl.ErrState)
	}
	if len(p.objects) == 100 {
		return clCode(impl.ErrFull)
	}
	places := impl.PlaceKey(p.nodes(), op.Key, int64(p.size()))
	if places.Code != impl.OK {
		return clCode(places.Code)
	}
	o := &plainObject{key: op.Key, size: int64(len(op.Data)), disks: places.Disks}
	stripes := impl.SplitObject(p.config.Code, p.config.Unit, op.Data).Stripes
	for number := range o.disks {
		var pieces []string
		for _, stripe := range stripes {
			pieces = append(pieces, stripe.Shards[number])
		}
		p.write(o, number, plainShard{pieces: pieces, sum: sumOfPieces(pieces)})
	}
	p.objects = append(p.objects, o)
	slices.SortFunc(p.objects, func(a, b *plainObject) int { return strings.Compare(a.key, b.key) })
	return impl.ClusterOut{}
}

func (p *plainCluster) get(op impl.ClusterOp) impl.ClusterOut {
	o := p.find(op.Key)
	if o == nil {
		return clCode(impl.ErrNone)
	}
	if op.From < 0 || op.Count < 0 {
		return clCode(impl.ErrForm)
	}
	goods := p.goods(o)
	if !p.isReadable(o) {
		if countTrue(goods) >= p.config.Code.K {
			p.seen["lost with as many as there are data"]++
		}
		return clCode(impl.ErrLost)
	}
	data := impl.JoinObject(p.config.Code, p.config.Unit, o.size, p.stripes(o)).Data
	count := op.Count
	if count == 0 {
		count = int64(len(data))
	}
	var out impl.ClusterOut
	if op.From < int64(len(data)) {
		out.Data = data[op.From:]
		out.Data = out.Data[:min(count, int64(len(out.Data)))]
	}
	named := make([]bool, p.size())
	for _, piece := range impl.RangeReads(p.config.Code, p.config.Unit, o.size, op.From, count).Ranges {
		named[piece.Shard] = true
	}
	for number, is := range named {
		if is && goods[number] {
			out.Reads++
		}
	}
	if out.Reads < countTrue(named) {
		p.seen["read of fewer"]++
	}
	if countTrue(goods) < int64(len(goods)) {
		p.seen["read of what is left"]++
	}
	return out
}

func (p *plainCluster) drop(op impl.ClusterOp) impl.ClusterOut {
	o := p.find(op.Key)
	if o == nil {
		return clCode(impl.ErrNone)
	}
	for number, disk := range o.disks {
		delete(p.disks[disk].has, shardOf{o.key, number})
	}
	p.objects = slices.DeleteFunc(p.objects, func(other *plainObject) bool { return other == o })
	return impl.ClusterOut{}
}

func (p *plainCluster) ofDisk(op impl.ClusterOp) impl.ClusterOut {
	if p.isNoDisk(op.Disk) {
		return clCode(impl.ErrForm)
	}
	disk := p.disks[op.Disk]
	switch op.Kind {
	case 4:
		if !disk.works {
			return clCode(impl.ErrState)
		}
		disk.works, disk.has = false, map[shardOf]plainShard{}
	case 5:
		if disk.works {
			return clCode(impl.ErrState)
		}
		disk.works, p.back = true, true
	case 9:
		if op.Num < 0 || op.Num > 64 {
			return clCode(impl.ErrForm)
		}
		disk.node.Weight = op.Num
	}
	return impl.ClusterOut{}
}

func (p *plainCluster) rot(op impl.ClusterOp) impl.ClusterOut {
	o := p.find(op.Key)
	if o == nil {
		return clCode(impl.ErrNone)
	}
	if op.Shard < 0 || op.Shard > int64(p.size())-1 || op.Turn < 1 || op.Turn > 255 {
		return clCode(impl.ErrForm)
	}
	number := int(op.Shard)
	shard, there := p.shard(o, number)
	if !there {
		return clCode(impl.ErrState)
	}
	if op.At < 0 || op.At > int64(len(shard.pieces))*p.config.Unit-1 {
		return clCode(impl.ErrForm)
	}
	pieces := slices.Clone(shard.pieces)
	piece := []byte(pieces[op.At/p.config.Unit])
	piece[op.At%p.config.Unit] ^= byte(op.Turn)
	pieces[op.At/p.config.Unit] = string(piece)
	p.write(o, number, plainShard{pieces: pieces, sum: shard.sum})
	if !shard.right && p.isGood(o, number) {
		p.seen["turned back"]++
	}
	return impl.ClusterOut{}
}

func (p *plainCluster) scrub() impl.ClusterOut {
	var out impl.ClusterOut
	for _, o := range p.objects {
		for number := range o.disks {
			if shard, there := p.shard(o, number); there && !shard.right {
				out.Bent = append(out.Bent, fmt.Sprint(o.key, "#", number))
			}
		}
	}
	return out
}

// isTaken tells whether another shard of the object is said to be on a disk of the domain that works.
func (p *plainCluster) isTaken(o *plainObject, number int, domain int64) bool {
	for other, disk := range o.disks {
		if other != number && p.disks[disk].works && p.disks[disk].node.Domain == domain {
			return true
		}
	}
	return false
}

// freeFor is the disk that a shard gets whose own one does not work, -1 if there is none.
func (p *plainCluster) freeFor(o *plainObject, number int) int64 {
	best, score := int64(-1), int64(-1)
	for disk, node := range p.nodes() {
		if own := impl.DiskScore(p.nodes(), o.key, int64(disk)); own > score && !p.isTaken(o, number, node.Domain) {
			best, score = int64(disk), own
		}
	}
	return best
}

// remade is a shard as it is made of the good ones.
func (p *plainCluster) remade(o *plainObject, number int) plainShard {
	var pieces []string
	for _, stripe := range p.stripes(o) {
		pieces = append(pieces, impl.DecodeShards(p.config.Code, stripe.Shards).Shards[number])
	}
	return plainShard{pieces: pieces, sum: sumOfPieces(pieces)}
}

// needy are the objects with the fewest good shards first.
func (p *plainCluster) needy() []*plainObject {
	list := slices.Clone(p.objects)
	slices.SortFunc(list, func(a, b *plainObject) int {
		if goodA, goodB := countTrue(p.goods(a)), countTrue(p.goods(b)); goodA != goodB {
			return int(goodA - goodB)
		}
		return strings.Compare(a.key, b.key)
	})
	return list
}

func (p *plainCluster) repair(op impl.ClusterOp) impl.ClusterOut {
	if op.Num < 0 || op.Num > 1000 {
		return clCode(impl.ErrForm)
	}
	var out impl.ClusterOut
	for _, o := range p.needy() {
		if !p.isReadable(o) {
			p.seen["a lost one passed by"]++
			continue
		}
		if o.size == 0 && countTrue(p.goods(o)) < p.config.Code.K {
			p.seen["made of nothing"]++
		}
		for number := range o.disks {
			if p.isGood(o, number) {
				continue
			}
			if out.Moved == op.Num {
				p.seen["more to repair than Num"]++
				break
			}
			if p.disks[o.disks[number]].works {
				p.seen["made where it was"]++
			} else if free := p.freeFor(o, number); free >= 0 {
				o.disks[number] = free
				p.seen["made elsewhere"]++
			} else {
				p.seen["no domain is free"]++
				continue
			}
			p.write(o, number, p.remade(o, number))
			out.Moved++
		}
	}
	return out
}

func (p *plainCluster) move(op impl.ClusterOp) impl.ClusterOut {
	if op.Num < 0 || op.Num > 1000 {
		return clCode(impl.ErrForm)
	}
	var out impl.ClusterOut
	for _, o := range p.objects {
		places := impl.PlaceKey(p.nodes(), o.key, int64(p.size()))
		if places.Code != impl.OK {
			p.seen["nowhere to move to"]++
			continue
		}
		for number, disk := range o.disks {
			if slices.Contains(places.Disks, disk) {
				continue
			}
			if !p.isGood(o, number) {
				p.seen["one that is not good stays"]++
				continue
			}
			if out.Moved == op.Num {
				p.seen["more to move than Num"]++
				break
			}
			to := places.Disks[slices.IndexFunc(places.Disks, func(disk int64) bool { return !slices.Contains(o.disks, disk) })]
			if p.isTaken(o, number, p.disks[to].node.Domain) {
				p.seen["the domain is taken"]++
				continue
			}
			shard, _ := p.shard(o, number)
			delete(p.disks[disk].has, shardOf{o.key, number})
			o.disks[number] = to
			p.write(o, number, shard)
			out.Moved++
			p.seen["moved"]++
		}
	}
	return out
}

func (p *plainCluster) doKind(op impl.ClusterOp) impl.ClusterOut {
	switch op.Kind {
	case 1:
		return p.put(op)
	case 2:
		return p.get(op)
	case 3:
		return p.drop(op)
	case 4, 5, 9:
		return p.ofDisk(op)
	case 6:
		return p.rot(op)
	case 7:
		return p.scrub()
	case 8:
		return p.repair(op)
	case 10:
		return p.move(op)
	}
	return clCode(impl.ErrForm)
}

// shares tells whether two shards of an object stand on working disks of one domain.
func (p *plainCluster) shares(o *plainObject) bool {
	for number, disk := range o.disks {
		if p.disks[disk].works && p.isTaken(o, number, p.disks[disk].node.Domain) {
			return true
		}
	}
	return false
}

func (p *plainCluster) do(op impl.ClusterOp) impl.ClusterOut {
	out := p.doKind(op)
	for _, o := range p.objects {
		good := countTrue(p.goods(o))
		out.Good += good
		out.Lacks += int64(len(o.disks)) - good
		if p.shares(o) {
			p.seen["two of one domain"]++
		}
	}
	p.seen[fmt.Sprintf("kind %d code %d", min(max(op.Kind, 0), 11), out.Code)]++
	return out
}

func (p *plainCluster) placed() []impl.Placed {
	var list []impl.Placed
	for _, o := range p.objects {
		list = append(list, impl.Placed{Key: o.key, Size: o.size, Disks: slices.Clone(o.disks)})
	}
	return list
}

func plainClusterRun(c impl.ClusterConfig, ops []impl.ClusterOp) impl.ClusterRun {
	if impl.NodesFault(c.Nodes) != 0 || impl.CodeFault(c.Code) != 0 || c.Unit < 1 || c.Unit > 4096 {
		return impl.ClusterRun{Code: impl.ErrForm}
	}
	if len(ops) > 2000 {
		return impl.ClusterRun{Code: impl.ErrCount}
	}
	p := newPlainCluster(c)
	var run impl.ClusterRun
	for _, op := range ops {
		run.Outs = append(run.Outs, p.do(op))
	}
	run.Objects = p.placed()
	return run
}

func sameClOut(a, b impl.ClusterOut) bool {
	return a.Code == b.Code && a.Data == b.Data && a.Reads == b.Reads && slices.Equal(a.Bent, b.Bent) && a.Moved == b.Moved && a.Good == b.Good && a.Lacks == b.Lacks
}

func samePlaced(a, b impl.Placed) bool {
	return a.Key == b.Key && a.Size == b.Size && slices.Equal(a.Disks, b.Disks)
}

func sameCluster(a, b impl.ClusterRun) bool {
	return a.Code == b.Code && slices.EqualFunc(a.Outs, b.Outs, sameClOut) && slices.EqualFunc(a.Objects, b.Objects, samePlaced)
}

func isOnlyClusterCode(r impl.ClusterRun, code int64) bool {
	return r.Code == code && len(r.Outs) == 0 && len(r.Objects) == 0
}

// pieceOf is what a read of some bytes is to give.
func pieceOf(data string, from, count int64) string {
	if from >= int64(len(data)) {
		return ""
	}
	data = data[from:]
	if count > 0 && count < int64(len(data)) {
		data = data[:count]
	}
	return data
}

// checkReadBack is a half of promise 19: what is read is what was put.
func checkReadBack(t *testing.T, what string, ops []impl.ClusterOp, outs []impl.ClusterOut) {
	t.Helper()
	held := map[string]string{}
	for i, op := range ops {
		if outs[i].Code != impl.OK {
			continue
		}
		switch op.Kind {
		case impl.ClPut:
			held[op.Key] = op.Data
		case impl.ClDrop:
			delete(held, op.Key)
		case impl.ClGet:
			if want := pieceOf(held[op.Key], op.From, op.Count); outs[i].Data != want {
				t.Fatalf("%s: operation %d, %s, reads\n%.100q, not\n%.100q", what, i, shortly(op), outs[i].Data, want)
			}
		}
	}
}

// isStill tells whether an operation with this answer changes nothing.
func isStill(op impl.ClusterOp, out impl.ClusterOut) bool {
	return out.Code != impl.OK || op.Kind == impl.ClGet || op.Kind == impl.ClScrub || (op.Kind == impl.ClRepair || op.Kind == impl.ClMove) && out.Moved == 0
}

// checkStill leaves out all operations that change nothing: what the others answer, and the objects, is the same
// without them.
func checkStill(t *testing.T, what string, c impl.ClusterConfig, ops []impl.ClusterOp, got impl.ClusterRun) {
	t.Helper()
	var rest []impl.ClusterOp
	want := impl.ClusterRun{Objects: got.Objects}
	for i, out := range got.Outs {
		if !isStill(ops[i], out) {
			rest = append(rest, ops[i])
			want.Outs = append(want.Outs, out)
		}
	}
	if len(rest) < len(ops) && !sameCluster(impl.RunCluster(c, rest), want) {
		t.Fatalf("%s: an operation that reads, or is refused, changed something", what)
	}
}

// holdAgainst holds a run against another one.
func holdAgainst(t *testing.T, what string, ops []impl.ClusterOp, got, want impl.ClusterRun) {
	t.Helper()
	if got.Code != want.Code || len(got.Outs) != len(want.Outs) || len(got.Objects) != len(want.Objects) {
		t.Fatalf("%s: code %d with %d outs and %d objects, not %d with %d and %d", what, got.Code, len(got.Outs), len(got.Objects), want.Code, len(want.Outs), len(want.Objects))
	}
	for i := range got.Outs {
		if !sameClOut(got.Outs[i], want.Outs[i]) {
			t.Fatalf("%s: operation %d, %s:\n%s, not\n%s", what, i, shortly(ops[i]), shortly(got.Outs[i]), shortly(want.Outs[i]))
		}
	}
	for i := range got.Objects {
		if !samePlaced(got.Objects[i], want.Objects[i]) {
			t.Fatalf("%s: object %d is\n%s, not\n%s", what, i, shortly(got.Objects[i]), shortly(want.Objects[i]))
		}
	}
}

// checkCluster holds a run against the plain one.
func checkCluster(t *testing.T, what string, c impl.ClusterConfig, ops []impl.ClusterOp) impl.ClusterRun {
	t.Helper()
	got := impl.RunCluster(c, ops)
	holdAgainst(t, what, ops, got, plainClusterRun(c, ops))
	checkStill(t, what, c, ops, got)
	return got
}

// checkRead is checkCluster, for runs in which no shard is bent so that its sum is right all the same.
func checkRead(t *testing.T, what string, c impl.ClusterConfig, ops []impl.ClusterOp) impl.ClusterRun {
	t.Helper()
	got := checkCluster(t, what, c, ops)
	checkReadBack(t, what, ops, got.Outs)
	return got
}

// clProbes are operations that tell all that a cluster has, and change nothing: which shards are there, which of them
// are bent, and what each object is.
func clProbes(objects []impl.Placed) []impl.ClusterOp {
	ops := []impl.ClusterOp{clScrub()}
	for _, o := range objects {
		ops = append(ops, clGet(o.Key))
		for number := range o.Disks {
			// A byte that there is not, but of a shard that is there: another code.
			ops = append(ops, clRot(o.Key, int64(number), -1, 1))
		}
	}
	return ops
}

// clTells are operations behind the probes that tell how the disks are, and what they weigh.
func clTells(c impl.ClusterConfig) []impl.ClusterOp {
	ops := []impl.ClusterOp{clPut("a key of the test's", "x"), clPut("another key of the test's", ""), clMove(clAll), clRepair(clAll), clMove(clAll)}
	for disk := range c.Nodes {
		ops = append(ops, clBack(int64(disk)))
	}
	return append(ops, clMove(clAll), clRepair(clAll), clPut("a third key of the test's", "x"), clMove(clAll), clScrub())
}

// checkRepaired is a half of promise 20: behind a repair that was enough, what is lacking has to.
func checkRepaired(t *testing.T, what string, p *plainCluster) {
	t.Helper()
	for _, o := range p.objects {
		if !p.isReadable(o) {
			continue
		}
		for number, disk := range o.disks {
			if p.isGood(o, number) {
				continue
			}
			if p.disks[disk].works {
				t.Fatalf("%s: %q lacks shard %d, whose disk works", what, o.key, number)
			}
			for other, node := range p.nodes() {
				if node.Weight > 0 && !p.isTaken(o, number, node.Domain) {
					t.Fatalf("%s: %q lacks shard %d, though disk %d is of a free domain", what, o.key, number, other)
				}
			}
		}
	}
}

// checkApart is the other half: no two shards of an object stand on working disks of one domain.
func checkApart(t *testing.T, what string, p *plainCluster, objects []impl.Placed) {
	t.Helper()
	for _, o := range objects {
		stands := map[int64]int64{}
		for _, disk := range o.Disks {
			domain := p.disks[disk].node.Domain
			if other, there := stands[domain]; there && p.disks[disk].works {
				t.Fatalf("%s: %q has shards on disks %d and %d of domain %d", what, o.Key, other, disk, domain)
			}
			if p.disks[disk].works {
				stands[domain] = disk
			}
		}
	}
}

// checkClusterAtEach looks at the whole cluster behind each operation, or behind each so many, and holds it to both
// promises.
func checkClusterAtEach(t *testing.T, what string, c impl.ClusterConfig, ops []impl.ClusterOp, every int) impl.ClusterRun {
	t.Helper()
	got := checkRead(t, what, c, ops)
	p := newPlainCluster(c)
	for i, op := range ops {
		lacked := int64(0)
		if i > 0 {
			lacked = got.Outs[i-1].Lacks
		}
		p.do(op)
		if i%every != 0 && i < len(ops)-1 && op.Kind != impl.ClRepair && op.Kind != impl.ClMove {
			continue
		}
		behind := fmt.Sprint(what, ", behind operation ", i, ", ", shortly(op))
		tell := clProbes(p.placed())
		asked := slices.Concat(ops[:i+1], tell)
		step := impl.RunCluster(c, asked)
		want := impl.ClusterRun{Outs: slices.Clone(got.Outs[:i+1]), Objects: p.placed()}
		for _, probe := range tell {
			want.Outs = append(want.Outs, p.do(probe))
		}
		holdAgainst(t, behind, asked, step, want)
		checkReadBack(t, behind, asked, step.Outs)
		if op.Kind == impl.ClRepair && op.Num >= lacked && op.Num <= clAll {
			checkRepaired(t, behind, p)
		}
		if !p.back {
			checkApart(t, behind, p, step.Objects)
		}
	}
	return got
}

// clStep is an operation with what it is to answer.
type clStep struct {
	op  impl.ClusterOp
	out impl.ClusterOut
}

// clOut is an answer: code, good, lacks.
func clOut(code, good, lacks int64) impl.ClusterOut {
	return impl.ClusterOut{Code: code, Good: good, Lacks: lacks}
}

// clTold is an answer to a read: data, reads, good, lacks.
func clTold(data string, reads, good, lacks int64) impl.ClusterOut {
	return impl.ClusterOut{Data: data, Reads: reads, Good: good, Lacks: lacks}
}

// clMoved is an answer to a repair or a move: moved, good, lacks.
func clMoved(moved, good, lacks int64) impl.ClusterOut {
	return impl.ClusterOut{Moved: moved, Good: good, Lacks: lacks}
}

// clBent is an answer to a scrub.
func clBent(good, lacks int64, bent ...string) impl.ClusterOut {
	return impl.ClusterOut{Good: good, Lacks: lacks, Bent: bent}
}

// checkClusterSteps is checkClusterAtEach with the answer of each operation.
func checkClusterSteps(t *testing.T, what string, c impl.ClusterConfig, steps []clStep) impl.ClusterRun {
	t.Helper()
	var ops []impl.ClusterOp
	for _, step := range steps {
		ops = append(ops, step.op)
	}
	run := checkClusterAtEach(t, what, c, ops, 1)
	for i, step := range steps {
		if !sameClOut(run.Outs[i], step.out) {
			t.Errorf("%s: operation %d, %s:\n%s, not\n%s", what, i, shortly(step.op), shortly(run.Outs[i]), shortly(step.out))
		}
	}
	return run
}

// checkDisks holds the disks of the objects, by rising keys, to what is written out.
func checkDisks(t *testing.T, what string, run impl.ClusterRun, disks ...[]int64) {
	t.Helper()
	if len(run.Objects) != len(disks) {
		t.Fatalf("%s: %d objects", what, len(run.Objects))
	}
	for i, o := range run.Objects {
		if !slices.Equal(o.Disks, disks[i]) {
			t.Errorf("%s: %q is on %v, not on %v", what, o.Key, o.Disks, disks[i])
		}
	}
}

// checkRefusedByCluster does one operation more than a run: it answers a code with what is good and what is not, and
// the cluster is as it was.
func checkRefusedByCluster(t *testing.T, what string, c impl.ClusterConfig, ops []impl.ClusterOp, op impl.ClusterOp, code int64) {
	t.Helper()
	ahead := impl.RunCluster(c, ops)
	want := clCode(code)
	if len(ops) > 0 {
		last := ahead.Outs[len(ops)-1]
		want.Good, want.Lacks = last.Good, last.Lacks
	}
	got := impl.RunCluster(c, slices.Concat(ops, []impl.ClusterOp{op}))
	if len(got.Outs) != len(ops)+1 {
		t.Fatalf("%s: %d outs", what, len(got.Outs))
	}
	if out := got.Outs[len(ops)]; !sameClOut(out, want) {
		t.Errorf("%s: %s:\n%s, not\n%s", what, shortly(op), shortly(out), shortly(want))
	}
	if !slices.EqualFunc(got.Outs[:len(ops)], ahead.Outs, sameClOut) || !slices.EqualFunc(got.Objects, ahead.Objects, samePlaced) {
		t.Errorf("%s: %s: the objects are others", what, shortly(op))
	}
	tell := slices.Concat(clProbes(ahead.Objects), clTells(c))
	was := impl.RunCluster(c, slices.Concat(ops, tell))
	now := impl.RunCluster(c, slices.Concat(ops, []impl.ClusterOp{op}, tell))
	if len(was.Outs) == 0 || !slices.EqualFunc(was.Outs[len(ops):], now.Outs[len(ops)+1:], sameClOut) || !slices.EqualFunc(was.Objects, now.Objects, samePlaced) {
		t.Errorf("%s: %s: the cluster has become another", what, shortly(op))
	}
}

// clusterRuns draws clusters and operations.
type clusterRuns struct {
	chance *rand.Rand
}

func newClusterRuns(seed int64) clusterRuns {
	return clusterRuns{rand.New(rand.NewSource(seed))}
}

// clusterCodes are those of drawn clusters: without and with groups, and such as bear nothing.
var clusterCodes = []impl.Code{
	{K: 1}, {K: 1, M: 2}, {K: 1, Groups: 1}, {K: 2, M: 1}, {K: 2, M: 2}, {K: 2, M: 1, Groups: 1}, {K: 2, Groups: 2}, {K: 3, M: 2}, {K: 3, M: 1, Groups: 2}, {K: 3, Groups: 3}, {K: 4, M: 2}, {K: 4, M: 2, Groups: 2}, {K: 4, M: 1, Groups: 3}, {K: 5, M: 3, Groups: 1}, {K: 3, Groups: 1},
}

// nodes are of so many domains, of one to three disks each, in any order.
func (x clusterRuns) nodes(domains int64) []impl.Node {
	var nodes []impl.Node
	for domain := range domains {
		for range []int{1, 1, 2, 3}[x.chance.Intn(4)] {
			nodes = append(nodes, impl.Node{Domain: domain * 3, Weight: []int64{0, 1, 1, 1, 2, 3, 5, 64}[x.chance.Intn(8)]})
		}
	}
	x.chance.Shuffle(len(nodes), func(i, j int) { nodes[i], nodes[j] = nodes[j], nodes[i] })
	return nodes
}

func (x clusterRuns) config() impl.ClusterConfig {
	code := clusterCodes[x.chance.Intn(len(clusterCodes))]
	domains := impl.CodeSize(code) + []int64{0, 1, 1, 2, 2, 3, 4, 6}[x.chance.Intn(8)]
	return impl.ClusterConfig{Code: code, Unit: 1 + x.chance.Int63n(4), Nodes: x.nodes(domains)}
}

// bytes are any, or all the same: then shards are, too.
func (x clusterRuns) bytes(size int64) string {
	data := make([]byte, size)
	if x.chance.Intn(5) > 0 {
		x.chance.Read(data)
	}
	return string(data)
}

func (x clusterRuns) data(c impl.ClusterConfig) string {
	stripe := c.Code.K * c.Unit
	sizes := []int64{0, 0, 1, c.Unit, stripe - 1, stripe, stripe + 1, 2 * stripe, 3*stripe - 1, x.chance.Int63n(4*stripe + 1), x.chance.Int63n(4*stripe + 1)}
	return x.bytes(sizes[x.chance.Intn(len(sizes))])
}

var clusterKeys = []string{"a", "b", "c", "a!", "a#1", "a#", "\x00", "\xff", "key/1", "key/2"}

func (x clusterRuns) key(p *plainCluster) string {
	if len(p.objects) > 0 && x.chance.Intn(8) > 0 {
		return p.objects[x.chance.Intn(len(p.objects))].key
	}
	return clusterKeys[x.chance.Intn(len(clusterKeys))]
}

// disk is mostly one that an object is said to be on, and works or does not, as is asked.
func (x clusterRuns) disk(p *plainCluster, works bool) int64 {
	var list []int64
	for _, o := range p.objects {
		for _, disk := range o.disks {
			if p.disks[disk].works == works {
				list = append(list, disk)
			}
		}
	}
	for disk := range p.disks {
		if p.disks[disk].works == works {
			list = append(list, int64(disk))
		}
	}
	if len(list) == 0 || x.chance.Intn(15) == 0 {
		return x.chance.Int63n(int64(len(p.disks)))
	}
	return list[x.chance.Intn(len(list))]
}

func (x clusterRuns) num() int64 {
	return []int64{0, 1, 1, 2, 3, 5, clAll, clAll, clAll, clAll}[x.chance.Intn(10)]
}

// rot turns mostly one of few bytes by one of few turns, so that some are turned back.
func (x clusterRuns) rot(p *plainCluster) impl.ClusterOp {
	key := x.key(p)
	at := x.chance.Int63n(2)
	if o := p.find(key); o != nil && x.chance.Intn(2) == 0 {
		stripes := impl.StripeCount(p.config.Code, p.config.Unit, o.size)
		at = x.chance.Int63n(stripes*p.config.Unit + 1)
	}
	return clRot(key, x.chance.Int63n(int64(p.size())), at, []int64{1, 1, 1, 255, 128, 7}[x.chance.Intn(6)])
}

func (x clusterRuns) piece(p *plainCluster) impl.ClusterOp {
	key := x.key(p)
	size := int64(3)
	if o := p.find(key); o != nil {
		size = o.size
	}
	return clPiece(key, x.chance.Int63n(size+2), x.chance.Int63n(size+2))
}

// wrong is an operation that has a fault in itself, or names what there is not.
func (x clusterRuns) wrong(p *plainCluster) impl.ClusterOp {
	none := []int64{-1, -2, math.MinInt64, math.MaxInt64, 1 << 32, int64(len(p.disks)), int64(len(p.disks)) + 1}[x.chance.Intn(7)]
	below := []int64{-1, -2, math.MinInt64}[x.chance.Intn(3)]
	key := x.key(p)
	list := []impl.ClusterOp{
		{Key: key}, {Kind: 11, Key: key, Data: "x", Num: 1}, {Kind: -1}, {Kind: 1<<32 + 1, Key: "new"}, {Kind: math.MinInt64 + 4}, clPut("", "x"), clPut(times("k", 201), "x"), clPut(key, times("x", impl.MaxBytes+1)), clPut("new", times("x", int(200*p.config.Code.K*p.config.Unit)+1)),
		clGet("nowhere"), clGet(""), clPiece(key, below, 0), clPiece(key, 0, below), clDrop("nowhere"), clFail(none), clBack(none), clWeight(none, 1), clWeight(0, below), clWeight(0, 65), clWeight(0, math.MaxInt64),
		clRot("nowhere", 0, 0, 1), clRot(key, below, 0, 1), clRot(key, int64(p.size()), 0, 1), clRot(key, 0, 0, 0), clRot(key, 0, 0, 256), clRot(key, 0, 0, below), clRot(key, 0, below, 1), clRot(key, 0, math.MaxInt64, 1), clRepair(below), clRepair(1001), clMove(below), clMove(1001), clRepair(math.MaxInt64), clMove(math.MaxInt64),
	}
	return list[x.chance.Intn(len(list))]
}

func (x clusterRuns) op(p *plainCluster) impl.ClusterOp {
	switch kind := x.chance.Intn(100); {
	case kind < 14 || len(p.objects) == 0 && kind < 60:
		return clPut(clusterKeys[x.chance.Intn(len(clusterKeys))], x.data(p.config))
	case kind < 24:
		return clGet(x.key(p))
	case kind < 32:
		return x.piece(p)
	case kind < 35:
		return clDrop(x.key(p))
	case kind < 46:
		return clFail(x.disk(p, true))
	case kind < 55:
		return clBack(x.disk(p, false))
	case kind < 66:
		return x.rot(p)
	case kind < 70:
		return clScrub()
	case kind < 80:
		return clRepair(x.num())
	case kind < 87:
		return clWeight(x.disk(p, x.chance.Intn(4) > 0), []int64{0, 0, 1, 2, 3, 8, 64}[x.chance.Intn(7)])
	case kind < 94:
		return clMove(x.num())
	}
	return x.wrong(p)
}

// ops draws a run, each operation with an eye to what there is then, and counts what is met in it.
func (x clusterRuns) ops(count int, c impl.ClusterConfig, seen met) []impl.ClusterOp {
	p := newPlainCluster(c)
	p.seen = seen
	var ops []impl.ClusterOp
	for range count {
		op := x.op(p)
		p.do(op)
		ops = append(ops, op)
	}
	return ops
}

// opsWithoutBack draws a run in which no disk comes back.
func (x clusterRuns) opsWithoutBack(count int, c impl.ClusterConfig, seen met) []impl.ClusterOp {
	p := newPlainCluster(c)
	p.seen = seen
	var ops []impl.ClusterOp
	for range count {
		op := x.op(p)
		if op.Kind == impl.ClBack {
			op = []impl.ClusterOp{clRepair(clAll), clMove(clAll)}[x.chance.Intn(2)]
		}
		p.do(op)
		ops = append(ops, op)
	}
	return ops
}

func TestP19LimitsAndKindsAsTheDocumentHasThem(t *testing.T) {
	got := []int{impl.MaxHeld, impl.ClPut, impl.ClGet, impl.ClDrop, impl.ClFail, impl.ClBack, impl.ClRot, impl.ClScrub, impl.ClRepair, impl.ClWeight, impl.ClMove}
	if !slices.Equal(got, []int{100, 1, 2, 3, 4, 5, 6, 7, 8, 9, 10}) {
		t.Error(got)
	}
	// They go with numbers of any type.
	if small := uint8(1); small != impl.ClPut {
		t.Error(small)
	}
}

func TestP19DrawnRunsAsThePlainWords(t *testing.T) {
	x := newClusterRuns(191)
	seen := met{}
	for i := range 1500 {
		c := x.config()
		checkRead(t, fmt.Sprint("drawn ", i, " ", c.Code, c.Unit), c, x.ops(20+x.chance.Intn(80), c, seen))
	}
	seen.want(t, 40, "kind 0 code 1", "kind 11 code 1", "kind 1 code 0", "kind 1 code 1", "kind 1 code 2", "kind 1 code 6", "kind 1 code 7", "kind 2 code 0", "kind 2 code 1", "kind 2 code 5", "kind 2 code 8", "kind 3 code 0", "kind 3 code 5",
		"kind 4 code 0", "kind 4 code 1", "kind 4 code 6", "kind 5 code 0", "kind 5 code 1", "kind 5 code 6", "kind 6 code 0", "kind 6 code 1", "kind 6 code 5", "kind 6 code 6", "kind 7 code 0", "kind 8 code 0", "kind 8 code 1",
		"kind 9 code 0", "kind 9 code 1", "kind 10 code 0", "kind 10 code 1",
		"lost with as many as there are data", "read of fewer", "read of what is left", "turned back", "a lost one passed by", "made of nothing", "more to repair than Num", "made where it was", "made elsewhere", "no domain is free",
		"nowhere to move to", "one that is not good stays", "more to move than Num", "the domain is taken", "moved", "two of one domain")
}

// clSmall is a cluster of 2 data shards and a parity, of units of 2 bytes, on disks of so many domains.
func clSmall(domains int) impl.ClusterConfig {
	return impl.ClusterConfig{Code: impl.Code{K: 2, M: 1}, Unit: 2, Nodes: alike(domains, 1)}
}

// A run whose answers and disks are written out here.
func TestP19ARunAsKnown(t *testing.T) {
	run := checkClusterSteps(t, "known", clSmall(4), []clStep{
		{clPut("k", "abcdefg"), clOut(0, 3, 0)}, {clGet("k"), clTold("abcdefg", 2, 3, 0)}, {clPiece("k", 1, 3), clTold("bcd", 2, 3, 0)}, {clPiece("k", 4, 2), clTold("ef", 1, 3, 0)}, {clPut("a", ""), clOut(0, 6, 0)}, {clGet("a"), clTold("", 0, 6, 0)},
		{clRot("k", 0, 3, 5), clOut(0, 5, 1)}, {clScrub(), clBent(5, 1, "k#0")}, {clGet("k"), clTold("abcdefg", 1, 5, 1)}, {clPiece("k", 4, 2), clTold("ef", 0, 5, 1)}, {clRot("k", 0, 3, 5), clOut(0, 6, 0)}, {clScrub(), clBent(6, 0)},
		{clFail(1), clOut(0, 4, 2)}, {clPut("b", "x"), clOut(0, 7, 2)}, {clRepair(1), clMoved(1, 8, 1)}, {clRepair(9), clMoved(1, 9, 0)}, {clBack(1), clOut(0, 9, 0)}, {clMove(1), clMoved(1, 9, 0)}, {clMove(1000), clMoved(2, 9, 0)},
		{clFail(3), clOut(0, 7, 2)}, {clFail(0), clOut(0, 4, 5)}, {clGet("k"), clOut(impl.ErrLost, 4, 5)}, {clGet("a"), clTold("", 0, 4, 5)}, {clRepair(1000), clMoved(0, 4, 5)}, {clWeight(2, 0), clOut(0, 4, 5)}, {clBack(0), clOut(0, 4, 5)},
		{clRepair(1000), clMoved(1, 5, 4)}, {clDrop("k"), clOut(0, 4, 2)}, {clGet("k"), clOut(impl.ErrNone, 4, 2)}, {clPut("k", "z"), clOut(impl.ErrFull, 4, 2)}, {impl.ClusterOp{}, clOut(impl.ErrForm, 4, 2)},
	})
	checkDisks(t, "known", run, []int64{0, 2, 1}, []int64{3, 0, 1})
	if run.Objects[0].Key != "a" || run.Objects[0].Size != 0 || run.Objects[1].Key != "b" || run.Objects[1].Size != 1 {
		t.Errorf("%+v", run.Objects)
	}
}

func TestP19DrawnRunsBehindEachOperation(t *testing.T) {
	x := newClusterRuns(193)
	for i := range 150 {
		c := x.config()
		checkClusterAtEach(t, fmt.Sprint("behind each ", i, " ", c.Code, c.Unit), c, x.ops(45, c, met{}), 1)
	}
}

// lossesOf are operations behind which an object has just the shards that are had: the others' disks fail, or they rot,
// or the one and the other.
func lossesOf(key string, disks []int64, have []bool, way int) []impl.ClusterOp {
	var ops []impl.ClusterOp
	for number, has := range have {
		if has {
			continue
		}
		if way == 0 || way == 2 && number%2 == 0 {
			ops = append(ops, clFail(disks[number]))
		} else {
			ops = append(ops, clRot(key, int64(number), int64(number%2), 1+int64(number*31)%255))
		}
	}
	return ops
}

// checkLost loses all shards of an object but some, reads it, and repairs it: which are enough is told by their rows.
func checkLost(t *testing.T, p objects, c impl.ClusterConfig, data string, have []bool, way int) {
	t.Helper()
	key := "object"
	disks := impl.PlaceKey(c.Nodes, key, impl.CodeSize(c.Code)).Disks
	ops := append([]impl.ClusterOp{clPut(key, data)}, lossesOf(key, disks, have, way)...)
	ops = append(ops, clGet(key), clPiece(key, 1, 2), clRepair(clAll), clGet(key))
	run := impl.RunCluster(c, ops)
	size, good := impl.CodeSize(c.Code), countTrue(have)
	read, piece, repaired, again := run.Outs[len(ops)-4], run.Outs[len(ops)-3], run.Outs[len(ops)-2], run.Outs[len(ops)-1]
	if len(p.taken(p.rows(c.Code), have)) < int(c.Code.K) {
		lost, still := clOut(impl.ErrLost, good, size-good), clMoved(0, good, size-good)
		if !sameClOut(read, lost) || !sameClOut(piece, lost) || !sameClOut(repaired, still) || !sameClOut(again, lost) {
			t.Fatalf("%v with %v is not lost: %s, %s, %s, %s", c.Code, have, shortly(read), shortly(piece), shortly(repaired), shortly(again))
		}
		return
	}
	if want := clTold(data, countTrue(have[:c.Code.K]), good, size-good); !sameClOut(read, want) {
		t.Fatalf("%v with %v:\n%s, not\n%s", c.Code, have, shortly(read), shortly(want))
	}
	if piece.Code != impl.OK || piece.Data != pieceOf(data, 1, 2) {
		t.Fatalf("%v with %v: a piece is %s", c.Code, have, shortly(piece))
	}
	if !sameClOut(repaired, clMoved(size-good, size, 0)) || !sameClOut(again, clTold(data, c.Code.K, size, 0)) {
		t.Fatalf("%v with %v: repaired %s, read %s", c.Code, have, shortly(repaired), shortly(again))
	}
}

// All ways to lose shards of small codes: the object is read back, or lost, by what is left.
func TestP19AnyShardsLost(t *testing.T) {
	p := newObjects()
	for _, code := range smallCodes {
		c := impl.ClusterConfig{Code: code, Unit: 2, Nodes: alike(2*int(impl.CodeSize(code)), 2)}
		for i, have := range subsets(impl.CodeSize(code)) {
			// Each data shard has a byte: with the whole object all of them are named.
			size := int(code.K)*2*(i%3) + int(code.K)*2 - 1 + i%2
			for way := range 3 {
				checkLost(t, p, c, p.drawn(size), have, way)
			}
		}
	}
}

func TestP19ShardsOfGreatCodesLost(t *testing.T) {
	p := newObjects()
	for _, code := range greatCodes {
		size := impl.CodeSize(code)
		c := impl.ClusterConfig{Code: code, Unit: 3, Nodes: alike(2*int(size), 1)}
		for way := range 3 {
			for _, count := range []int64{code.K - 1, code.K, code.K + 1, (code.K + size) / 2, (code.K + 4*size) / 5, size - 1, size} {
				have := only(size, p.chance.Perm(int(size))[:min(max(count, 0), size)])
				checkLost(t, p, c, p.drawn(int(3*code.K)*(1+way)), have, way)
			}
		}
	}
}

// Without groups any M shards may go, and no more: one after the other.
func TestP19AsManyLostAsTheCodeBears(t *testing.T) {
	x := newClusterRuns(197)
	for _, code := range []impl.Code{{K: 1}, {K: 1, M: 3}, {K: 1, M: 16}, {K: 2, M: 1}, {K: 4, M: 2}, {K: 6, M: 3}, {K: 10, M: 4}, {K: 32, M: 16}} {
		size := impl.CodeSize(code)
		c := impl.ClusterConfig{Code: code, Unit: 5, Nodes: alike(int(size), 3)}
		data := x.bytes(code.K*5*3 - 2)
		disks := impl.PlaceKey(c.Nodes, "k", size).Disks
		ops := []impl.ClusterOp{clPut("k", data), clGet("k")}
		order := x.chance.Perm(int(size))
		for i, number := range order {
			if i%2 == 0 {
				ops = append(ops, clFail(disks[number]))
			} else {
				ops = append(ops, clRot("k", int64(number), x.chance.Int63n(15), 1+x.chance.Int63n(255)))
			}
			ops = append(ops, clGet("k"))
		}
		run := checkRead(t, fmt.Sprint(code), c, ops)
		for lost := range int(size) + 1 {
			out := run.Outs[2*lost+1]
			if isLost := lost > int(code.M); isLost != (out.Code == impl.ErrLost) || !isLost && out.Data != data || out.Lacks != int64(lost) {
				t.Errorf("%v with %d lost: %s", code, lost, shortly(out))
			}
		}
	}
}

// checkAllRanges reads an object by all ranges, with a data shard lacking, or none if that is -1.
func checkAllRanges(t *testing.T, c impl.ClusterConfig, data string, lost int64) {
	t.Helper()
	size := int64(len(data))
	ops := []impl.ClusterOp{clPut("k", data), clRot("k", lost, 0, 9), clGet("k"), clPiece("k", 0, size), clPiece("k", size, 5)}
	for from := range size + 2 {
		for count := range size + 3 - from {
			ops = append(ops, clPiece("k", from, count))
		}
	}
	run := checkRead(t, fmt.Sprint(c.Code, c.Unit, " of ", size), c, ops)
	for i, out := range run.Outs {
		if ops[i].Kind == impl.ClGet && out.Code != impl.OK {
			t.Fatalf("%v, unit %d, size %d: %s: %s", c.Code, c.Unit, size, shortly(ops[i]), shortly(out))
		}
	}
}

// All ranges of objects of any size up to some stripes, whole and with each data shard lacking.
func TestP19ObjectsOfAnySizeByAnyRange(t *testing.T) {
	x := newClusterRuns(199)
	for _, code := range []impl.Code{{K: 1, M: 1}, {K: 2, M: 1}, {K: 3, M: 2, Groups: 1}} {
		for unit := int64(1); unit <= 3; unit++ {
			c := impl.ClusterConfig{Code: code, Unit: unit, Nodes: alike(int(impl.CodeSize(code)), 1)}
			stripe := code.K * unit
			for size := int64(0); size <= 3*stripe+1; size++ {
				for lost := int64(-1); lost < code.K; lost++ {
					checkAllRanges(t, c, x.bytes(size), lost)
				}
			}
		}
	}
}

// Reads tells of the data shards that the range names those that are good, each once, however many stripes there are.
func TestP19ReadsAreOfTheDataShardsThatAreNamed(t *testing.T) {
	c := impl.ClusterConfig{Code: impl.Code{K: 4, M: 3, Groups: 1}, Unit: 3, Nodes: alike(8, 1)}
	data := mixedBytes(50)
	disks := impl.PlaceKey(c.Nodes, "k", 8).Disks
	checkClusterSteps(t, "reads", c, []clStep{
		{clPut("k", data), clOut(0, 8, 0)}, {clGet("k"), clTold(data, 4, 8, 0)}, {clPiece("k", 0, 3), clTold(data[:3], 1, 8, 0)}, {clPiece("k", 2, 2), clTold(data[2:4], 2, 8, 0)}, {clPiece("k", 9, 4), clTold(data[9:13], 2, 8, 0)}, {clPiece("k", 9, 7), clTold(data[9:16], 3, 8, 0)},
		{clPiece("k", 8, 13), clTold(data[8:21], 4, 8, 0)}, {clPiece("k", 47, 0), clTold(data[47:], 2, 8, 0)}, {clPiece("k", 48, 0), clTold(data[48:], 1, 8, 0)}, {clPiece("k", 49, 100), clTold(data[49:], 1, 8, 0)}, {clPiece("k", 50, 1), clTold("", 0, 8, 0)}, {clPiece("k", 51, 0), clTold("", 0, 8, 0)},
		{clFail(disks[3]), clOut(0, 7, 1)}, {clGet("k"), clTold(data, 3, 7, 1)}, {clPiece("k", 9, 3), clTold(data[9:12], 0, 7, 1)}, {clPiece("k", 9, 4), clTold(data[9:13], 1, 7, 1)}, {clPiece("k", 8, 13), clTold(data[8:21], 3, 7, 1)},
		{clRot("k", 1, 0, 1), clOut(0, 6, 2)}, {clGet("k"), clTold(data, 2, 6, 2)}, {clPiece("k", 15, 3), clTold(data[15:18], 0, 6, 2)}, {clPiece("k", 8, 13), clTold(data[8:21], 2, 6, 2)},
		// Parities are never named.
		{clRot("k", 4, 0, 1), clOut(0, 5, 3)}, {clRot("k", 7, 2, 1), clOut(0, 4, 4)}, {clGet("k"), clTold(data, 2, 4, 4)}, {clBack(disks[3]), clOut(0, 4, 4)}, {clGet("k"), clTold(data, 2, 4, 4)}, {clRot("k", 5, 0, 1), clOut(0, 3, 5)},
		{clGet("k"), clOut(impl.ErrLost, 3, 5)}, {clPiece("k", 0, 3), clOut(impl.ErrLost, 3, 5)}, {clPiece("k", 50, 1), clOut(impl.ErrLost, 3, 5)}, {clPiece("k", 99, 0), clOut(impl.ErrLost, 3, 5)}, {clPiece("k", -1, 0), clOut(impl.ErrForm, 3, 5)},
	})
}

func TestP19RangesUpToTheGreatestNumbers(t *testing.T) {
	c := clSmall(3)
	ops := []impl.ClusterOp{clPut("k", "abcdefg"), clPut("none", "")}
	from := []int64{0, 1, 6, 7, 8, 1 << 32, math.MaxInt64 - 1, math.MaxInt64}
	for _, at := range from {
		for _, count := range []int64{0, 1, 6, 7, 8, 1 << 32, math.MaxInt64 - 1, math.MaxInt64} {
			ops = append(ops, clPiece("k", at, count), clPiece("none", at, count))
		}
	}
	run := checkRead(t, "greatest", c, ops)
	for i, out := range run.Outs[2:] {
		if out.Code != impl.OK || i%2 == 1 && (out.Data != "" || out.Reads != 0) {
			t.Errorf("%s: %s", shortly(ops[i+2]), shortly(out))
		}
	}
}

// An object without bytes has shards that are there or not, but is never lost.
func TestP19AnObjectWithoutBytesIsNeverLost(t *testing.T) {
	for _, code := range clusterCodes {
		size := impl.CodeSize(code)
		c := impl.ClusterConfig{Code: code, Unit: 4, Nodes: alike(int(size), 1)}
		steps := []clStep{{clPut("none", ""), clOut(0, size, 0)}, {clRot("none", 0, 0, 1), clOut(impl.ErrForm, size, 0)}, {clScrub(), clBent(size, 0)}}
		for disk := range size {
			left := size - disk - 1
			steps = append(steps, clStep{clFail(disk), clOut(0, left, disk+1)}, clStep{clGet("none"), clTold("", 0, left, disk+1)}, clStep{clPiece("none", 3, 3), clTold("", 0, left, disk+1)}, clStep{clPiece("none", 0, -1), clOut(impl.ErrForm, left, disk+1)})
		}
		steps = append(steps, clStep{clRepair(clAll), clMoved(0, 0, size)}, clStep{clBack(0), clOut(0, 0, size)}, clStep{clGet("none"), clTold("", 0, 0, size)}, clStep{clRepair(clAll), clMoved(1, 1, size-1)}, clStep{clDrop("none"), clOut(0, 0, 0)})
		checkClusterSteps(t, fmt.Sprint(code), c, steps)
	}
}

// Each byte of each shard, those that fill up the last stripe too, turned and turned back.
func TestP19EachByteOfEachShard(t *testing.T) {
	data := "an object of some stripes!"
	for _, code := range []impl.Code{{K: 3, M: 1}, {K: 3}, {K: 2, M: 1, Groups: 2}} {
		size := impl.CodeSize(code)
		c := impl.ClusterConfig{Code: code, Unit: 4, Nodes: alike(int(size), 1)}
		bytes := 4 * impl.StripeCount(code, 4, int64(len(data)))
		for number := range size {
			var steps []clStep
			steps = append(steps, clStep{clPut("k", data), clOut(0, size, 0)}, clStep{clPut("other", "x"), clOut(0, 2*size, 0)})
			for at := range bytes {
				turn := []int64{1, 255, 128, 2, 1 + (at*37+number)%255}[at%5]
				told := clTold(data, code.K, 2*size-1, 1)
				if number < code.K {
					told.Reads--
				}
				if code.M+code.Groups == 0 {
					told = clOut(impl.ErrLost, 2*size-1, 1)
				}
				steps = append(steps, clStep{clRot("k", number, at, turn), clOut(0, 2*size-1, 1)}, clStep{clScrub(), clBent(2*size-1, 1, fmt.Sprint("k#", number))}, clStep{clGet("k"), told}, clStep{clGet("other"), clTold("x", 1, 2*size-1, 1)}, clStep{clRot("k", number, at, turn), clOut(0, 2*size, 0)})
			}
			steps = append(steps, clStep{clRot("k", number, bytes, 1), clOut(impl.ErrForm, 2*size, 0)}, clStep{clScrub(), clBent(2*size, 0)}, clStep{clGet("k"), clTold(data, code.K, 2*size, 0)})
			var ops []impl.ClusterOp
			for _, step := range steps {
				ops = append(ops, step.op)
			}
			run := checkRead(t, fmt.Sprint(code, " shard ", number), c, ops)
			for i, step := range steps {
				if !sameClOut(run.Outs[i], step.out) {
					t.Fatalf("%v, shard %d: %s:\n%s, not\n%s", code, number, shortly(step.op), shortly(run.Outs[i]), shortly(step.out))
				}
			}
		}
	}
}

// Every turn of a byte bends its shard.
func TestP19EachTurnOfAByte(t *testing.T) {
	c := clSmall(3)
	ops := []impl.ClusterOp{clPut("k", "abcdefg")}
	for turn := int64(1); turn <= 255; turn++ {
		ops = append(ops, clRot("k", turn%3, turn%4, turn), clScrub(), clGet("k"), clRot("k", turn%3, turn%4, turn))
	}
	run := checkRead(t, "turns", c, ops)
	for i, op := range ops {
		if out := run.Outs[i]; op.Kind == impl.ClScrub && (len(out.Bent) != 1 || out.Good != 2) || op.Kind == impl.ClGet && out.Code != impl.OK {
			t.Fatalf("operation %d: %s", i, shortly(out))
		}
	}
}

// Three bytes turned can leave the sum as it was: the shard counts as good then, and is read as it is.
func TestP19BentWithARightSum(t *testing.T) {
	// Behind this come 1 more, 6 fewer and 7 more: 65539 times itself is 6 times itself less 7, modulo SumPrime.
	was, bent := "\x10\x20\x30\x40", "\x11\x1a\x37\x40"
	if impl.SumOf(was, 4) != impl.SumOf(bent, 4) {
		t.Fatal("the sums are not the same")
	}
	c := impl.ClusterConfig{Code: impl.Code{K: 2, M: 1}, Unit: 4, Nodes: alike(4, 1)}
	disks := impl.PlaceKey(c.Nodes, "k", 3).Disks
	ops := []impl.ClusterOp{clPut("k", was+"rest"), clRot("k", 0, 0, 0x10^0x11), clScrub(), clRot("k", 0, 1, 0x20^0x1a), clScrub(), clRot("k", 0, 2, 0x30^0x37), clScrub(), clGet("k"), clFail(disks[2]), clRepair(clAll), clFail(disks[0]), clGet("k"), clRepair(clAll), clGet("k"), clScrub()}
	run := checkCluster(t, "bent", c, ops)
	for i, want := range map[int]impl.ClusterOut{
		2: clBent(2, 1, "k#0"), 4: clBent(2, 1, "k#0"), 6: clBent(3, 0), 7: clTold(bent+"rest", 2, 3, 0), 9: clMoved(1, 3, 0), 11: clTold(bent+"rest", 1, 2, 1), 14: clBent(2, 1),
	} {
		if !sameClOut(run.Outs[i], want) {
			t.Errorf("operation %d: %s, not %s", i, shortly(run.Outs[i]), shortly(want))
		}
	}
	// With the right parity, but without the bent one, the object is what was put.
	run = checkCluster(t, "bent and lost", c, append(ops[:8:8], clFail(disks[0]), clGet("k"), clRepair(clAll), clGet("k")))
	if out := run.Outs[9]; !sameClOut(out, clTold(was+"rest", 1, 2, 1)) {
		t.Error(shortly(out))
	}
}

// Bent shards are told by rising keys and numbers, which is not the order of their texts.
func TestP19ScrubTellsByRisingKeysAndNumbers(t *testing.T) {
	code := impl.Code{K: 8, M: 4}
	c := impl.ClusterConfig{Code: code, Unit: 1, Nodes: alike(13, 2)}
	keys := []string{"b", "a#1", "a", "a!", "\x00", "\xff", "a#", "B"}
	var ops []impl.ClusterOp
	for _, key := range keys {
		ops = append(ops, clPut(key, "12345678"))
	}
	for number := int64(11); number >= 0; number-- {
		for _, key := range keys {
			ops = append(ops, clRot(key, number, 0, 1+number))
		}
	}
	ops = append(ops, clRot("a", 3, 0, 4), clRot("a", 4, 0, 1), clScrub(), clScrub())
	run := checkRead(t, "scrub", c, ops)
	slices.Sort(keys)
	var want []string
	for _, key := range keys {
		for number := range 12 {
			if key != "a" || number != 3 {
				want = append(want, fmt.Sprint(key, "#", number))
			}
		}
	}
	for _, out := range run.Outs[len(ops)-2:] {
		if !slices.Equal(out.Bent, want) || out.Good != 1 || out.Lacks != int64(len(want)) {
			t.Errorf("%s", shortly(out))
		}
	}
	// There may be more than any other list has.
	ops = nil
	for i := range 100 {
		ops = append(ops, clPut(rowKey(i), "x"))
	}
	for i := range 1200 {
		ops = append(ops, clRot(rowKey(i%100), int64(i/100), 0, 7))
	}
	ops = append(ops, clScrub())
	if out := impl.RunCluster(c, ops).Outs[len(ops)-1]; len(out.Bent) != 1200 || out.Lacks != 1200 || out.Bent[0] != "key/000#0" || out.Bent[11] != "key/000#11" || out.Bent[12] != "key/001#0" {
		t.Errorf("%d bent", len(out.Bent))
	}
}

// What a disk lost is not bent, nor is what is on a disk that came back.
func TestP19ScrubTellsNothingOfWhatIsGone(t *testing.T) {
	c := clSmall(3)
	disks := impl.PlaceKey(c.Nodes, "k", 3).Disks
	checkClusterSteps(t, "gone", c, []clStep{
		{clPut("k", "abcdefg"), clOut(0, 3, 0)}, {clRot("k", 1, 0, 1), clOut(0, 2, 1)}, {clScrub(), clBent(2, 1, "k#1")}, {clFail(disks[1]), clOut(0, 2, 1)}, {clScrub(), clBent(2, 1)}, {clBack(disks[1]), clOut(0, 2, 1)}, {clScrub(), clBent(2, 1)},
		{clRot("k", 1, 0, 1), clOut(impl.ErrState, 2, 1)}, {clRepair(clAll), clMoved(1, 3, 0)}, {clScrub(), clBent(3, 0)}, {clRot("k", 1, 3, 1), clOut(0, 2, 1)}, {clScrub(), clBent(2, 1, "k#1")}, {clRepair(clAll), clMoved(1, 3, 0)}, {clScrub(), clBent(3, 0)}, {clRot("k", 1, 3, 1), clOut(0, 2, 1)},
		{clDrop("k"), clOut(0, 0, 0)}, {clScrub(), clBent(0, 0)}, {clPut("k", "xyz"), clOut(0, 3, 0)}, {clScrub(), clBent(3, 0)}, {clGet("k"), clTold("xyz", 2, 3, 0)},
	})
}

func TestP19DroppedAndPutAgain(t *testing.T) {
	c := clSmall(5)
	first := impl.PlaceKey(c.Nodes, "k", 3).Disks
	// Without the first of them.
	later := impl.PlaceKey(put(c.Nodes, int(first[0]), impl.Node{Domain: first[0]}), "k", 3).Disks
	if slices.Equal(first, later) {
		t.Fatal("the places are the same")
	}
	run := checkClusterSteps(t, "again", c, []clStep{
		{clPut("k", "abcdefg"), clOut(0, 3, 0)}, {clPut("k", "other"), clOut(impl.ErrState, 3, 0)}, {clRot("k", 2, 0, 3), clOut(0, 2, 1)}, {clFail(first[0]), clOut(0, 1, 2)}, {clPut("k", "other"), clOut(impl.ErrState, 1, 2)}, {clGet("k"), clOut(impl.ErrLost, 1, 2)},
		{clDrop("k"), clOut(0, 0, 0)}, {clDrop("k"), clOut(impl.ErrNone, 0, 0)}, {clGet("k"), clOut(impl.ErrNone, 0, 0)}, {clRot("k", 0, 0, 1), clOut(impl.ErrNone, 0, 0)}, {clPut("k", "other"), clOut(0, 3, 0)}, {clGet("k"), clTold("other", 2, 3, 0)},
		{clPut("l", ""), clOut(0, 6, 0)}, {clDrop("k"), clOut(0, 3, 0)}, {clPut("k", ""), clOut(0, 6, 0)}, {clGet("k"), clTold("", 0, 6, 0)}, {clDrop("k"), clOut(0, 3, 0)}, {clPut("k", "the third"), clOut(0, 6, 0)}, {clGet("k"), clTold("the third", 2, 6, 0)},
	})
	if !slices.Equal(run.Objects[0].Disks, later) || run.Objects[0].Size != 9 {
		t.Errorf("%+v, not on %v", run.Objects[0], later)
	}
}

// A disk that failed has lost all that it had, and comes back without it.
func TestP19ADiskThatComesBackIsEmpty(t *testing.T) {
	c := impl.ClusterConfig{Code: impl.Code{K: 2, M: 2}, Unit: 2, Nodes: alike(4, 1)}
	disks := impl.PlaceKey(c.Nodes, "k", 4).Disks
	checkClusterSteps(t, "back", c, []clStep{
		{clPut("k", "abcdefg"), clOut(0, 4, 0)}, {clFail(disks[0]), clOut(0, 3, 1)}, {clFail(disks[0]), clOut(impl.ErrState, 3, 1)}, {clBack(disks[0]), clOut(0, 3, 1)}, {clBack(disks[0]), clOut(impl.ErrState, 3, 1)}, {clGet("k"), clTold("abcdefg", 1, 3, 1)}, {clRot("k", 0, 0, 1), clOut(impl.ErrState, 3, 1)},
		{clFail(disks[2]), clOut(0, 2, 2)}, {clBack(disks[2]), clOut(0, 2, 2)}, {clFail(disks[0]), clOut(0, 2, 2)}, {clGet("k"), clTold("abcdefg", 1, 2, 2)}, {clFail(disks[1]), clOut(0, 1, 3)}, {clBack(disks[1]), clOut(0, 1, 3)}, {clGet("k"), clOut(impl.ErrLost, 1, 3)}, {clBack(disks[0]), clOut(0, 1, 3)}, {clGet("k"), clOut(impl.ErrLost, 1, 3)}, {clRepair(clAll), clMoved(0, 1, 3)},
	})
}

// Shards are put on the disks that PlaceKey gives, in order, of those that work by their weights of then.
func TestP19WhereShardsArePut(t *testing.T) {
	x := newClusterRuns(211)
	for i := range 200 {
		c := x.config()
		nodes := slices.Clone(c.Nodes)
		size := impl.CodeSize(c.Code)
		var ops []impl.ClusterOp
		want := map[string]impl.Places{}
		failed := make([]bool, len(nodes))
		for n := range 12 {
			disk := x.chance.Intn(len(nodes))
			if n%3 == 1 && !failed[disk] {
				ops = append(ops, clFail(int64(disk)))
				nodes[disk].Weight, failed[disk] = 0, true
			} else if n%3 == 2 {
				weight := x.chance.Int63n(5)
				ops = append(ops, clWeight(int64(disk), weight))
				if !failed[disk] {
					nodes[disk].Weight = weight
				}
			}
			key := fmt.Sprint("key ", n)
			want[key] = impl.PlaceKey(nodes, key, size)
			ops = append(ops, clPut(key, "x"))
		}
		run := checkRead(t, fmt.Sprint("put ", i), c, ops)
		for i, op := range ops {
			if op.Kind == impl.ClPut && run.Outs[i].Code != want[op.Key].Code {
				t.Fatalf("%q: code %d, not %d", op.Key, run.Outs[i].Code, want[op.Key].Code)
			}
		}
		for _, o := range run.Objects {
			if !slices.Equal(o.Disks, want[o.Key].Disks) {
				t.Fatalf("%q is on %v, not on %v", o.Key, o.Disks, want[o.Key].Disks)
			}
		}
	}
}

// A disk that fails keeps its weight, which may change meanwhile, and has it when it is back.
func TestP19WeightsOfDisksThatFailed(t *testing.T) {
	c := impl.ClusterConfig{Code: impl.Code{K: 2}, Unit: 1, Nodes: alike(2, 1)}
	checkClusterSteps(t, "weights", c, []clStep{
		{clFail(0), clOut(0, 0, 0)}, {clPut("a", "xy"), clOut(impl.ErrFull, 0, 0)}, {clWeight(0, 5), clOut(0, 0, 0)}, {clPut("a", "xy"), clOut(impl.ErrFull, 0, 0)}, {clBack(0), clOut(0, 0, 0)}, {clPut("a", "xy"), clOut(0, 2, 0)}, {clFail(1), clOut(0, 1, 1)}, {clWeight(1, 0), clOut(0, 1, 1)},
		{clBack(1), clOut(0, 1, 1)}, {clPut("b", "xy"), clOut(impl.ErrFull, 1, 1)}, {clWeight(1, 64), clOut(0, 1, 1)}, {clPut("b", "xy"), clOut(0, 3, 1)}, {clGet("b"), clTold("xy", 2, 3, 1)}, {clWeight(0, 0), clOut(0, 3, 1)}, {clWeight(1, 0), clOut(0, 3, 1)}, {clGet("b"), clTold("xy", 2, 3, 1)}, {clPut("c", ""), clOut(impl.ErrFull, 3, 1)},
	})
}

func TestP19KeysOfTheLeastAndTheMostBytes(t *testing.T) {
	c := clSmall(4)
	most := times("k", impl.MaxKey)
	keys := []string{"k", "\x00", "\xff", most, times("\xff", impl.MaxKey), times("k", impl.MaxKey-1) + "l"}
	var ops []impl.ClusterOp
	for i, key := range keys {
		ops = append(ops, clPut(key, mixedBytes(i+3)), clRot(key, 2, 0, 1))
	}
	for _, key := range keys {
		ops = append(ops, clGet(key), clFail(0), clRepair(clAll), clBack(0))
	}
	run := checkRead(t, "keys", c, append(ops, clScrub()))
	for i, out := range run.Outs {
		if out.Code != impl.OK {
			t.Errorf("%s: %s", shortly(ops[i]), shortly(out))
		}
	}
	if len(run.Objects) != len(keys) || run.Objects[0].Key != "\x00" || run.Objects[2].Key != most {
		t.Errorf("%d objects", len(run.Objects))
	}
	for _, key := range []string{"", times("k", impl.MaxKey+1), times("k", 1001), times("k", impl.MaxBytes), times("k", impl.MaxBytes+1)} {
		checkRefusedByCluster(t, "key", c, ops, clPut(key, "x"), impl.ErrForm)
		checkRefusedByCluster(t, "key", c, nil, clPut(key, ""), impl.ErrForm)
		checkRefusedByCluster(t, "key", c, ops, clGet(key), impl.ErrNone)
		checkRefusedByCluster(t, "key", c, ops, clDrop(key), impl.ErrNone)
		checkRefusedByCluster(t, "key", c, ops, clRot(key, 0, 0, 1), impl.ErrNone)
	}
}

// edgesOf are clusters whose objects may have just so many bytes: as many as stripes hold, or MaxBytes.
var edgesOf = []struct {
	code impl.Code
	unit int64
	most int
}{
	{impl.Code{K: 1}, 1, 200}, {impl.Code{K: 2, M: 1}, 1, 400}, {impl.Code{K: 32, M: 16, Groups: 16}, 1, 6400}, {impl.Code{K: 4, M: 2, Groups: 2}, 124, 99200}, {impl.Code{K: 4, M: 2, Groups: 2}, 125, 100000}, {impl.Code{K: 1, M: 1}, 500, 100000},
	{impl.Code{K: 1, M: 16, Groups: 1}, impl.MaxShard, 100000}, {impl.Code{K: 3, M: 1}, impl.MaxShard, 100000}, {impl.Code{K: 32, M: 1}, impl.MaxShard, 100000}, {impl.Code{K: 5}, 1000, 100000},
}

func TestP19DataOfTheMostBytes(t *testing.T) {
	for _, e := range edgesOf {
		size := impl.CodeSize(e.code)
		c := impl.ClusterConfig{Code: e.code, Unit: e.unit, Nodes: alike(int(size)+1, 1)}
		data := mixedBytes(e.most)
		disks := impl.PlaceKey(c.Nodes, "k", size).Disks
		shard := e.unit * impl.StripeCount(e.code, e.unit, int64(e.most))
		ops := []impl.ClusterOp{clPut("k", data), clGet("k"), clPiece("k", int64(e.most)-1, 0), clPiece("k", int64(e.most), 0), clRot("k", size-1, shard-1, 255), clScrub(), clRot("k", size-1, shard, 255), clGet("k"), clRepair(clAll), clRot("k", 0, 0, 1), clGet("k"), clRot("k", 0, 0, 1), clFail(disks[0]), clGet("k"), clRepair(clAll), clGet("k")}
		run := checkRead(t, fmt.Sprint(e), c, ops)
		if run.Outs[0].Code != impl.OK || run.Outs[1].Data != data || run.Outs[2].Data != data[e.most-1:] || run.Outs[4].Code != impl.OK || len(run.Outs[5].Bent) != 1 || run.Outs[6].Code != impl.ErrForm || run.Objects[0].Size != int64(e.most) {
			t.Errorf("%v: %s", e, shortly(run.Outs[0]))
		}
		for _, over := range []int{1, 2, 5 * int(e.unit)} {
			checkRefusedByCluster(t, fmt.Sprint(e), c, nil, clPut("k", times("x", e.most+over)), impl.ErrSize)
			checkRefusedByCluster(t, fmt.Sprint(e), c, ops[:1], clPut("k", times("x", e.most+over)), impl.ErrSize)
		}
		checkRefusedByCluster(t, fmt.Sprint(e), c, nil, clPut("k", times("x", 4*impl.MaxBytes+1)), impl.ErrSize)
	}
}

// heldPuts are puts of so many objects.
func heldPuts(count int) []impl.ClusterOp {
	var ops []impl.ClusterOp
	for i := range count {
		ops = append(ops, clPut(rowKey((i*37)%count), mixedBytes(i%7)))
	}
	return ops
}

func TestP19AsManyObjectsAsThereMayBe(t *testing.T) {
	c := clSmall(4)
	ops := append(heldPuts(impl.MaxHeld-1), clPut("the last", "abc"))
	checkRefusedByCluster(t, "full", c, ops, clPut("one more", "x"), impl.ErrFull)
	checkRefusedByCluster(t, "full", c, ops, clPut("one more", ""), impl.ErrFull)
	checkRefusedByCluster(t, "full", c, ops, clPut("the last", "x"), impl.ErrState)
	ops = append(ops, clPut("one more", "x"), clDrop("nowhere"), clPut("one more", "x"), clDrop("the last"), clPut("one more", "x"), clPut("the last", "x"), clGet("one more"), clFail(1), clScrub(), clRepair(clAll), clGet("one more"))
	run := checkRead(t, "full", c, ops)
	for i, code := range []int64{impl.ErrFull, impl.ErrNone, impl.ErrFull, 0, 0, impl.ErrFull, 0, 0, 0, 0, 0} {
		if run.Outs[100+i].Code != code {
			t.Errorf("%s: %s", shortly(ops[100+i]), shortly(run.Outs[100+i]))
		}
	}
	if last := run.Outs[len(ops)-1]; last.Good != 300 || last.Lacks != 0 || len(run.Objects) != 100 {
		t.Errorf("%s, %d objects", shortly(last), len(run.Objects))
	}
}

func TestP19ObjectsByRisingKeys(t *testing.T) {
	c := clSmall(5)
	keys := []string{"b", "a", "\xff", "\x00", "ab", "aa", "B", "b\x00", "é", "10", "9"}
	var ops []impl.ClusterOp
	for i, key := range keys {
		ops = append(ops, clPut(key, mixedBytes(i)))
	}
	ops = append(ops, clDrop("ab"), clFail(2), clRepair(4))
	run := checkClusterAtEach(t, "keys", c, ops, 1)
	var got []string
	for _, o := range run.Objects {
		got = append(got, o.Key)
		if o.Size != int64(slices.Index(keys, o.Key)) || len(o.Disks) != 3 {
			t.Errorf("%+v", o)
		}
	}
	if !slices.Equal(got, []string{"\x00", "10", "9", "B", "a", "aa", "b", "b\x00", "é", "\xff"}) {
		t.Errorf("%q", got)
	}
	// Also without any, and without operations.
	if run := impl.RunCluster(c, nil); !isOnlyClusterCode(run, impl.OK) {
		t.Errorf("%+v", run)
	}
}

func TestP19ConfigurationsRightAndWrong(t *testing.T) {
	right := clSmall(3)
	check := func(c impl.ClusterConfig, code int64) {
		t.Helper()
		if got := impl.ClusterFault(c); got != code {
			t.Errorf("%s: fault %d", shortly(c), got)
		}
		for _, ops := range [][]impl.ClusterOp{nil, {clPut("k", "x"), clScrub()}, make([]impl.ClusterOp, impl.MaxOps)} {
			run := impl.RunCluster(c, ops)
			if code != impl.OK && !isOnlyClusterCode(run, code) || code == impl.OK && (run.Code != impl.OK || len(run.Outs) != len(ops)) {
				t.Errorf("%s: code %d with %d outs", shortly(c), run.Code, len(run.Outs))
			}
		}
		if run := impl.RunCluster(c, make([]impl.ClusterOp, impl.MaxOps+1)); code != impl.OK && !isOnlyClusterCode(run, code) || code == impl.OK && !isOnlyClusterCode(run, impl.ErrCount) {
			t.Errorf("%s: code %d with %d outs", shortly(c), run.Code, len(run.Outs))
		}
	}
	check(impl.ClusterConfig{}, impl.ErrForm)
	for _, nodes := range wrongNodes() {
		c := right
		c.Nodes = nodes
		check(c, impl.ErrForm)
	}
	for _, code := range wrongCodes {
		c := right
		c.Code = code
		check(c, impl.ErrForm)
	}
	for _, unit := range []int64{0, -1, impl.MaxShard + 1, impl.MaxShard + 2, 1 << 32, 1<<32 + 1, math.MinInt64, math.MaxInt64} {
		c := right
		c.Unit = unit
		check(c, impl.ErrForm)
	}
	for _, unit := range []int64{1, 2, impl.MaxShard - 1, impl.MaxShard} {
		c := right
		c.Unit = unit
		check(c, impl.OK)
	}
	for _, nodes := range append(fewDomains, mixedNodes, alike(impl.MaxNodes, impl.MaxWeight)) {
		c := right
		c.Nodes = nodes
		check(c, impl.OK)
	}
	for _, code := range slices.Concat(smallCodes, greatCodes) {
		c := right
		c.Code = code
		check(c, impl.OK)
	}
}

// There may be fewer domains than shards: then there is no place.
func TestP19NodesOnWhichThereIsNoPlace(t *testing.T) {
	for _, nodes := range append(fewDomains, alike(2, 5), []impl.Node{{Domain: 1, Weight: 1}, {Domain: 2, Weight: 1}, {Domain: 2, Weight: 9}, {Domain: 3}}) {
		c := clSmall(1)
		c.Nodes = nodes
		checkRefusedByCluster(t, "no place", c, nil, clPut("k", "x"), impl.ErrFull)
		checkRefusedByCluster(t, "no place", c, []impl.ClusterOp{clFail(0)}, clPut("k", ""), impl.ErrFull)
		checkRefusedByCluster(t, "no place", c, nil, clGet("k"), impl.ErrNone)
	}
	// Just enough, and one too few then.
	c := clSmall(3)
	ops := []impl.ClusterOp{clPut("k", "x")}
	if run := checkRead(t, "enough", c, ops); run.Outs[0].Code != impl.OK {
		t.Error(shortly(run))
	}
	for disk := range int64(3) {
		checkRefusedByCluster(t, "failed", c, append(ops, clFail(disk)), clPut("l", "x"), impl.ErrFull)
		checkRefusedByCluster(t, "of no weight", c, append(ops, clWeight(disk, 0)), clPut("l", "x"), impl.ErrFull)
	}
}

func TestP19AsManyOperationsAsThereMayBe(t *testing.T) {
	c := clSmall(4)
	x := newClusterRuns(223)
	ops := x.ops(impl.MaxOps, c, met{})
	if run := checkRead(t, "most", c, ops); run.Code != impl.OK || len(run.Outs) != impl.MaxOps {
		t.Errorf("code %d with %d outs", run.Code, len(run.Outs))
	}
	for _, more := range []int{1, 2, 1000} {
		if run := impl.RunCluster(c, slices.Concat(ops, make([]impl.ClusterOp, more))); !isOnlyClusterCode(run, impl.ErrCount) {
			t.Errorf("%d more: code %d with %d outs", more, run.Code, len(run.Outs))
		}
	}
}

// clSettled is a cluster that has something of all that one can have: an object that is whole, one that lacks a shard on
// a disk that failed, and one on a disk that came back, one that is bent, one without bytes, and one that is lost.
func clSettled() (impl.ClusterConfig, []impl.ClusterOp) {
	c := impl.ClusterConfig{Code: impl.Code{K: 2, M: 1}, Unit: 2, Nodes: alike(5, 2)}
	disks := impl.PlaceKey(c.Nodes, "lost", 3).Disks
	return c, []impl.ClusterOp{
		clPut("early", "xyz"), clPut("none", ""), clPut("lost", "abcdef"), clFail(disks[0]), clFail(disks[2]), clBack(disks[2]), clPut("k", "abcdefg"), clPut("bent", "abc"), clRot("bent", 1, 1, 9), clWeight(disks[1], 1),
	}
}

func TestP19ASettledClusterIsAsItSays(t *testing.T) {
	c, ops := clSettled()
	run := checkClusterAtEach(t, "settled", c, append(slices.Clone(ops), clGet("lost"), clGet("k"), clGet("none"), clScrub()), 1)
	outs := run.Outs[len(ops):]
	if outs[0].Code != impl.ErrLost || outs[1].Code != impl.OK || outs[2].Code != impl.OK || !slices.Equal(outs[3].Bent, []string{"bent#1"}) || outs[3].Lacks < 4 {
		t.Errorf("%+v", outs)
	}
}

func TestP19OperationsOfNoKind(t *testing.T) {
	c, ops := clSettled()
	for _, kind := range []int64{0, -1, -10, 11, 12, 100, 1 << 32, 1<<32 + impl.ClDrop, math.MaxInt64, math.MinInt64, math.MinInt64 + impl.ClDrop} {
		checkRefusedByCluster(t, "kind", c, ops, impl.ClusterOp{Kind: kind, Key: "k", Data: "x", Disk: 1, Shard: 1, At: 1, Turn: 1, Num: 1, From: 1, Count: 1}, impl.ErrForm)
		checkRefusedByCluster(t, "kind alone", c, nil, impl.ClusterOp{Kind: kind, Key: "new"}, impl.ErrForm)
	}
}

func TestP19RefusedByACluster(t *testing.T) {
	c, ops := clSettled()
	failed := impl.PlaceKey(c.Nodes, "lost", 3).Disks[0]
	works := impl.PlaceKey(c.Nodes, "lost", 3).Disks[2]
	type refusal struct {
		op   impl.ClusterOp
		code int64
	}
	list := []refusal{
		{clPut("k", ""), impl.ErrState}, {clPut("lost", "abcdef"), impl.ErrState}, {clPut("none", "x"), impl.ErrState}, {clGet("nowhere"), impl.ErrNone}, {clGet("K"), impl.ErrNone}, {clGet("k\x00"), impl.ErrNone}, {clDrop("nowhere"), impl.ErrNone}, {clGet("lost"), impl.ErrLost}, {clPiece("lost", 9, 9), impl.ErrLost},
		{clFail(failed), impl.ErrState}, {clBack(works), impl.ErrState}, {clRot("nowhere", 0, 0, 1), impl.ErrNone}, {clRot("lost", 0, 0, 1), impl.ErrState}, {clRot("lost", 2, 0, 1), impl.ErrState}, {clRot("none", 1, 0, 1), impl.ErrForm}, {clRot("k", 1, 4, 1), impl.ErrForm}, {clRot("bent", 1, 2, 1), impl.ErrForm},
	}
	for _, below := range []int64{-1, -2, -1 << 32, math.MinInt64} {
		list = append(list, refusal{clPiece("k", below, 0), impl.ErrForm}, refusal{clPiece("k", 0, below), impl.ErrForm}, refusal{clPiece("none", below, 1), impl.ErrForm}, refusal{clPiece("none", 1, below), impl.ErrForm})
	}
	for _, none := range []int64{-1, -2, 5, 6, impl.MaxNodes, 1 << 32, 1<<32 + 1, math.MinInt64, math.MaxInt64} {
		list = append(list, refusal{clFail(none), impl.ErrForm}, refusal{clBack(none), impl.ErrForm}, refusal{clWeight(none, 1), impl.ErrForm}, refusal{clWeight(none, -1), impl.ErrForm})
	}
	for _, num := range []int64{-1, impl.MaxWeight + 1, 1 << 32, 1<<32 + 1, math.MinInt64, math.MaxInt64} {
		list = append(list, refusal{clWeight(0, num), impl.ErrForm}, refusal{clWeight(failed, num), impl.ErrForm})
	}
	for _, num := range []int64{-1, -2, 1001, 1002, 1 << 32, 1<<32 + 1, math.MinInt64, math.MaxInt64} {
		list = append(list, refusal{clRepair(num), impl.ErrForm}, refusal{clMove(num), impl.ErrForm})
	}
	for _, shard := range []int64{-1, 3, 4, impl.MaxSide, 1 << 32, math.MinInt64, math.MaxInt64} {
		list = append(list, refusal{clRot("k", shard, 0, 1), impl.ErrForm}, refusal{clRot("lost", shard, 0, 1), impl.ErrForm}, refusal{clRot("none", shard, 0, 1), impl.ErrForm})
	}
	for _, turn := range []int64{0, -1, 256, 257, -255, 1 << 32, 1<<32 + 1, math.MinInt64, math.MaxInt64} {
		list = append(list, refusal{clRot("k", 1, 0, turn), impl.ErrForm}, refusal{clRot("lost", 1, 0, turn), impl.ErrForm})
	}
	for _, at := range []int64{-1, -2, 4, 5, 1 << 32, math.MinInt64, math.MaxInt64} {
		list = append(list, refusal{clRot("k", 1, at, 1), impl.ErrForm}, refusal{clRot("none", 1, at, 255), impl.ErrForm})
	}
	for _, r := range list {
		checkRefusedByCluster(t, "settled", c, ops, r.op, r.code)
	}
}

// Where an operation has several faults, the one told first is answered.
func TestP19TheFirstCodeOfACluster(t *testing.T) {
	c, ops := clSettled()
	failed := impl.PlaceKey(c.Nodes, "lost", 3).Disks[0]
	long := times("x", 801)
	full := append(heldPuts(impl.MaxHeld-1), clPut("k", "abcdefg"), clFail(0), clFail(1), clFail(2))
	lost := int64(slices.Index(impl.PlaceKey(c.Nodes, "k", 3).Disks, 1))
	for _, r := range []struct {
		ops  []impl.ClusterOp
		op   impl.ClusterOp
		code int64
	}{
		{full, clPut("", long), impl.ErrForm}, {full, clPut(times("k", impl.MaxKey+1), long), impl.ErrForm}, {full, clPut(times("k", impl.MaxBytes+1), times("x", impl.MaxBytes+1)), impl.ErrForm}, {full, clPut("k", long), impl.ErrSize}, {full, clPut("new", long), impl.ErrSize}, {full, clPut("k", "x"), impl.ErrState}, {full, clPut("new", "x"), impl.ErrFull},
		{ops, clPut("", long), impl.ErrForm}, {ops, clPut("lost", long), impl.ErrSize}, {append(slices.Clone(ops), clWeight(0, 0), clWeight(1, 0), clWeight(2, 0)), clPut("k", "x"), impl.ErrState}, {append(slices.Clone(ops), clWeight(0, 0), clWeight(1, 0), clWeight(2, 0)), clPut("new", "x"), impl.ErrFull},
		{ops, clPiece("nowhere", -1, -1), impl.ErrNone}, {ops, clPiece("lost", -1, 0), impl.ErrForm}, {ops, clPiece("lost", 0, -1), impl.ErrForm}, {ops, clPiece("lost", 0, 0), impl.ErrLost},
		{ops, clRot("nowhere", -1, -1, 0), impl.ErrNone}, {ops, clRot("", 7, -1, 0), impl.ErrNone}, {ops, clRot("lost", 3, -1, 1), impl.ErrForm}, {ops, clRot("lost", 0, -1, 0), impl.ErrForm}, {ops, clRot("lost", 0, -1, 256), impl.ErrForm}, {ops, clRot("lost", 0, -1, 1), impl.ErrState}, {ops, clRot("lost", 0, 99, 255), impl.ErrState}, {ops, clRot("lost", 2, 99, 1), impl.ErrState},
		{full, clRot("k", lost, 99, 1), impl.ErrState}, {full, clRot("k", lost, 99, 0), impl.ErrForm}, {ops, clWeight(9, 99), impl.ErrForm}, {ops, clWeight(failed, 65), impl.ErrForm},
	} {
		checkRefusedByCluster(t, "first", c, r.ops, r.op, r.code)
	}
}

// All that an operation does not name may be anything.
func TestP19WhatAnOperationDoesNotNamePlaysNoPart(t *testing.T) {
	x := newClusterRuns(227)
	wild := []int64{math.MinInt64, -1, 1, 2, 7, 64, 1001, math.MaxInt64}
	number := func() int64 { return wild[x.chance.Intn(len(wild))] }
	texts := []string{"", "k", "a", times("x", impl.MaxBytes+1)}
	text := func() string { return texts[x.chance.Intn(len(texts))] }
	for i := range 200 {
		c := x.config()
		ops := x.ops(40, c, met{})
		want := plainClusterRun(c, ops)
		for i := range ops {
			op := impl.ClusterOp{Kind: ops[i].Kind, Key: text(), Data: text(), Disk: number(), Shard: number(), At: number(), Turn: number(), Num: number(), From: number(), Count: number()}
			switch own := ops[i]; own.Kind {
			case impl.ClPut:
				op.Key, op.Data = own.Key, own.Data
			case impl.ClGet:
				op.Key, op.From, op.Count = own.Key, own.From, own.Count
			case impl.ClDrop:
				op.Key = own.Key
			case impl.ClFail, impl.ClBack:
				op.Disk = own.Disk
			case impl.ClWeight:
				op.Disk, op.Num = own.Disk, own.Num
			case impl.ClRot:
				op.Key, op.Shard, op.At, op.Turn = own.Key, own.Shard, own.At, own.Turn
			case impl.ClRepair, impl.ClMove:
				op.Num = own.Num
			}
			ops[i] = op
		}
		holdAgainst(t, fmt.Sprint("named ", i), ops, impl.RunCluster(c, ops), want)
	}
}

// lentCluster is a configuration and operations whose texts and lists the test can change.
type lentCluster struct {
	config impl.ClusterConfig
	nodes  *nodesLoan
	ops    []impl.ClusterOp
	was    []impl.ClusterOp
	texts  []*loan
}

func lendCluster(c impl.ClusterConfig, ops []impl.ClusterOp) *lentCluster {
	l := &lentCluster{config: c, nodes: lendNodes(c.Nodes)}
	l.config.Nodes = l.nodes.list()
	for _, op := range ops {
		key, data := newLoan(op.Key), newLoan(op.Data)
		l.texts = append(l.texts, key, data)
		op.Key, op.Data = key.text(), data.text()
		l.ops = append(l.ops, op)
	}
	// The room behind the list is the test's, too.
	l.ops = append(l.ops, impl.ClusterOp{Kind: 77}, impl.ClusterOp{Kind: 88})
	l.was = slices.Clone(l.ops)
	return l
}

func (l *lentCluster) given() []impl.ClusterOp {
	return l.ops[:len(l.ops)-2]
}

func (l *lentCluster) kept() bool {
	return l.nodes.kept() && slices.Equal(l.ops, l.was) && !slices.ContainsFunc(l.texts, func(text *loan) bool { return !text.kept() })
}

func (l *lentCluster) spoil() {
	for _, text := range l.texts {
		text.spoil()
	}
	clear(l.nodes.room)
	clear(l.ops)
}

func TestP19TheAnswerIsNewMemory(t *testing.T) {
	x := newClusterRuns(229)
	for i := range 300 {
		c := x.config()
		ops := x.ops(60, c, met{})
		if i%3 == 0 {
			// One shard of one stripe that is full: no piece of it need be put together.
			c = impl.ClusterConfig{Code: impl.Code{K: 1, M: 1}, Unit: 4, Nodes: alike(3, 1)}
			ops = []impl.ClusterOp{clPut("key", "1234"), clGet("key"), clRot("key", 1, 0, 1), clScrub(), clPiece("key", 0, 4), clPut("none", ""), clFail(0), clRepair(9), clGet("key"), clFail(1), clRepair(9), clGet("key")}
		}
		want := plainClusterRun(c, ops)
		lent := lendCluster(c, ops)
		got := impl.RunCluster(lent.config, lent.given())
		impl.ClusterFault(lent.config)
		kept := lent.kept()
		lent.spoil()
		if !kept || !sameCluster(got, want) {
			t.Fatalf("%d: written into, or shared", i)
		}
	}
}

// clusterTexts are the lists of texts of a run, and clusterNumbers those of numbers.
func clusterTexts(r impl.ClusterRun) [][]string {
	var lists [][]string
	for _, out := range r.Outs {
		lists = append(lists, out.Bent)
	}
	return lists
}
func clusterNumbers(r impl.ClusterRun) [][]int64 {
	var lists [][]int64
	for _, o := range r.Objects {
		lists = append(lists, o.Disks)
	}
	return lists
}

func TestP19NoTwoListsOfAClusterShareMemory(t *testing.T) {
	x := newClusterRuns(233)
	for i := range 60 {
		c := x.config()
		ops := append(x.ops(40, c, met{}), clScrub(), clScrub())
		want := plainClusterRun(c, ops)
		for spoiled := range len(want.Outs) + len(want.Objects) {
			run := impl.RunCluster(c, ops)
			if spoiled < len(want.Outs) {
				list := run.Outs[spoiled].Bent
				spoilTexts(list[:cap(list)])
			} else {
				spoil(run.Objects[spoiled-len(want.Outs)].Disks)
			}
			for at, list := range clusterTexts(run) {
				if at != spoiled && !slices.Equal(list, want.Outs[at].Bent) {
					t.Fatalf("%d: what is bent in %d changes with list %d", i, at, spoiled)
				}
			}
			for at, list := range clusterNumbers(run) {
				if at+len(want.Outs) != spoiled && !slices.Equal(list, want.Objects[at].Disks) {
					t.Fatalf("%d: the disks of object %d change with list %d", i, at, spoiled)
				}
			}
		}
	}
}

// wild draws operations of any numbers and texts.
func (x clusterRuns) wild(count int) []impl.ClusterOp {
	numbers := []int64{math.MinInt64, -2, -1, 0, 0, 0, 0, 1, 1, 1, 1, 2, 2, 3, 4, 5, 63, 64, 65, 199, 200, 255, 256, 1000, 1001, 1 << 32, math.MaxInt64}
	number := func() int64 { return numbers[x.chance.Intn(len(numbers))] }
	texts := []string{"", "", "a", "a", "b", "a", "b", "\x00", "some bytes of any kind", "\xff", times("k", impl.MaxKey), times("k", impl.MaxKey+1), times("t", 300), times("t", impl.MaxBytes), times("t", impl.MaxBytes+1)}
	text := func() string { return texts[x.chance.Intn(len(texts))] }
	var ops []impl.ClusterOp
	for range count {
		op := impl.ClusterOp{Kind: x.chance.Int63n(13) - 1, Key: text(), Data: text(), Disk: number(), Shard: number(), At: number(), Turn: number(), Num: number(), From: number(), Count: number()}
		ops = append(ops, op)
	}
	return ops
}

func TestP19NoCallOfAClusterPanics(t *testing.T) {
	x := newClusterRuns(239)
	numbers := []int64{math.MinInt64, -1, 0, 0, 1, 1, 1, 2, 2, 3, 16, 32, 64, 4096, 4097, math.MaxInt64}
	number := func() int64 { return numbers[x.chance.Intn(len(numbers))] }
	for i := range 3000 {
		c := impl.ClusterConfig{Code: impl.Code{K: number(), M: number(), Groups: number()}, Unit: number()}
		for range x.chance.Intn(6) {
			c.Nodes = append(c.Nodes, impl.Node{Domain: number(), Weight: number()})
		}
		if i%3 > 0 {
			c = x.config()
		}
		ops := x.wild(x.chance.Intn(40))
		noPanic(t, "ClusterFault", func() { impl.ClusterFault(c) })
		noPanic(t, "RunCluster", func() {
			if got := impl.RunCluster(c, ops); !sameCluster(got, plainClusterRun(c, ops)) {
				t.Errorf("%d: run in another way", i)
			}
		})
	}
}

func TestP19NothingOfAClusterGoesOnBehindTheAnswer(t *testing.T) {
	x := newClusterRuns(241)
	ahead := runtime.NumGoroutine()
	for i := range 200 {
		c := x.config()
		impl.RunCluster(c, x.ops(30, c, met{}))
		impl.RunCluster(c, make([]impl.ClusterOp, impl.MaxOps+i%2))
		impl.RunCluster(impl.ClusterConfig{}, nil)
		if i%20 == 0 && !isQuiet(ahead) {
			t.Fatalf("%d: %d go on, not %d", i, runtime.NumGoroutine(), ahead)
		}
	}
	if !isQuiet(ahead) {
		t.Errorf("%d go on, not %d", runtime.NumGoroutine(), ahead)
	}
}

// On one core what has ended is gone when the call answers, but for a rare moment in which another one was let ahead.
func TestP19AllDisksHaveEndedWhenTheCallAnswers(t *testing.T) {
	c := impl.ClusterConfig{Code: impl.Code{K: 10, M: 4}, Unit: 100, Nodes: alike(16, 1)}
	ops := []impl.ClusterOp{clPut("k", mixedBytes(10000)), clFail(0), clFail(1), clRepair(9), clPut("l", mixedBytes(999)), clFail(2), clRepair(9)}
	defer runtime.GOMAXPROCS(runtime.GOMAXPROCS(1))
	ahead := runtime.NumGoroutine()
	late := 0
	for range 200 {
		impl.RunCluster(c, ops)
		if runtime.NumGoroutine() > ahead {
			late++
		}
		if !isQuiet(ahead) {
			t.Fatalf("%d go on, not %d", runtime.NumGoroutine(), ahead)
		}
	}
	if late > 100 {
		t.Errorf("behind %d of 200 calls something went on", late)
	}
}

// Calls at one time, and however many of the machine's cores there are, answer the same.
func TestP19TheAnswerOfAClusterHangsOnTheArgumentsAlone(t *testing.T) {
	x := newClusterRuns(251)
	c := impl.ClusterConfig{Code: impl.Code{K: 4, M: 2, Groups: 2}, Unit: 64, Nodes: x.nodes(12)}
	ops := x.ops(200, c, met{})
	want := checkRead(t, "alone", c, ops)
	cores := runtime.GOMAXPROCS(0)
	defer runtime.GOMAXPROCS(cores)
	for _, count := range []int{1, 2, cores} {
		runtime.GOMAXPROCS(count)
		var calls sync.WaitGroup
		same := make([]bool, 24)
		for i := range same {
			calls.Go(func() { same[i] = sameCluster(impl.RunCluster(c, ops), want) })
		}
		calls.Wait()
		if slices.Contains(same, false) {
			t.Errorf("on %d cores: %v", count, same)
		}
	}
}

// The longest runs: each has to end.
func TestP19TheLongestRunsOfAClusterEnd(t *testing.T) {
	most := mixedBytes(impl.MaxBytes)
	wide := impl.ClusterConfig{Code: impl.Code{K: 32, M: 16, Groups: 16}, Unit: impl.MaxShard, Nodes: alike(impl.MaxNodes, impl.MaxWeight)}
	long := impl.ClusterConfig{Code: impl.Code{K: 1, M: 1}, Unit: 500, Nodes: alike(3, 1)}
	small := clSmall(impl.MaxNodes)
	held := heldPuts(impl.MaxHeld)
	for name, run := range map[string]struct {
		c     impl.ClusterConfig
		ahead []impl.ClusterOp
		ops   []impl.ClusterOp
		good  int64
	}{
		"put and drop":   {long, nil, []impl.ClusterOp{clPut("k", most), clDrop("k")}, 0},
		"get":            {long, []impl.ClusterOp{clPut("k", most), clRot("k", 0, 0, 1)}, []impl.ClusterOp{clGet("k")}, 1},
		"rot":            {long, []impl.ClusterOp{clPut("k", most)}, []impl.ClusterOp{clRot("k", 0, 99999, 255), clRot("k", 0, 99999, 255)}, 2},
		"scrub":          {wide, held, []impl.ClusterOp{clScrub()}, 6400},
		"repair nothing": {wide, held, []impl.ClusterOp{clRepair(clAll)}, 6400},
		"fail and back":  {wide, held[:10], []impl.ClusterOp{clFail(7), clRepair(clAll), clBack(7), clMove(clAll)}, 640},
		"move":           {small, held[:60], []impl.ClusterOp{clWeight(7, 0), clMove(clAll), clWeight(7, 64), clMove(clAll)}, 180},
	} {
		ops := slices.Clone(run.ahead)
		for i := range (impl.MaxOps - len(run.ahead)) / len(run.ops) * len(run.ops) {
			ops = append(ops, run.ops[i%len(run.ops)])
		}
		got := impl.RunCluster(run.c, ops)
		if last := got.Outs[len(ops)-1]; got.Code != impl.OK || last.Code != impl.OK || last.Good != run.good {
			t.Errorf("%s: %s", name, shortly(last))
		}
	}
}

// Repairs that are enough leave nothing lacking that could be made, and no two shards of an object come into one domain
// as long as no disk has come back: drawn runs, looked at behind each operation.
func TestP20DrawnRepairs(t *testing.T) {
	x := newClusterRuns(307)
	seen := met{}
	for i := range 200 {
		c := x.config()
		checkClusterAtEach(t, fmt.Sprint("without back ", i, " ", c.Code), c, x.opsWithoutBack(50, c, seen), 2)
	}
	if seen["two of one domain"] > 0 {
		t.Errorf("two of one domain: met %d times", seen["two of one domain"])
	}
	seen.want(t, 20, "made where it was", "made elsewhere", "no domain is free", "a lost one passed by", "more to repair than Num", "moved")
	for i := range 120 {
		c := x.config()
		checkClusterAtEach(t, fmt.Sprint("with back ", i, " ", c.Code), c, append(x.ops(60, c, seen), clRepair(clAll)), 5)
	}
	seen.want(t, 20, "two of one domain")
}

// As many disks fail and are repaired one after the other as there are free domains: nothing is lost, and nothing lacks.
func TestP20RepairedBehindEachDiskThatFails(t *testing.T) {
	x := newClusterRuns(311)
	for _, code := range []impl.Code{{K: 2, M: 1}, {K: 4, M: 2, Groups: 2}, {K: 6, M: 3}, {K: 3, Groups: 3}, {K: 10, M: 4}} {
		size := impl.CodeSize(code)
		spare := int64(7)
		c := impl.ClusterConfig{Code: code, Unit: 3, Nodes: alike(int(size+spare), 2)}
		var ops []impl.ClusterOp
		for i := range 8 {
			ops = append(ops, clPut(rowKey(i), x.bytes(int64(i)*code.K)))
		}
		order := x.chance.Perm(len(c.Nodes))
		for i := range spare + 1 {
			ops = append(ops, clFail(int64(order[i])), clRepair(clAll))
			for i := range 8 {
				ops = append(ops, clGet(rowKey(i)))
			}
		}
		run := checkRead(t, fmt.Sprint(code), c, ops)
		for i, op := range ops {
			out, lacks := run.Outs[i], int64(0)
			if i >= 8+10*int(spare) {
				lacks = 8
			}
			if op.Kind != impl.ClFail && (out.Code != impl.OK || out.Lacks != lacks) {
				t.Fatalf("%v: operation %d, %s: %s", code, i, shortly(op), shortly(out))
			}
		}
	}
}

// clBentObjects are objects of which so many shards are bent, from the last on, in a cluster that can repair each.
func clBentObjects(bent map[string]int64) (impl.ClusterConfig, []impl.ClusterOp) {
	c := impl.ClusterConfig{Code: impl.Code{K: 2, M: 4}, Unit: 1, Nodes: alike(6, 1)}
	var ops []impl.ClusterOp
	for key := range bent {
		ops = append(ops, clPut(key, "some bytes"))
	}
	slices.SortFunc(ops, func(a, b impl.ClusterOp) int { return strings.Compare(b.Key, a.Key) })
	for key, count := range bent {
		for i := range count {
			ops = append(ops, clRot(key, 5-i, i, 3))
		}
	}
	return c, ops
}

// Objects come by their good shards, of equal ones by rising keys, and shards in order: what is left bent behind a
// repair of so many tells which were made.
func TestP20TheFewestGoodShardsFirst(t *testing.T) {
	c, ops := clBentObjects(map[string]int64{"b": 1, "a": 2, "d": 4, "c": 3, "f": 3, "e": 4, "z": 0, "y": 4, "x": 5})
	order := []string{"d#2", "d#3", "d#4", "d#5", "e#2", "e#3", "e#4", "e#5", "y#2", "y#3", "y#4", "y#5", "c#3", "c#4", "c#5", "f#3", "f#4", "f#5", "a#4", "a#5", "b#5"}
	// With one good shard alone an object is lost.
	lost := []string{"x#1", "x#2", "x#3", "x#4", "x#5"}
	for num := range len(order) + 3 {
		made := min(num, len(order))
		left := slices.Concat(order[made:], lost)
		slices.Sort(left)
		run := checkRead(t, fmt.Sprint("num ", num), c, append(slices.Clone(ops), clRepair(int64(num)), clScrub(), clRepair(clAll), clScrub()))
		outs := run.Outs[len(ops):]
		good := int64(54 - len(left))
		if !sameClOut(outs[0], clMoved(int64(made), good, int64(len(left)))) || !slices.Equal(outs[1].Bent, left) {
			t.Errorf("num %d: %s, left %v, not %v", num, shortly(outs[0]), outs[1].Bent, left)
		}
		if outs[2].Moved != int64(len(order)-made) || !slices.Equal(outs[3].Bent, lost) {
			t.Errorf("num %d, then all: %s, left %v", num, shortly(outs[2]), outs[3].Bent)
		}
	}
}

// The good shards count, and not those that lack: an object of no shard that is good comes first.
func TestP20BentAndGoneLackAlike(t *testing.T) {
	c := impl.ClusterConfig{Code: impl.Code{K: 1, M: 3}, Unit: 2, Nodes: alike(4, 1)}
	disk := impl.PlaceKey(c.Nodes, "gone", 4).Disks[3]
	ops := []impl.ClusterOp{clPut("gone", "x"), clFail(disk), clBack(disk), clPut("bent", "x"), clRot("bent", 3, 0, 1), clRot("bent", 2, 1, 1), clPut("a", "x"), clRot("a", 0, 0, 1)}
	for num, bent := range [][]string{{"a#0", "bent#2", "bent#3"}, {"a#0", "bent#3"}, {"a#0"}, nil, nil} {
		run := checkRead(t, fmt.Sprint("num ", num), c, append(slices.Clone(ops), clRepair(int64(num)), clScrub(), clRot("gone", 3, -1, 1)))
		outs := run.Outs[len(ops):]
		code := int64(impl.ErrState)
		if num == 4 {
			code = impl.ErrForm
		}
		if !slices.Equal(outs[1].Bent, bent) || outs[2].Code != code || outs[0].Moved != int64(num) {
			t.Errorf("num %d: %s, bent %v, %d", num, shortly(outs[0]), outs[1].Bent, outs[2].Code)
		}
	}
}

// fullOfNothing are as many objects without bytes as there may be, none of whose 12 shards is there any more.
func fullOfNothing() (impl.ClusterConfig, []impl.ClusterOp) {
	c := impl.ClusterConfig{Code: impl.Code{K: 8, M: 4}, Unit: 1, Nodes: alike(12, 1)}
	var ops []impl.ClusterOp
	for i := range impl.MaxHeld {
		ops = append(ops, clPut(rowKey(i), ""))
	}
	for disk := range int64(12) {
		ops = append(ops, clFail(disk), clBack(disk))
	}
	return c, ops
}

func TestP20AtMostSoManyInARepair(t *testing.T) {
	c, ops := fullOfNothing()
	for _, num := range []int64{0, 1, 11, 12, 13, 500, 999, 1000} {
		run := checkRead(t, fmt.Sprint(num), c, append(slices.Clone(ops), clRepair(num), clRepair(clAll)))
		outs := run.Outs[len(ops):]
		if !sameClOut(outs[0], clMoved(num, num, 1200-num)) || outs[1].Moved != min(1200-num, 1000) {
			t.Errorf("%d: %s, %s", num, shortly(outs[0]), shortly(outs[1]))
		}
	}
	// By rising keys, and in order: 83 whole objects and 4 shards of the next one.
	asked := append(slices.Clone(ops), clRepair(1000))
	for _, at := range []int{82, 83, 84} {
		for number := range int64(12) {
			asked = append(asked, clRot(rowKey(at), number, 0, 1))
		}
	}
	run := checkRead(t, "1000", c, asked)
	for i, out := range run.Outs[len(ops)+1:] {
		code := int64(impl.ErrForm)
		if i >= 16 {
			code = impl.ErrState
		}
		if out.Code != code {
			t.Errorf("shard %d: %d", i, out.Code)
		}
	}
}

// A shard that needs a disk gets the one of the highest score of a free domain: by the words of chapter 7.
func TestP20WhichDiskAShardGets(t *testing.T) {
	x := newClusterRuns(313)
	for i := range 300 {
		code := clusterCodes[x.chance.Intn(len(clusterCodes))]
		if code.M+code.Groups == 0 {
			continue
		}
		size := impl.CodeSize(code)
		c := impl.ClusterConfig{Code: code, Unit: 2, Nodes: x.nodes(size + x.chance.Int63n(5))}
		key := fmt.Sprint("key ", x.chance.Intn(100000))
		disks := impl.PlaceKey(c.Nodes, key, size).Disks
		if disks == nil {
			continue
		}
		number := x.chance.Intn(int(size))
		now := put(c.Nodes, int(disks[number]), impl.Node{Domain: c.Nodes[disks[number]].Domain})
		// Only the domains of the others are taken, its own is not.
		best, score := disks[number], int64(-1)
		for disk := len(now) - 1; disk >= 0; disk-- {
			taken := slices.ContainsFunc(disks, func(other int64) bool { return other != disks[number] && now[other].Domain == now[disk].Domain })
			if own := plainScore(now, key, int64(disk)); !taken && own >= score && own >= 0 {
				best, score = int64(disk), own
			}
		}
		want := slices.Clone(disks)
		want[number] = best
		run := checkClusterAtEach(t, fmt.Sprint(i, " ", code), c, []impl.ClusterOp{clPut(key, "some bytes"), clFail(disks[number]), clRepair(1), clGet(key)}, 1)
		checkDisks(t, fmt.Sprint(i, " ", code, " ", c.Nodes), run, want)
		moved := int64(1)
		if score < 0 {
			moved = 0
		}
		if out := run.Outs[2]; !sameClOut(out, clMoved(moved, size-1+moved, 1-moved)) {
			t.Errorf("%d: %s", i, shortly(out))
		}
	}
}

// Of disks of equal scores the lower one gets a shard.
func TestP20OfEqualScoresTheLowerDisk(t *testing.T) {
	for _, tie := range ties {
		low, high := int64(tie.low), int64(tie.high)
		nodes := make([]impl.Node, impl.MaxNodes)
		nodes[0], nodes[1] = impl.Node{Domain: 1, Weight: 1}, impl.Node{Domain: 2, Weight: 1}
		nodes[tie.low], nodes[tie.high] = impl.Node{Domain: 8}, impl.Node{Domain: 9}
		c := impl.ClusterConfig{Code: impl.Code{K: 1, M: 1}, Unit: 4, Nodes: nodes}
		disks := impl.PlaceKey(nodes, tie.key, 2).Disks
		for _, weight := range []int64{1, 3, impl.MaxWeight} {
			ops := []impl.ClusterOp{clPut(tie.key, "data"), clWeight(low, weight), clWeight(high, weight), clFail(disks[0]), clRepair(clAll)}
			run := checkClusterAtEach(t, tie.key, c, ops, 1)
			checkDisks(t, tie.key, run, []int64{low, disks[1]})
			run = checkClusterAtEach(t, tie.key, c, append(ops, clFail(disks[1]), clRepair(clAll), clFail(low), clBack(disks[0]), clWeight(disks[0], 0), clRepair(clAll), clBack(low), clMove(clAll)), 1)
			checkDisks(t, tie.key, run, []int64{low, high})
		}
	}
}

// clTwins are disks of two to a domain: disks 2d and 2d+1 are of domain d.
func clTwins(domains int) []impl.Node {
	var nodes []impl.Node
	for domain := range int64(domains) {
		nodes = append(nodes, impl.Node{Domain: domain, Weight: 1}, impl.Node{Domain: domain, Weight: 1})
	}
	return nodes
}

// twinOf is the other disk of a domain.
func twinOf(disk int64) int64 { return disk ^ 1 }

// A domain whose disk failed is free for its twin, for the same shard and for another one.
func TestP20ADomainIsFreeWhenItsDiskFailed(t *testing.T) {
	c := impl.ClusterConfig{Code: impl.Code{K: 1, M: 2}, Unit: 2, Nodes: clTwins(3)}
	disks := impl.PlaceKey(c.Nodes, "k", 3).Disks
	a, b, d := disks[0], disks[1], disks[2]
	run := checkClusterSteps(t, "its twin", c, []clStep{
		{clPut("k", "abc"), clOut(0, 3, 0)}, {clFail(a), clOut(0, 2, 1)}, {clRepair(clAll), clMoved(1, 3, 0)}, {clFail(b), clOut(0, 2, 1)}, {clRepair(clAll), clMoved(1, 3, 0)}, {clGet("k"), clTold("abc", 1, 3, 0)},
	})
	checkDisks(t, "its twin", run, []int64{twinOf(a), twinOf(b), d})
	// Both are gone: the first shard takes the twin that wants it more, whose ever it was.
	run = checkClusterSteps(t, "both", c, []clStep{
		{clPut("k", "abc"), clOut(0, 3, 0)}, {clFail(a), clOut(0, 2, 1)}, {clFail(b), clOut(0, 1, 2)}, {clWeight(twinOf(a), 0), clOut(0, 1, 2)}, {clRepair(clAll), clMoved(1, 2, 1)}, {clGet("k"), clTold("abc", 1, 2, 1)},
		// The domain of the second one is taken by the first now, and the other one has no weight.
		{clRepair(clAll), clMoved(0, 2, 1)}, {clWeight(twinOf(a), 1), clOut(0, 2, 1)}, {clRepair(clAll), clMoved(1, 3, 0)},
	})
	checkDisks(t, "both", run, []int64{twinOf(b), twinOf(a), d})
	// A disk that works, but has nothing of the shard, takes its domain all the same.
	run = checkClusterSteps(t, "empty", c, []clStep{
		{clPut("k", "abc"), clOut(0, 3, 0)}, {clFail(b), clOut(0, 2, 1)}, {clBack(b), clOut(0, 2, 1)}, {clFail(a), clOut(0, 1, 2)}, {clWeight(twinOf(a), 0), clOut(0, 1, 2)}, {clRepair(1), clMoved(1, 2, 1)}, {clRepair(1), clMoved(0, 2, 1)}, {clGet("k"), clTold("abc", 0, 2, 1)},
	})
	checkDisks(t, "empty", run, []int64{a, b, d})
}

// A shard for which no domain is free is passed by, and those behind it are made; then one is free.
func TestP20NoDomainIsFreeThenOneIs(t *testing.T) {
	c := impl.ClusterConfig{Code: impl.Code{K: 2, M: 2}, Unit: 2, Nodes: alike(6, 1)}
	c.Nodes[5].Weight = 0
	probe := impl.PlaceKey(c.Nodes, "k", 5).Disks
	spare, held := probe[4], probe[:4]
	ahead := []clStep{
		{clFail(spare), clOut(0, 0, 0)}, {clPut("k", "abcdefg"), clOut(0, 4, 0)}, {clFail(held[0]), clOut(0, 3, 1)}, {clRot("k", 1, 0, 1), clOut(0, 2, 2)}, {clRepair(clAll), clMoved(1, 3, 1)}, {clRepair(clAll), clMoved(0, 3, 1)}, {clGet("k"), clTold("abcdefg", 1, 3, 1)},
	}
	for name, more := range map[string]struct {
		step clStep
		disk int64
	}{
		"another comes back":  {clStep{clBack(spare), clOut(0, 3, 1)}, spare},
		"its own comes back":  {clStep{clBack(held[0]), clOut(0, 3, 1)}, held[0]},
		"another has weight":  {clStep{clWeight(5, 1), clOut(0, 3, 1)}, 5},
		"its own has no more": {clStep{clWeight(held[0], 0), clOut(0, 3, 1)}, -1},
	} {
		steps := append(slices.Clone(ahead), more.step)
		if more.disk < 0 {
			steps = append(steps, clStep{clRepair(clAll), clMoved(0, 3, 1)}, clStep{clWeight(5, 1), clOut(0, 3, 1)})
			more.disk = 5
		}
		steps = append(steps, clStep{clRepair(0), clMoved(0, 3, 1)}, clStep{clRepair(1), clMoved(1, 4, 0)}, clStep{clRepair(1), clMoved(0, 4, 0)}, clStep{clGet("k"), clTold("abcdefg", 2, 4, 0)})
		run := checkClusterSteps(t, name, c, steps)
		checkDisks(t, name, run, []int64{more.disk, held[1], held[2], held[3]})
	}
}

// One that is passed by counts for nothing in Num.
func TestP20WhatIsPassedByDoesNotCount(t *testing.T) {
	c := impl.ClusterConfig{Code: impl.Code{K: 1, M: 3}, Unit: 2, Nodes: alike(4, 1)}
	disks := impl.PlaceKey(c.Nodes, "k", 4).Disks
	checkClusterSteps(t, "passed by", c, []clStep{
		{clPut("k", "abc"), clOut(0, 4, 0)}, {clPut("l", "abc"), clOut(0, 8, 0)}, {clFail(disks[0]), clOut(0, 6, 2)}, {clRot("k", 1, 0, 1), clOut(0, 5, 3)}, {clRot("k", 3, 0, 1), clOut(0, 4, 4)}, {clRepair(1), clMoved(1, 5, 3)}, {clScrub(), clBent(5, 3, "k#3")}, {clRepair(1), clMoved(1, 6, 2)}, {clScrub(), clBent(6, 2)},
	})
}

// A shard whose disk works is written there, whatever the disk weighs, and whatever else is in its domain.
func TestP20AShardWhoseDiskWorksIsWrittenThere(t *testing.T) {
	c := impl.ClusterConfig{Code: impl.Code{K: 1, M: 2}, Unit: 2, Nodes: alike(6, 1)}
	disks := impl.PlaceKey(c.Nodes, "k", 3).Disks
	run := checkClusterSteps(t, "of no weight", c, []clStep{
		{clPut("k", "abc"), clOut(0, 3, 0)}, {clWeight(disks[0], 0), clOut(0, 3, 0)}, {clRot("k", 0, 0, 1), clOut(0, 2, 1)}, {clRepair(clAll), clMoved(1, 3, 0)}, {clFail(disks[0]), clOut(0, 2, 1)}, {clBack(disks[0]), clOut(0, 2, 1)}, {clRepair(clAll), clMoved(1, 3, 0)}, {clGet("k"), clTold("abc", 1, 3, 0)},
	})
	checkDisks(t, "of no weight", run, disks)
}

// As long as a disk is away another shard may come into its domain: when it is back, both are there.
func TestP20TwoOfADomainWhenADiskCameBack(t *testing.T) {
	nodes := []impl.Node{{Domain: 4, Weight: 1}, {Domain: 4, Weight: 1}, {Domain: 7, Weight: 1}}
	c := impl.ClusterConfig{Code: impl.Code{K: 1, M: 1}, Unit: 1, Nodes: nodes}
	key, disks := "", []int64(nil)
	for i := 0; len(disks) == 0 || disks[0] != 2; i++ {
		key = fmt.Sprint("none ", i)
		disks = impl.PlaceKey(nodes, key, 2).Disks
	}
	away, twin := disks[1], 1-disks[1]
	// The first shard takes the place of the second one's twin.
	run := checkClusterSteps(t, "two", c, []clStep{
		{clPut(key, ""), clOut(0, 2, 0)}, {clFail(away), clOut(0, 1, 1)}, {clFail(2), clOut(0, 0, 2)}, {clRepair(clAll), clMoved(1, 1, 1)}, {clRepair(clAll), clMoved(0, 1, 1)}, {clBack(away), clOut(0, 1, 1)}, {clRepair(clAll), clMoved(1, 2, 0)}, {clGet(key), clTold("", 0, 2, 0)},
		// No move parts them either, as long as there are not enough domains.
		{clMove(clAll), clMoved(0, 2, 0)}, {clBack(2), clOut(0, 2, 0)},
	})
	checkDisks(t, "two", run, []int64{twin, away})
	run = checkClusterSteps(t, "two no more", c, []clStep{
		{clPut(key, ""), clOut(0, 2, 0)}, {clFail(away), clOut(0, 1, 1)}, {clFail(2), clOut(0, 0, 2)}, {clRepair(clAll), clMoved(1, 1, 1)}, {clBack(away), clOut(0, 1, 1)}, {clRepair(clAll), clMoved(1, 2, 0)}, {clBack(2), clOut(0, 2, 0)}, {clMove(clAll), clMoved(1, 2, 0)},
	})
	checkDisks(t, "two no more", run, []int64{2, away})
}

// Objects that are lost are passed by, wherever their disks are; those without bytes are made of nothing.
func TestP20WhatIsLostIsPassedBy(t *testing.T) {
	c := impl.ClusterConfig{Code: impl.Code{K: 2, Groups: 2}, Unit: 2, Nodes: alike(5, 1)}
	checkClusterSteps(t, "lost", c, []clStep{
		// A data shard and the parity of its group: three would be enough, but not these two.
		{clPut("k", "abcd"), clOut(0, 4, 0)}, {clRot("k", 0, 0, 1), clOut(0, 3, 1)}, {clRot("k", 2, 0, 1), clOut(0, 2, 2)}, {clGet("k"), clOut(impl.ErrLost, 2, 2)}, {clRepair(clAll), clMoved(0, 2, 2)}, {clScrub(), clBent(2, 2, "k#0", "k#2")}, {clRot("k", 2, 0, 1), clOut(0, 3, 1)}, {clRepair(clAll), clMoved(1, 4, 0)}, {clGet("k"), clTold("abcd", 2, 4, 0)},
		{clPut("none", ""), clOut(0, 8, 0)}, {clFail(0), clOut(0, 6, 2)}, {clFail(1), clOut(0, 4, 4)}, {clFail(2), clOut(0, 3, 5)}, {clFail(3), clOut(0, 1, 7)}, {clFail(4), clOut(0, 0, 8)}, {clRepair(clAll), clMoved(0, 0, 8)}, {clBack(0), clOut(0, 0, 8)}, {clRepair(clAll), clMoved(1, 1, 7)}, {clBack(1), clOut(0, 1, 7)}, {clBack(2), clOut(0, 1, 7)}, {clBack(3), clOut(0, 1, 7)}, {clBack(4), clOut(0, 1, 7)},
		{clRepair(2), clMoved(2, 3, 5)}, {clRepair(2), clMoved(1, 4, 4)}, {clGet("k"), clOut(impl.ErrLost, 4, 4)}, {clGet("none"), clTold("", 0, 4, 4)},
	})
}

// Shards go to where they are wanted now, and back when they are wanted there again.
func TestP20AMoveAsKnown(t *testing.T) {
	run := checkClusterSteps(t, "known", clSmall(5), []clStep{
		// The disks of "k" are 4, 1, 3, 0 and 2, those of "b" 1, 3, 0, 2 and 4.
		{clPut("k", "abcdefg"), clOut(0, 3, 0)}, {clPut("b", "xyz"), clOut(0, 6, 0)}, {clMove(clAll), clMoved(0, 6, 0)}, {clWeight(4, 0), clOut(0, 6, 0)}, {clMove(0), clMoved(0, 6, 0)}, {clMove(clAll), clMoved(1, 6, 0)}, {clMove(clAll), clMoved(0, 6, 0)}, {clGet("k"), clTold("abcdefg", 2, 6, 0)},
		// What has moved is where it was no more.
		{clFail(4), clOut(0, 6, 0)}, {clBack(4), clOut(0, 6, 0)}, {clWeight(1, 0), clOut(0, 6, 0)}, {clWeight(4, 1), clOut(0, 6, 0)}, {clMove(1), clMoved(1, 6, 0)}, {clGet("b"), clTold("xyz", 2, 6, 0)}, {clMove(1), clMoved(1, 6, 0)}, {clMove(1), clMoved(0, 6, 0)},
		{clFail(1), clOut(0, 6, 0)}, {clGet("k"), clTold("abcdefg", 2, 6, 0)}, {clGet("b"), clTold("xyz", 2, 6, 0)},
	})
	// "b" went from 1 to 2, "k" from 4 to 0 and from 1 to 4.
	checkDisks(t, "known", run, []int64{2, 3, 0}, []int64{0, 4, 3})
}

// A move is by rising keys, and in order: what is where behind a move of so many tells what went.
func TestP20AtMostSoManyInAMove(t *testing.T) {
	x := newClusterRuns(317)
	for _, code := range []impl.Code{{K: 2, M: 1}, {K: 3, M: 1, Groups: 2}} {
		c := impl.ClusterConfig{Code: code, Unit: 2, Nodes: alike(12, 2)}
		var ops []impl.ClusterOp
		for i := range 12 {
			ops = append(ops, clPut(fmt.Sprint("key ", (i*5)%12), x.bytes(int64(i))))
		}
		was := impl.RunCluster(c, ops).Objects
		for disk := range int64(5) {
			ops = append(ops, clWeight(disk, 0))
		}
		all := impl.RunCluster(c, append(slices.Clone(ops), clMove(clAll)))
		count := all.Outs[len(ops)].Moved
		if count < 10 {
			t.Fatalf("%v: %d moved", code, count)
		}
		for num := range count + 2 {
			run := checkRead(t, fmt.Sprint(code, " ", num), c, append(slices.Clone(ops), clMove(num), clMove(clAll)))
			if out := run.Outs[len(ops)]; out.Moved != min(num, count) || run.Outs[len(ops)+1].Moved != count-out.Moved {
				t.Errorf("%v: %d moved of %d", code, out.Moved, num)
			}
			run = checkRead(t, fmt.Sprint(code, " ", num), c, append(slices.Clone(ops), clMove(num)))
			left := num
			for i, o := range run.Objects {
				for number, disk := range o.Disks {
					want := was[i].Disks[number]
					if want < 5 && left > 0 {
						want = all.Objects[i].Disks[number]
						left--
					}
					if disk != want {
						t.Fatalf("%v, %d moved: shard %d of %q is on %d, not on %d", code, num, number, o.Key, disk, want)
					}
				}
			}
		}
	}
	// More than one operation may move.
	c := impl.ClusterConfig{Code: impl.Code{K: 8, M: 4}, Unit: 1, Nodes: alike(24, 1)}
	var ops []impl.ClusterOp
	for disk := int64(12); disk < 24; disk++ {
		ops = append(ops, clWeight(disk, 0))
	}
	for i := range impl.MaxHeld {
		ops = append(ops, clPut(rowKey(i), "x"))
	}
	for disk := range int64(24) {
		ops = append(ops, clWeight(disk, disk/12))
	}
	run := impl.RunCluster(c, append(ops, clMove(clAll), clMove(999), clMove(1)))
	if outs := run.Outs[len(ops):]; outs[0].Moved != 1000 || outs[1].Moved != 200 || outs[2].Moved != 0 {
		t.Errorf("%+v", outs)
	}
}

// Only what is good moves.
func TestP20WhatIsNotGoodDoesNotMove(t *testing.T) {
	c := impl.ClusterConfig{Code: impl.Code{K: 1, M: 2}, Unit: 2, Nodes: alike(8, 1)}
	held := impl.PlaceKey(c.Nodes, "k", 6).Disks
	a, b, d := held[0], held[1], held[2]
	run := checkClusterSteps(t, "not good", c, []clStep{
		{clPut("k", "abc"), clOut(0, 3, 0)}, {clRot("k", 0, 0, 1), clOut(0, 2, 1)}, {clFail(b), clOut(0, 1, 2)}, {clBack(b), clOut(0, 1, 2)}, {clWeight(a, 0), clOut(0, 1, 2)}, {clWeight(b, 0), clOut(0, 1, 2)}, {clWeight(d, 0), clOut(0, 1, 2)}, {clMove(clAll), clMoved(1, 1, 2)}, {clScrub(), clBent(1, 2, "k#0")},
	})
	checkDisks(t, "not good", run, []int64{a, b, held[3]})
	run = checkClusterSteps(t, "failed", c, []clStep{
		{clPut("k", "abc"), clOut(0, 3, 0)}, {clFail(a), clOut(0, 2, 1)}, {clMove(clAll), clMoved(0, 2, 1)}, {clWeight(b, 0), clOut(0, 2, 1)}, {clMove(clAll), clMoved(1, 2, 1)}, {clRepair(clAll), clMoved(1, 3, 0)}, {clMove(clAll), clMoved(0, 3, 0)},
	})
	checkDisks(t, "failed", run, []int64{held[4], held[3], d})
}

// Objects for which there are not enough domains stay where they are.
func TestP20NoMoveWhereThereIsNoPlace(t *testing.T) {
	c := impl.ClusterConfig{Code: impl.Code{K: 1, M: 1}, Unit: 2, Nodes: append(clTwins(2), impl.Node{Domain: 5})}
	disks := impl.PlaceKey(c.Nodes, "k", 2).Disks
	run := checkClusterSteps(t, "no place", c, []clStep{
		{clPut("k", "abc"), clOut(0, 2, 0)}, {clWeight(disks[0], 0), clOut(0, 2, 0)}, {clWeight(twinOf(disks[0]), 0), clOut(0, 2, 0)}, {clMove(clAll), clMoved(0, 2, 0)}, {clWeight(4, 1), clOut(0, 2, 0)}, {clMove(clAll), clMoved(1, 2, 0)},
	})
	checkDisks(t, "no place", run, []int64{4, disks[1]})
}

// A shard goes to its twin, whose domain is its own. Where another shard's disk is of the domain of the first disk that
// is wanted and free, the shard stays, though another one is wanted and free, too.
func TestP20AMoveIntoADomainThatIsTaken(t *testing.T) {
	nodes := clTwins(4)
	for domain := range 4 {
		nodes[2*domain+1].Weight = 0
	}
	c := impl.ClusterConfig{Code: impl.Code{K: 1, M: 2}, Unit: 2, Nodes: nodes}
	disks := impl.PlaceKey(nodes, "k", 4).Disks
	a, b, d, spare := disks[0], disks[1], disks[2], disks[3]
	run := checkClusterSteps(t, "twin", c, []clStep{
		{clPut("k", "abc"), clOut(0, 3, 0)}, {clWeight(a, 0), clOut(0, 3, 0)}, {clWeight(spare, 0), clOut(0, 3, 0)}, {clWeight(twinOf(a), 1), clOut(0, 3, 0)}, {clMove(clAll), clMoved(1, 3, 0)},
	})
	checkDisks(t, "twin", run, []int64{twinOf(a), b, d})
	// The twin of the bent shard's disk is wanted ahead of the spare: the last shard could go to either.
	now := slices.Clone(nodes)
	now[a].Weight, now[d].Weight, now[twinOf(a)].Weight = 0, 0, impl.MaxWeight
	wanted := impl.PlaceKey(now, "k", 3).Disks
	if at := slices.Index(wanted, twinOf(a)); at < 0 || at > slices.Index(wanted, spare) {
		t.Fatalf("%v are wanted", wanted)
	}
	run = checkClusterSteps(t, "taken", c, []clStep{
		{clPut("k", "abc"), clOut(0, 3, 0)}, {clRot("k", 0, 0, 1), clOut(0, 2, 1)}, {clWeight(a, 0), clOut(0, 2, 1)}, {clWeight(d, 0), clOut(0, 2, 1)}, {clWeight(twinOf(a), impl.MaxWeight), clOut(0, 2, 1)}, {clMove(clAll), clMoved(0, 2, 1)},
		// The bent one made again goes to its twin, and the last one to the spare.
		{clRepair(clAll), clMoved(1, 3, 0)}, {clMove(1), clMoved(1, 3, 0)}, {clMove(1), clMoved(1, 3, 0)}, {clMove(1), clMoved(0, 3, 0)}, {clGet("k"), clTold("abc", 1, 3, 0)},
	})
	checkDisks(t, "taken", run, []int64{twinOf(a), b, spare})
	// A disk that does not work is in no one's way.
	run = checkClusterSteps(t, "failed", c, []clStep{
		{clPut("k", "abc"), clOut(0, 3, 0)}, {clFail(a), clOut(0, 2, 1)}, {clWeight(d, 0), clOut(0, 2, 1)}, {clWeight(twinOf(a), impl.MaxWeight), clOut(0, 2, 1)}, {clMove(clAll), clMoved(1, 2, 1)},
	})
	checkDisks(t, "failed", run, []int64{a, b, twinOf(a)})
}

// A disk that is said to have a shard gets no other one, though it has come back without it.
func TestP20AMoveToADiskThatIsSaidToHaveOne(t *testing.T) {
	c := impl.ClusterConfig{Code: impl.Code{K: 1, M: 2}, Unit: 2, Nodes: alike(5, 1)}
	held := impl.PlaceKey(c.Nodes, "k", 5).Disks
	run := checkClusterSteps(t, "said", c, []clStep{
		{clPut("k", "abc"), clOut(0, 3, 0)}, {clFail(held[0]), clOut(0, 2, 1)}, {clBack(held[0]), clOut(0, 2, 1)}, {clWeight(held[2], 0), clOut(0, 2, 1)}, {clMove(clAll), clMoved(1, 2, 1)}, {clRepair(clAll), clMoved(1, 3, 0)}, {clMove(clAll), clMoved(0, 3, 0)},
	})
	checkDisks(t, "said", run, []int64{held[0], held[1], held[3]})
}

// Repairs and moves bring what was put through many failures: as long as no more is lost at one time than the code
// bears, and there are enough domains.
func TestP20WhatIsRepairedInTimeIsNeverLost(t *testing.T) {
	x := newClusterRuns(331)
	for _, code := range []impl.Code{{K: 4, M: 2}, {K: 6, M: 3, Groups: 2}, {K: 1, M: 1}} {
		size := impl.CodeSize(code)
		c := impl.ClusterConfig{Code: code, Unit: 8, Nodes: alike(int(size)+4, 3)}
		held := map[string]string{}
		var ops []impl.ClusterOp
		for i := range 10 {
			held[rowKey(i)] = x.bytes(x.chance.Int63n(4 * code.K * 8))
			ops = append(ops, clPut(rowKey(i), held[rowKey(i)]))
		}
		for range 100 {
			lost := x.chance.Perm(len(c.Nodes))[:1+x.chance.Int63n(code.M)]
			for _, disk := range lost {
				ops = append(ops, clFail(int64(disk)))
			}
			ops = append(ops, clRepair(clAll))
			for _, disk := range lost {
				ops = append(ops, clBack(int64(disk)))
			}
			ops = append(ops, clMove(clAll), clGet(rowKey(x.chance.Intn(10))))
		}
		run := impl.RunCluster(c, ops)
		checkReadBack(t, fmt.Sprint(code), ops, run.Outs)
		for i, op := range ops {
			if out := run.Outs[i]; out.Code != impl.OK || (op.Kind == impl.ClRepair || op.Kind == impl.ClMove) && out.Lacks > 0 {
				t.Fatalf("%v: operation %d, %s: %s", code, i, shortly(op), shortly(out))
			}
		}
		for _, o := range run.Objects {
			if len(o.Disks) != int(size) || o.Size != int64(len(held[o.Key])) {
				t.Errorf("%+v", o)
			}
		}
	}
}
