package tests

import (
	"fmt"
	"math"
	"slices"
	"strings"
	"testing"

	"loop.example/g00020/impl"
)

// objects does over again what the program does with stripes, in the plainest ways.
type objects struct {
	codes
}

func newObjects() objects {
	return objects{newCodes()}
}

// drawn is an object of any bytes.
func (p objects) drawn(size int) string {
	return p.drawnTexts(1, size)[0]
}

// split tells by the document's words which shards each stripe has.
func (p objects) split(c impl.Code, unit int, data string) [][]string {
	rows := p.rows(c)
	var stripes [][]string
	for len(data) > 0 {
		var shards []string
		for range c.K {
			shard := data[:min(unit, len(data))]
			data = data[len(shard):]
			for len(shard) < unit {
				shard += "\x00"
			}
			shards = append(shards, shard)
		}
		stripes = append(stripes, p.encode(rows, shards))
	}
	return stripes
}

// place is where a byte of an object lies.
type place struct {
	stripe, shard, at int64
}

// places goes through an object byte by byte, turning from shard to shard and from stripe to stripe.
func places(c impl.Code, unit, size int64) []place {
	var list []place
	var now place
	for range size {
		list = append(list, now)
		now.at++
		if now.at == unit {
			now.at = 0
			now.shard++
		}
		if now.shard == c.K {
			now.shard = 0
			now.stripe++
		}
	}
	return list
}

// rangesOf puts those of one shard together.
func rangesOf(list []place) []impl.ShardRange {
	var ranges []impl.ShardRange
	for _, p := range list {
		last := len(ranges) - 1
		if last >= 0 && ranges[last].Stripe == p.stripe && ranges[last].Shard == p.shard {
			ranges[last].Count++
			continue
		}
		ranges = append(ranges, impl.ShardRange{Stripe: p.stripe, Shard: p.shard, From: p.at, Count: 1})
	}
	return ranges
}

// textsOf are the shards of all stripes.
func textsOf(r impl.StripeResult) [][]string {
	var texts [][]string
	for _, stripe := range r.Stripes {
		texts = append(texts, stripe.Shards)
	}
	return texts
}

// heldAll gives stripes of which one has all shards.
func heldAll(stripes [][]string) []impl.HeldStripe {
	var list []impl.HeldStripe
	for _, shards := range stripes {
		list = append(list, impl.HeldStripe{Shards: held(shards, all(int64(len(shards))))})
	}
	return list
}

func isStripes(got impl.StripeResult, want [][]string) bool {
	return got.Code == impl.OK && slices.EqualFunc(textsOf(got), want, slices.Equal)
}

func isOnlyStripeCode(got impl.StripeResult, code int64) bool {
	return got.Code == code && len(got.Stripes) == 0
}

func isBytes(got impl.BytesResult, code int64, data string) bool {
	return got == impl.BytesResult{Code: code, Data: data}
}

func isRanges(got impl.RangeResult, code int64, want []impl.ShardRange) bool {
	return got.Code == code && slices.Equal(got.Ranges, want)
}

// stripeCodes have groups and have none, few shards and many.
var stripeCodes = []impl.Code{
	{K: 1}, {K: 1, M: 2, Groups: 1}, {K: 2, M: 1}, {K: 3, Groups: 2}, {K: 4, M: 2, Groups: 2}, {K: 5, M: 3},
	{K: 12, M: 4, Groups: 3}, {K: 32}, {K: 32, M: 16, Groups: 16}, {K: 32, Groups: 32},
}

var wrongUnits = []int64{0, -1, -2, -impl.MaxShard, impl.MaxShard + 1, impl.MaxShard + 2, 1 << 32, 1<<32 + 1,
	math.MinInt64, math.MinInt64 + 1, math.MaxInt64, math.MaxInt64 - 1}

var wrongSizes = []int64{-1, -2, -impl.MaxBytes, impl.MaxBytes + 1, impl.MaxBytes + 2, 1 << 32, 1<<32 + 1,
	math.MinInt64, math.MinInt64 + 1, math.MaxInt64, math.MaxInt64 - 1}

func TestP6CountAsKnown(t *testing.T) {
	if impl.MaxStripes != 200 {
		t.Errorf("MaxStripes is %d", impl.MaxStripes)
	}
	for _, known := range []struct {
		c                impl.Code
		unit, size, want int64
	}{
		{impl.Code{K: 2, M: 1}, 3, 0, 0},
		{impl.Code{K: 2, M: 1}, 3, 1, 1},
		{impl.Code{K: 2, M: 1}, 3, 5, 1},
		{impl.Code{K: 2, M: 1}, 3, 6, 1},
		{impl.Code{K: 2, M: 1}, 3, 7, 2},
		{impl.Code{K: 2, M: 1}, 3, 12, 2},
		{impl.Code{K: 2, M: 1}, 3, 13, 3},
		{impl.Code{K: 2, M: 1}, 3, 1199, 200},
		{impl.Code{K: 2, M: 1}, 3, 1200, 200},
		{impl.Code{K: 2, M: 1}, 3, 1201, -1},
		{impl.Code{K: 1}, 1, 0, 0},
		{impl.Code{K: 1}, 1, 200, 200},
		{impl.Code{K: 1}, 1, 201, -1},
		{impl.Code{K: 1}, 499, 99800, 200},
		{impl.Code{K: 1}, 499, 99801, -1},
		{impl.Code{K: 1}, 499, impl.MaxBytes, -1},
		{impl.Code{K: 1}, 500, impl.MaxBytes, 200},
		{impl.Code{K: 1}, impl.MaxShard, 0, 0},
		{impl.Code{K: 1}, impl.MaxShard, 1, 1},
		{impl.Code{K: 1}, impl.MaxShard, impl.MaxBytes, 25},
		{impl.Code{K: 32}, 1, 6400, 200},
		{impl.Code{K: 32}, 1, 6401, -1},
		{impl.Code{K: 32, M: 16, Groups: 16}, 15, 96000, 200},
		{impl.Code{K: 32, M: 16, Groups: 16}, 15, 96001, -1},
		{impl.Code{K: 32, M: 16, Groups: 16}, 16, impl.MaxBytes, 196},
		{impl.Code{K: 32, M: 16, Groups: 16}, impl.MaxShard, 1, 1},
		{impl.Code{K: 32, M: 16, Groups: 16}, impl.MaxShard, impl.MaxBytes, 1},
		{impl.Code{K: 24}, impl.MaxShard, 98304, 1},
		{impl.Code{K: 24}, impl.MaxShard, 98305, 2},
	} {
		if got := impl.StripeCount(known.c, known.unit, known.size); got != known.want {
			t.Errorf("%v, unit %d, size %d: %d, not %d", known.c, known.unit, known.size, got, known.want)
		}
	}
}

// The parities play no part in how many stripes there are.
func TestP6CountByTheWords(t *testing.T) {
	for _, c := range slices.Concat(smallCodes, greatCodes) {
		for _, unit := range []int64{1, 2, 3, 7, 499, 500, 501, impl.MaxShard - 1, impl.MaxShard} {
			want := int64(0)
			for size := range int64(impl.MaxBytes + 1) {
				if size > want*c.K*unit {
					want++
				}
				if size%97 > 1 && (size+1)%(c.K*unit) > 2 && size < impl.MaxBytes-1 {
					continue
				}
				told := want
				if told > impl.MaxStripes {
					told = -1
				}
				if got := impl.StripeCount(c, unit, size); got != told {
					t.Fatalf("%v, unit %d, size %d: %d, not %d", c, unit, size, got, told)
				}
			}
		}
	}
}

func TestP6WrongCounts(t *testing.T) {
	for _, c := range wrongCodes {
		for _, unit := range []int64{1, 0, impl.MaxShard, math.MaxInt64} {
			for _, size := range []int64{0, 1, -1, impl.MaxBytes, math.MaxInt64} {
				if got := impl.StripeCount(c, unit, size); got != -1 {
					t.Errorf("%v, unit %d, size %d: %d", c, unit, size, got)
				}
			}
		}
	}
	for _, c := range stripeCodes {
		for _, unit := range wrongUnits {
			for _, size := range []int64{0, 1, impl.MaxBytes, -1} {
				if got := impl.StripeCount(c, unit, size); got != -1 {
					t.Errorf("%v, unit %d, size %d: %d", c, unit, size, got)
				}
			}
		}
		for _, size := range wrongSizes {
			for _, unit := range []int64{1, 500, impl.MaxShard, 0} {
				if got := impl.StripeCount(c, unit, size); got != -1 {
					t.Errorf("%v, unit %d, size %d: %d", c, unit, size, got)
				}
			}
		}
	}
}

func TestP6SplitAsKnown(t *testing.T) {
	for _, known := range []struct {
		c    impl.Code
		unit int64
		data string
		want [][]string
	}{
		{impl.Code{K: 2, M: 1}, 3, "", nil},
		{impl.Code{K: 1}, 1, "abc", [][]string{{"a"}, {"b"}, {"c"}}},
		{impl.Code{K: 1, Groups: 1}, 2, "abc", [][]string{{"ab", "ab"}, {"c\x00", "c\x00"}}},
		{impl.Code{K: 2, M: 2}, 2, "abxy", [][]string{{"ab", "xy", "\x96\xed", "\xe8\x67"}}},
		{impl.Code{K: 3, Groups: 1}, 1, "abcd", [][]string{{"a", "b", "c", "`"}, {"d", "\x00", "\x00", "d"}}},
		{impl.Code{K: 4, M: 2, Groups: 2}, 3, "objectstore!", [][]string{
			{"obj", "ect", "sto", "re!", "\x2c\x88\x83", "\x62\x34\xb2", "\x1c\x16\x05", "\x17\x06\x55"}}},
		{impl.Code{K: 4, M: 2, Groups: 2}, 3, "objectstore!\x01", [][]string{
			{"obj", "ect", "sto", "re!", "\x2c\x88\x83", "\x62\x34\xb2", "\x1c\x16\x05", "\x17\x06\x55"},
			{"\x01\x00\x00", "\x00\x00\x00", "\x00\x00\x00", "\x00\x00\x00", "\x47\x00\x00", "\xa7\x00\x00", "\x01\x00\x00",
				"\x00\x00\x00"}}},
	} {
		if got := impl.SplitObject(known.c, known.unit, known.data); !isStripes(got, known.want) {
			t.Errorf("%v, unit %d of %q: %d %q", known.c, known.unit, known.data, got.Code, textsOf(got))
		}
	}
}

func (p objects) checkSplit(t *testing.T, c impl.Code, unit, size int) {
	t.Helper()
	data := p.drawn(size)
	got := impl.SplitObject(c, int64(unit), data)
	if !isStripes(got, p.split(c, unit, data)) {
		t.Fatalf("%v, unit %d, size %d: code %d, or other stripes", c, unit, size, got.Code)
	}
	if int64(len(got.Stripes)) != impl.StripeCount(c, int64(unit), int64(size)) {
		t.Fatalf("%v, unit %d, size %d: %d stripes", c, unit, size, len(got.Stripes))
	}
}

// The last stripe is full, lacks one byte, has one, and ends at a shard's edge and on both sides of it.
func TestP6SplitByTheWords(t *testing.T) {
	p := newObjects()
	for _, c := range slices.Concat(smallCodes, greatCodes) {
		for _, unit := range []int{1, 2, 5} {
			whole := int(c.K) * unit
			for _, size := range []int{0, 1, unit, unit + 1, whole - 1, whole, whole + 1, 2*whole + unit, 3*whole - unit, 3 * whole} {
				p.checkSplit(t, c, unit, size)
			}
		}
	}
}

// edges are the objects at the bounds that the document names.
var edges = []struct {
	c          impl.Code
	unit, size int
}{
	{impl.Code{K: 1}, 1, impl.MaxStripes},
	{impl.Code{K: 1, M: 1, Groups: 1}, 500, impl.MaxBytes},
	{impl.Code{K: 1, M: 1}, impl.MaxShard, impl.MaxBytes},
	{impl.Code{K: 1, M: 1}, impl.MaxShard, impl.MaxShard},
	{impl.Code{K: 2, M: 1}, impl.MaxShard, impl.MaxBytes},
	{impl.Code{K: 3, M: 1, Groups: 2}, 167, impl.MaxBytes},
	{impl.Code{K: 4, M: 1}, 1, 4 * impl.MaxStripes},
	{impl.Code{K: 4, M: 1}, 1, 4*impl.MaxStripes - 1},
	{impl.Code{K: 32}, 1, 32 * impl.MaxStripes},
	{impl.Code{K: 32, M: 2, Groups: 4}, 1, 32 * impl.MaxStripes},
	{impl.Code{K: 32, M: 2, Groups: 4}, 16, impl.MaxBytes},
	{impl.Code{K: 32, M: 16, Groups: 16}, 3125, impl.MaxBytes},
	{impl.Code{K: 32, M: 16, Groups: 16}, impl.MaxShard, 1},
	{impl.Code{K: 32, M: 16, Groups: 16}, impl.MaxShard, impl.MaxBytes},
	{impl.Code{K: 32, M: 16, Groups: 16}, 1, 33},
}

func TestP6SplitAtTheEdges(t *testing.T) {
	p := newObjects()
	for _, edge := range edges {
		p.checkSplit(t, edge.c, edge.unit, edge.size)
	}
	for _, c := range stripeCodes {
		for _, unit := range []int{1, 77, impl.MaxShard} {
			p.checkSplit(t, c, unit, 0)
		}
	}
}

// A text that is too long is no object either: chapter 6 names the code for it.
func TestP6WrongSplits(t *testing.T) {
	p := newObjects()
	refused := func(c impl.Code, unit int64, size int) {
		t.Helper()
		if got := impl.SplitObject(c, unit, p.drawn(size)); !isOnlyStripeCode(got, impl.ErrForm) {
			t.Errorf("%v, unit %d, size %d: code %d, %d stripes", c, unit, size, got.Code, len(got.Stripes))
		}
	}
	for _, c := range wrongCodes {
		for _, unit := range []int64{1, 0, impl.MaxShard} {
			refused(c, unit, 0)
			refused(c, unit, 5)
		}
	}
	for _, c := range stripeCodes {
		for _, unit := range wrongUnits {
			refused(c, unit, 0)
			refused(c, unit, 5)
		}
		refused(c, impl.MaxShard, impl.MaxBytes+1)
		refused(c, impl.MaxShard, 4*impl.MaxBytes+1)
		refused(c, impl.MaxShard+1, impl.MaxBytes+1)
		refused(c, 1, int(c.K)*impl.MaxStripes+1)
		refused(c, 3, 3*int(c.K)*impl.MaxStripes+1)
		refused(c, 1, impl.MaxBytes)
	}
	refused(impl.Code{K: 33}, 0, impl.MaxBytes+1)
}

// checkJoin loses shards in each stripe, and holds what is made of the rest against the object, or against ErrLost if
// one stripe can't bear it.
func (p objects) checkJoin(t *testing.T, c impl.Code, unit int, data string, haves [][]bool) {
	t.Helper()
	split := textsOf(impl.SplitObject(c, int64(unit), data))
	stripes := make([]impl.HeldStripe, len(split))
	code, size := int64(impl.OK), int64(len(data))
	for i, shards := range split {
		have := haves[i%len(haves)]
		stripes[i].Shards = held(shards, have)
		if len(p.taken(p.rows(c), have)) < int(c.K) {
			code, data = impl.ErrLost, ""
		}
	}
	if got := impl.JoinObject(c, int64(unit), size, stripes); !isBytes(got, code, data) {
		t.Fatalf("%v, unit %d, with %v: code %d, not %d, or other bytes", c, unit, haves, got.Code, code)
	}
}

// bearable are the ways to have shards from which all can be made again, and the others.
func (p objects) bearable(c impl.Code) (good, bad [][]bool) {
	for _, have := range subsets(impl.CodeSize(c)) {
		if len(p.taken(p.rows(c), have)) == int(c.K) {
			good = append(good, have)
		} else {
			bad = append(bad, have)
		}
	}
	return good, bad
}

// Stripe after stripe loses other shards, until each way that the code bears was there in a full stripe and in the last.
func TestP6JoinWithAnyShardsLacking(t *testing.T) {
	p := newObjects()
	for _, c := range smallCodes {
		good, bad := p.bearable(c)
		for at, have := range good {
			others := [][]bool{have, good[(at+1)%len(good)], good[(at+2)%len(good)]}
			p.checkJoin(t, c, 3, p.drawn(int(c.K)*6+1+at%(int(c.K)*3)), others)
		}
		for at, have := range bad {
			haves := [][]bool{all(impl.CodeSize(c)), all(impl.CodeSize(c)), all(impl.CodeSize(c))}
			haves[at%3] = have
			p.checkJoin(t, c, 2, p.drawn(int(c.K)*6), haves)
		}
	}
}

func TestP6JoinOfGreatCodes(t *testing.T) {
	p := newObjects()
	for _, c := range greatCodes {
		size := impl.CodeSize(c)
		var some, borne [][]bool
		for range 40 {
			have := only(size, p.chance.Perm(int(size))[:(c.K+2*size+2)/3])
			some = append(some, have)
			if len(p.taken(p.rows(c), have)) == int(c.K) {
				borne = append(borne, have)
			}
		}
		borne = append(borne, all(size))
		for _, count := range []int{1, int(c.K) * 4, int(c.K)*8 - 1, int(c.K)*8 + 1, int(c.K) * 28} {
			p.checkJoin(t, c, 4, p.drawn(count), borne)
			p.checkJoin(t, c, 4, p.drawn(count), some)
		}
	}
}

// Without groups any M shards of each stripe may go, and no more.
func TestP6JoinWithoutGroups(t *testing.T) {
	p := newObjects()
	for _, c := range []impl.Code{{K: 1, M: 16}, {K: 4, M: 2}, {K: 10, M: 4}, {K: 32, M: 16}} {
		size := impl.CodeSize(c)
		for _, unit := range []int64{1, 6, 600} {
			data := p.drawn(int(5*c.K*unit - c.K*unit/2))
			stripes := heldAll(textsOf(impl.SplitObject(c, unit, data)))
			for i := range stripes {
				for _, lost := range p.chance.Perm(int(size))[:c.M] {
					stripes[i].Shards[lost] = impl.Shard{Data: "gone"}
				}
			}
			if got := impl.JoinObject(c, unit, int64(len(data)), stripes); !isBytes(got, impl.OK, data) {
				t.Fatalf("%v, unit %d: code %d, or other bytes", c, unit, got.Code)
			}
			last := stripes[len(stripes)-1].Shards
			last[slices.IndexFunc(last, func(s impl.Shard) bool { return s.Have })].Have = false
			if got := impl.JoinObject(c, unit, int64(len(data)), stripes); !isBytes(got, impl.ErrLost, "") {
				t.Fatalf("%v, unit %d, one shard too few in the last stripe: code %d", c, unit, got.Code)
			}
		}
	}
}

func TestP6JoinAtTheEdges(t *testing.T) {
	p := newObjects()
	for _, edge := range edges {
		size := impl.CodeSize(edge.c)
		haves := [][]bool{all(size)}
		for i := range size {
			if have := without(all(size), i); len(p.taken(p.rows(edge.c), have)) == int(edge.c.K) {
				haves = append(haves, have)
			}
		}
		p.checkJoin(t, edge.c, edge.unit, p.drawn(edge.size), haves)
	}
}

func TestP6JoinOfNoBytes(t *testing.T) {
	for _, c := range stripeCodes {
		for _, unit := range []int64{1, 77, impl.MaxShard} {
			for _, stripes := range [][]impl.HeldStripe{nil, {}} {
				if got := impl.JoinObject(c, unit, 0, stripes); !isBytes(got, impl.OK, "") {
					t.Errorf("%v, unit %d: %v", c, unit, got)
				}
			}
			if got := impl.JoinObject(c, unit, 0, make([]impl.HeldStripe, 1)); !isBytes(got, impl.ErrForm, "") {
				t.Errorf("%v, unit %d, with a stripe: %v", c, unit, got)
			}
			if got := impl.JoinObject(c, unit, 1, nil); !isBytes(got, impl.ErrForm, "") {
				t.Errorf("%v, unit %d, one byte without a stripe: %v", c, unit, got)
			}
		}
	}
}

// The size says how much of the stripes is the object: what lies behind it is left out, whatever it is.
func TestP6JoinLeavesTheRestOut(t *testing.T) {
	p := newObjects()
	for _, c := range []impl.Code{{K: 1, M: 1}, {K: 2, M: 1}, {K: 4, M: 2, Groups: 2}} {
		whole := int(c.K) * 5
		data := p.drawn(3 * whole)
		stripes := heldAll(textsOf(impl.SplitObject(c, 5, data)))
		for i := range stripes {
			stripes[i].Shards[i%int(c.K)].Have = false
		}
		for size := 2*whole + 1; size <= 3*whole; size++ {
			if got := impl.JoinObject(c, 5, int64(size), stripes); !isBytes(got, impl.OK, data[:size]) {
				t.Errorf("%v, the first %d bytes: code %d, %q", c, size, got.Code, got.Data)
			}
		}
		for _, size := range []int{0, 1, 2 * whole, 3*whole + 1} {
			if got := impl.JoinObject(c, 5, int64(size), stripes); !isBytes(got, impl.ErrForm, "") {
				t.Errorf("%v, size %d of three stripes: code %d", c, size, got.Code)
			}
		}
	}
}

// Shards that no data give are joined as DecodeShards makes them.
func TestP6JoinIsOfWhatDecodeMakes(t *testing.T) {
	p := newObjects()
	for _, c := range smallCodes {
		size := impl.CodeSize(c)
		for range 20 {
			stripes := make([]impl.HeldStripe, 2)
			code, want := int64(impl.OK), ""
			for i := range stripes {
				have := only(size, p.chance.Perm(int(size))[:(c.K+2*size)/3])
				stripes[i].Shards = held(p.drawnTexts(int(size), 3), have)
				made := impl.DecodeShards(c, stripes[i].Shards)
				if made.Code != impl.OK {
					code = made.Code
					continue
				}
				want += strings.Join(made.Shards[:c.K], "")
			}
			if code != impl.OK {
				want = ""
			}
			if got := impl.JoinObject(c, 3, 6*c.K, stripes); !isBytes(got, code, want) {
				t.Fatalf("%v: code %d, not %d, or other bytes", c, got.Code, code)
			}
		}
	}
}

func TestP6WrongJoins(t *testing.T) {
	p := newObjects()
	refused := func(what string, c impl.Code, unit, size int64, stripes []impl.HeldStripe) {
		t.Helper()
		if got := impl.JoinObject(c, unit, size, stripes); !isBytes(got, impl.ErrForm, "") {
			t.Errorf("%s: %v, unit %d, size %d, %d stripes: code %d", what, c, unit, size, len(stripes), got.Code)
		}
	}
	for _, c := range wrongCodes {
		for _, count := range []int{0, 1, 3} {
			refused("code", c, 1, 0, make([]impl.HeldStripe, count))
			refused("code", c, 2, int64(count), make([]impl.HeldStripe, count))
		}
	}
	for _, c := range stripeCodes {
		whole := c.K * 3
		right := heldAll(textsOf(impl.SplitObject(c, 3, p.drawn(int(3*whole)))))
		for _, unit := range wrongUnits {
			refused("unit", c, unit, 3*whole, right)
			refused("unit", c, unit, 0, nil)
		}
		for _, size := range wrongSizes {
			refused("size", c, 3, size, right)
			refused("size", c, 3, size, nil)
			refused("size", c, impl.MaxShard, size, make([]impl.HeldStripe, (impl.MaxBytes+1)/(c.K*impl.MaxShard)+1))
		}
		refused("none", c, 3, 3*whole, nil)
		refused("too few", c, 3, 3*whole, right[:2])
		refused("too few", c, 3, 3*whole, right[1:])
		refused("too many", c, 3, 3*whole, append(slices.Clone(right), right[0]))
		refused("too many", c, 3, 3*whole, append(slices.Clone(right), impl.HeldStripe{}))
		refused("too many", c, 3, 2*whole, right)
		refused("too few", c, 3, 3*whole+1, right)
		refused("one stripe too many", c, 3, impl.MaxStripes*whole+1, slices.Repeat(right[:1], impl.MaxStripes+1))
		refused("one stripe too many", c, 3, impl.MaxStripes*whole+1, slices.Repeat(right[:1], impl.MaxStripes))
	}
}

// stripeFault is a stripe, and the code that it is refused with.
type stripeFault struct {
	what   string
	code   int64
	stripe impl.HeldStripe
}

// stripeFaults are stripes for units of 3 bytes, the first of them right.
func (p objects) stripeFaults(c impl.Code) []stripeFault {
	size := impl.CodeSize(c)
	shards := func(unit int) []impl.Shard {
		return held(impl.EncodeShards(c, p.drawnTexts(int(c.K), unit)).Shards, all(size))
	}
	mixed := shards(3)
	mixed[size-1].Data = "four"
	lost := shards(3)
	for i := range int(size-c.K) + 1 {
		lost[i].Have = false
	}
	otherAndLost := shards(4)
	for i := range int(size-c.K) + 1 {
		otherAndLost[i].Have = false
	}
	lacking := shards(2)
	lacking[0].Have = false
	return []stripeFault{
		{"right", impl.OK, impl.HeldStripe{Shards: shards(3)}},
		{"no shards", impl.ErrForm, impl.HeldStripe{}},
		{"a shard too few", impl.ErrForm, impl.HeldStripe{Shards: shards(3)[1:]}},
		{"a shard too many", impl.ErrForm, impl.HeldStripe{Shards: append(shards(3), impl.Shard{})}},
		{"two lengths", impl.ErrSize, impl.HeldStripe{Shards: mixed}},
		{"shards of no bytes", impl.ErrSize, impl.HeldStripe{Shards: held(make([]string, size), all(size))}},
		{"shards too long", impl.ErrSize, impl.HeldStripe{Shards: held(p.drawnTexts(int(size), impl.MaxShard+1), all(size))}},
		{"lost", impl.ErrLost, impl.HeldStripe{Shards: lost}},
		{"none there", impl.ErrLost, impl.HeldStripe{Shards: make([]impl.Shard, size)}},
		{"another length, and lost", impl.ErrLost, impl.HeldStripe{Shards: otherAndLost}},
		{"one byte more", impl.ErrSize, impl.HeldStripe{Shards: shards(4)}},
		{"one byte less, one lacking", impl.ErrSize, impl.HeldStripe{Shards: lacking}},
		{"the longest", impl.ErrSize, impl.HeldStripe{Shards: shards(impl.MaxShard)}},
	}
}

// The first stripe that something stands against tells the code: its own of DecodeShards, else ErrSize.
func TestP6JoinGoesStripeByStripe(t *testing.T) {
	p := newObjects()
	for _, c := range []impl.Code{{K: 2, M: 1}, {K: 3, M: 2}, {K: 4, M: 2, Groups: 2}} {
		faults := p.stripeFaults(c)
		for _, first := range faults {
			for _, second := range faults {
				for _, third := range faults {
					list := []stripeFault{first, second, third}
					want := int64(impl.OK)
					var stripes []impl.HeldStripe
					for _, fault := range list {
						stripes = append(stripes, fault.stripe)
						if want == impl.OK {
							want = fault.code
						}
					}
					got := impl.JoinObject(c, 3, 9*c.K, stripes)
					if got.Code != want || (want != impl.OK) != (got.Data == "") {
						t.Fatalf("%v, %s, %s, %s: code %d, not %d", c, first.what, second.what, third.what, got.Code, want)
					}
				}
			}
		}
	}
}

// With K of 1 and no parity there is no second length in a stripe: unit alone refuses it.
func TestP6JoinAsksForUnit(t *testing.T) {
	c := impl.Code{K: 1}
	for length := range 9 {
		stripes := []impl.HeldStripe{{Shards: []impl.Shard{{Have: true, Data: strings.Repeat("x", length)}}}}
		for unit := int64(1); unit <= 8; unit++ {
			code, data := int64(impl.ErrSize), ""
			if unit == int64(length) {
				code, data = impl.OK, "x"
			}
			if got := impl.JoinObject(c, unit, 1, stripes); !isBytes(got, code, data) {
				t.Errorf("a shard of %d bytes, unit %d: %v", length, unit, got)
			}
		}
	}
}

// What one lacks has no length: neither unit nor another bound is asked of it.
func TestP6WhatOneLacksPlaysNoPart(t *testing.T) {
	p := newObjects()
	for _, c := range []impl.Code{{K: 1, M: 1}, {K: 2, M: 1, Groups: 2}, {K: 4, M: 2}} {
		data := p.drawn(int(c.K)*6 - 1)
		split := textsOf(impl.SplitObject(c, 3, data))
		for _, have := range losses(c) {
			code, want := int64(impl.OK), data
			if len(p.taken(p.rows(c), have)) < int(c.K) {
				code, want = impl.ErrLost, ""
			}
			for _, size := range junkSizes {
				stripes := heldAll(split)
				stripes[1].Shards = withJunk(split[1], have, size)
				if got := impl.JoinObject(c, 3, int64(len(data)), stripes); !isBytes(got, code, want) {
					t.Errorf("%v with %v, the others of %d bytes: code %d, not %d, or other bytes", c, have, size, got.Code, code)
				}
			}
		}
	}
}

// rows are ranges in short: stripe, shard, from, count.
type rows [][4]int64

func (r rows) ranges() []impl.ShardRange {
	var list []impl.ShardRange
	for _, row := range r {
		list = append(list, impl.ShardRange{Stripe: row[0], Shard: row[1], From: row[2], Count: row[3]})
	}
	return list
}

func TestP6RangesAsKnown(t *testing.T) {
	two, four := impl.Code{K: 2, M: 1}, impl.Code{K: 4, M: 2, Groups: 2}
	for _, known := range []struct {
		c                       impl.Code
		unit, size, from, count int64
		want                    rows
	}{
		{two, 3, 7, 0, 1, rows{{0, 0, 0, 1}}},
		{two, 3, 7, 1, 2, rows{{0, 0, 1, 2}}},
		{two, 3, 7, 0, 3, rows{{0, 0, 0, 3}}},
		{two, 3, 7, 3, 3, rows{{0, 1, 0, 3}}},
		{two, 3, 7, 2, 2, rows{{0, 0, 2, 1}, {0, 1, 0, 1}}},
		{two, 3, 7, 5, 2, rows{{0, 1, 2, 1}, {1, 0, 0, 1}}},
		{two, 3, 7, 0, 7, rows{{0, 0, 0, 3}, {0, 1, 0, 3}, {1, 0, 0, 1}}},
		{two, 3, 7, 0, 8, rows{{0, 0, 0, 3}, {0, 1, 0, 3}, {1, 0, 0, 1}}},
		{two, 3, 7, 6, 1, rows{{1, 0, 0, 1}}},
		{two, 3, 7, 6, math.MaxInt64, rows{{1, 0, 0, 1}}},
		{two, 3, 7, 0, 0, nil},
		{two, 3, 7, 4, 0, nil},
		{two, 3, 7, 7, 0, nil},
		{two, 3, 7, 7, 1, nil},
		{two, 3, 7, 8, 100, nil},
		{two, 3, 7, math.MaxInt64, math.MaxInt64, nil},
		{two, 3, 0, 0, 1, nil},
		{two, 3, 0, 0, 0, nil},
		{four, 2, 20, 3, 14, rows{{0, 1, 1, 1}, {0, 2, 0, 2}, {0, 3, 0, 2}, {1, 0, 0, 2}, {1, 1, 0, 2}, {1, 2, 0, 2},
			{1, 3, 0, 2}, {2, 0, 0, 1}}},
		{impl.Code{K: 1}, 1, 3, 1, 5, rows{{1, 0, 0, 1}, {2, 0, 0, 1}}},
		{impl.Code{K: 32, M: 16, Groups: 16}, impl.MaxShard, impl.MaxBytes, 99000, 5000, rows{{0, 24, 696, 1000}}},
		{impl.Code{K: 1}, 500, impl.MaxBytes, 99499, 501, rows{{198, 0, 499, 1}, {199, 0, 0, 500}}},
		{impl.Code{K: 32}, 1, 6400, 6399, 1, rows{{199, 31, 0, 1}}},
	} {
		got := impl.RangeReads(known.c, known.unit, known.size, known.from, known.count)
		if !isRanges(got, impl.OK, known.want.ranges()) {
			t.Errorf("%v, unit %d, size %d, %d from %d on: %v", known.c, known.unit, known.size, known.count, known.from, got)
		}
	}
}

// All ranges of small objects, of which each byte's place is known.
func TestP6AllRangesOfSmallObjects(t *testing.T) {
	for _, c := range []impl.Code{{K: 1}, {K: 1, M: 1, Groups: 1}, {K: 2, M: 1}, {K: 3, Groups: 2}, {K: 5, M: 1, Groups: 5}} {
		for _, unit := range []int64{1, 2, 3, 7} {
			for _, size := range []int64{0, 1, 2, unit, c.K * unit, c.K*unit + 1, 2*c.K*unit - 1, 3 * c.K * unit} {
				list := places(c, unit, size)
				for from := range size + 3 {
					for count := range size + 3 {
						want := rangesOf(list[min(from, size):min(from+count, size)])
						if got := impl.RangeReads(c, unit, size, from, count); !isRanges(got, impl.OK, want) {
							t.Fatalf("%v, unit %d, size %d, %d from %d on: %v, not %v", c, unit, size, count, from, got, want)
						}
					}
				}
			}
		}
	}
}

func TestP6RangesAtTheEdges(t *testing.T) {
	p := newObjects()
	for _, edge := range edges {
		unit, size := int64(edge.unit), int64(edge.size)
		list := places(edge.c, unit, size)
		froms := []int64{0, 1, unit - 1, unit, edge.c.K * unit, size - 1, size, size + 1, math.MaxInt64 - 1, math.MaxInt64}
		for range 5 {
			froms = append(froms, p.chance.Int63n(size))
		}
		for _, from := range froms {
			for _, count := range []int64{0, 1, unit, unit + 1, edge.c.K*unit + 1, size, size + 1, math.MaxInt64 - from,
				math.MaxInt64} {
				begin := min(from, size)
				want := rangesOf(list[begin : begin+min(count, size-begin)])
				if got := impl.RangeReads(edge.c, unit, size, from, count); !isRanges(got, impl.OK, want) {
					t.Fatalf("%v, unit %d, size %d, %d from %d on: code %d, or other ranges", edge.c, unit, size, count, from, got.Code)
				}
			}
		}
	}
}

// What the ranges name, read from the shards and put together, is that piece of the object.
func TestP6RangesNameEachByteOnceInOrder(t *testing.T) {
	p := newObjects()
	for _, c := range stripeCodes {
		for _, unit := range []int64{1, 4, 33} {
			size := c.K*unit*3 - c.K*unit/2
			data := p.drawn(int(size))
			split := textsOf(impl.SplitObject(c, unit, data))
			for range 60 {
				from, count := p.chance.Int63n(size), p.chance.Int63n(size)
				read := ""
				for _, r := range impl.RangeReads(c, unit, size, from, count).Ranges {
					if r.Count < 1 || r.Shard >= c.K {
						t.Fatalf("%v, unit %d, size %d, %d from %d on: %v", c, unit, size, count, from, r)
					}
					read += split[r.Stripe][r.Shard][r.From : r.From+r.Count]
				}
				if read != data[from:min(from+count, size)] {
					t.Fatalf("%v, unit %d, size %d, %d from %d on: other bytes", c, unit, size, count, from)
				}
			}
		}
	}
}

func TestP6WrongRanges(t *testing.T) {
	refused := func(c impl.Code, unit, size, from, count int64) {
		t.Helper()
		if got := impl.RangeReads(c, unit, size, from, count); !isRanges(got, impl.ErrForm, nil) {
			t.Errorf("%v, unit %d, size %d, %d from %d on: %v", c, unit, size, count, from, got)
		}
	}
	for _, c := range wrongCodes {
		refused(c, 1, 0, 0, 0)
		refused(c, 3, 7, 2, 4)
	}
	for _, c := range stripeCodes {
		for _, unit := range wrongUnits {
			refused(c, unit, 0, 0, 0)
			refused(c, unit, 7, 2, 4)
		}
		for _, size := range wrongSizes {
			refused(c, impl.MaxShard, size, 0, 0)
			refused(c, impl.MaxShard, size, 2, 4)
		}
		refused(c, 1, c.K*impl.MaxStripes+1, 0, 1)
		refused(c, 3, 3*c.K*impl.MaxStripes+1, 0, 0)
		for _, below := range []int64{-1, -2, -7, math.MinInt64, math.MinInt64 + 1} {
			for _, other := range []int64{0, 1, 7, 8, math.MaxInt64, below} {
				for _, size := range []int64{0, 7} {
					refused(c, 3, size, below, other)
					refused(c, 3, size, other, below)
				}
			}
		}
	}
}

// spoilTexts overwrites a list, the room behind it included.
func spoilTexts(list []string) {
	list = list[:cap(list)]
	for i := range list {
		list[i] = "spoilt"
	}
}

func TestP6SplitSharesNothing(t *testing.T) {
	p := newObjects()
	for _, c := range stripeCodes {
		for _, unit := range []int{1, 4, 600} {
			data := p.drawn(3*int(c.K)*unit - 1)
			want := p.split(c, unit, data)
			lent := newLoan(data)
			got := impl.SplitObject(c, int64(unit), lent.text())
			if !lent.kept() {
				t.Fatalf("%v, unit %d: an argument is written into", c, unit)
			}
			lent.spoil()
			if !isStripes(got, want) || !apart(slices.Concat(textsOf(got)...)) {
				t.Fatalf("%v, unit %d: memory is shared", c, unit)
			}
			for i := range got.Stripes {
				if !slices.Equal(got.Stripes[i].Shards, want[i]) {
					t.Fatalf("%v, unit %d: the lists of two stripes share memory", c, unit)
				}
				spoilTexts(got.Stripes[i].Shards)
			}
			if again := impl.SplitObject(c, int64(unit), data); !isStripes(again, want) {
				t.Fatalf("%v, unit %d: one answer hangs on another", c, unit)
			}
		}
	}
}

func TestP6JoinSharesNothing(t *testing.T) {
	p := newObjects()
	for _, c := range stripeCodes {
		size := impl.CodeSize(c)
		for _, have := range [][]bool{all(size), without(all(size), 0), make([]bool, size)} {
			data := p.drawn(3*int(c.K)*4 - 1)
			var loans []*lentShards
			var stripes []impl.HeldStripe
			for _, shards := range p.split(c, 4, data) {
				lent := lendShards(shards, have)
				loans = append(loans, lent)
				stripes = append(stripes, impl.HeldStripe{Shards: lent.list()})
			}
			room := append(slices.Clone(stripes), impl.HeldStripe{Shards: []impl.Shard{{Data: "behind"}}})
			got := impl.JoinObject(c, 4, int64(len(data)), room[:3])
			for i, lent := range loans {
				if !lent.kept() || len(room[i].Shards) != int(size) || &room[i].Shards[0] != &stripes[i].Shards[0] {
					t.Fatalf("%v: an argument is written into", c)
				}
				lent.spoil()
			}
			if len(room[3].Shards) != 1 || room[3].Shards[0].Data != "behind" {
				t.Fatalf("%v: the room behind an argument is written into", c)
			}
			if len(p.taken(p.rows(c), have)) < int(c.K) {
				data = ""
			}
			if got.Data != data {
				t.Fatalf("%v: memory is shared, or other bytes", c)
			}
		}
	}
}

// One object of one shard, all of it there, is where handing an argument's own bytes on would be nearest.
func TestP6JoinOfOneShardIsNewMemory(t *testing.T) {
	lent := newLoan("abcd")
	stripes := []impl.HeldStripe{{Shards: []impl.Shard{{Have: true, Data: lent.text()}}}}
	got := impl.JoinObject(impl.Code{K: 1}, 4, 4, stripes)
	lent.spoil()
	if !isBytes(got, impl.OK, "abcd") {
		t.Errorf("%v", got)
	}
}

func TestP6RangesShareNothing(t *testing.T) {
	c := impl.Code{K: 3, M: 1}
	first := impl.RangeReads(c, 2, 20, 1, 17).Ranges
	want := slices.Clone(first)
	room := first[:cap(first)]
	for i := range room {
		room[i] = impl.ShardRange{Stripe: -1, Shard: -1, From: -1, Count: -1}
	}
	if again := impl.RangeReads(c, 2, 20, 1, 17); !isRanges(again, impl.OK, want) {
		t.Errorf("one answer hangs on another: %v", again)
	}
}

func TestP6NoCallPanics(t *testing.T) {
	codes := []impl.Code{{}, {K: 1}, {K: 2, M: 1, Groups: 1}, {K: 32, M: 16, Groups: 16}, {K: 33}, {K: -1},
		{K: math.MaxInt64, M: math.MaxInt64, Groups: math.MaxInt64}, {K: math.MinInt64, M: math.MinInt64, Groups: math.MinInt64}}
	numbers := []int64{math.MinInt64, -1, 0, 1, 3, 200, impl.MaxShard, impl.MaxShard + 1, impl.MaxBytes, impl.MaxBytes + 1,
		math.MaxInt64 - 1, math.MaxInt64}
	lists := [][]impl.HeldStripe{nil, make([]impl.HeldStripe, 1), make([]impl.HeldStripe, 2),
		{{Shards: make([]impl.Shard, 1)}}, {{Shards: []impl.Shard{{Have: true}}}},
		{{Shards: []impl.Shard{{Have: true, Data: "a"}}}},
		{{Shards: held(slices.Repeat([]string{"a"}, 64), all(64))}}, make([]impl.HeldStripe, 1000)}
	texts := []string{"", "a", strings.Repeat("a", impl.MaxBytes), strings.Repeat("a", impl.MaxBytes+1)}
	for _, c := range codes {
		for _, unit := range numbers {
			noPanic(t, fmt.Sprint(c, unit), func() {
				for _, text := range texts {
					impl.SplitObject(c, unit, text)
				}
				for _, size := range numbers {
					impl.StripeCount(c, unit, size)
					for _, list := range lists {
						impl.JoinObject(c, unit, size, list)
					}
					for _, from := range numbers {
						for _, count := range numbers {
							impl.RangeReads(c, unit, size, from, count)
						}
					}
				}
			})
		}
	}
}
