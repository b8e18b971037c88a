package tests

import (
	"fmt"
	"math"
	"slices"
	"strings"
	"testing"
	"unsafe"

	"loop.example/g00020/impl"
)

// codes does over again what the program does with shards, in the plainest ways.
type codes struct {
	*matrices
}

func newCodes() codes {
	return codes{newMatrices()}
}

func (p codes) inverse(a int64) int64 {
	return int64(slices.Index(p.products[a][:], 1))
}

// rows tells by the document's words how each shard is made.
func (p codes) rows(c impl.Code) table {
	rows := unitTable(int(c.K))
	for i := range c.M {
		row := make([]int64, c.K)
		for j := range c.K {
			row[j] = p.inverse((c.K + i) ^ j)
		}
		rows = append(rows, row)
	}
	for g := range c.Groups {
		row := make([]int64, c.K)
		for d := range c.K {
			if d%c.Groups == g {
				row[d] = 1
			}
		}
		rows = append(rows, row)
	}
	return rows
}

func (p codes) encode(rows table, data []string) []string {
	shards := make([]string, len(rows))
	for i, row := range rows {
		sums := make([]byte, len(data[0]))
		for d, factor := range row {
			for at := range sums {
				sums[at] ^= p.products[factor][data[d][at]]
			}
		}
		shards[i] = string(sums)
	}
	return shards
}

// drawnTexts are any bytes: what they hold is no one's shard.
func (p codes) drawnTexts(count, size int) []string {
	texts := make([]string, count)
	for i := range texts {
		text := make([]byte, size)
		p.chance.Read(text)
		texts[i] = string(text)
	}
	return texts
}

// span is a list of rows that do not hang on one another: each has a 1 in its lead, and 0 in the leads of those before.
type span struct {
	codes
	rows table
}

func lead(row []int64) int {
	return slices.IndexFunc(row, func(cell int64) bool { return cell != 0 })
}

// clearLead adds so much of the other row as to leave 0 in its lead.
func (s *span) clearLead(row, other []int64) {
	factor := row[lead(other)]
	for j := range row {
		row[j] ^= int64(s.products[factor][other[j]])
	}
}

// add takes a row in, if it does not hang on those that are in: only the first width cells count.
func (s *span) add(row []int64, width int) bool {
	row = slices.Clone(row)
	for _, other := range s.rows {
		s.clearLead(row, other)
	}
	first := lead(row[:width])
	if first < 0 {
		return false
	}
	factor := s.inverse(row[first])
	for j := range row {
		row[j] = int64(s.products[factor][row[j]])
	}
	s.rows = append(s.rows, row)
	return true
}

// taken are, from the first on, the shards whose rows do not hang on those before.
func (p codes) taken(rows table, have []bool) []int64 {
	s := span{codes: p}
	var taken []int64
	for i, row := range rows {
		if have[i] && s.add(row, len(row)) {
			taken = append(taken, int64(i))
		}
	}
	return taken
}

// solve gives the data of which the taken shards are made.
func (p codes) solve(rows table, taken []int64, shards []string) []string {
	s := span{codes: p}
	for _, i := range taken {
		row := slices.Clone(rows[i])
		for _, b := range []byte(shards[i]) {
			row = append(row, int64(b))
		}
		s.add(row, len(rows[i]))
	}
	data := make([]string, len(rows[0]))
	for i, row := range s.rows {
		for _, before := range s.rows[:i] {
			s.clearLead(before, row)
		}
	}
	for _, row := range s.rows {
		var text []byte
		for _, cell := range row[len(data):] {
			text = append(text, byte(cell))
		}
		data[lead(row)] = string(text)
	}
	return data
}

// plan is what the document asks of RepairPlan: nil if the shard is lost for good.
func (p codes) plan(c impl.Code, rows table, have []bool, lost int64) []int64 {
	if group := groupWith(c, lost); group != nil {
		rest := slices.DeleteFunc(group, func(i int64) bool { return i == lost })
		if !slices.ContainsFunc(rest, func(i int64) bool { return !have[i] }) {
			return rest
		}
	}
	without := slices.Clone(have)
	without[lost] = false
	if taken := p.taken(rows, without); len(taken) == int(c.K) {
		return taken
	}
	return nil
}

// groupWith gives all shards of the group that a shard is of, rising.
func groupWith(c impl.Code, shard int64) []int64 {
	if c.Groups == 0 || c.K <= shard && shard < c.K+c.M {
		return nil
	}
	g := shard % c.Groups
	if shard >= c.K {
		g = shard - c.K - c.M
	}
	var group []int64
	for d := range c.K {
		if d%c.Groups == g {
			group = append(group, d)
		}
	}
	return append(group, c.K+c.M+g)
}

// held gives the shards that one has, and of the others something that must play no part.
func held(texts []string, have []bool) []impl.Shard {
	shards := make([]impl.Shard, len(texts))
	for i := range shards {
		shards[i] = impl.Shard{Have: have[i], Data: texts[i]}
		if !have[i] {
			shards[i].Data = strings.Repeat("no part", i)
		}
	}
	return shards
}

func all(count int64) []bool {
	return slices.Repeat([]bool{true}, int(count))
}

func without(have []bool, lost ...int64) []bool {
	have = slices.Clone(have)
	for _, i := range lost {
		have[i] = false
	}
	return have
}

// only tells of count shards those that are in the list.
func only(count int64, list []int) []bool {
	have := make([]bool, count)
	for _, i := range list {
		have[i] = true
	}
	return have
}

// subsets are all ways to have some of count shards.
func subsets(count int64) [][]bool {
	var out [][]bool
	for bits := range 1 << count {
		have := make([]bool, count)
		for i := range have {
			have[i] = bits>>i&1 == 1
		}
		out = append(out, have)
	}
	return out
}

func isShards(got impl.ShardResult, want []string) bool {
	return got.Code == impl.OK && slices.Equal(got.Shards, want)
}

func isOnlyCode(got impl.ShardResult, code int64) bool {
	return got.Code == code && len(got.Shards) == 0
}

func isPlan(got impl.Plan, want []int64) bool {
	return got.Code == impl.OK && slices.Equal(got.Reads, want)
}

func isOnlyPlan(got impl.Plan, code int64) bool {
	return got.Code == code && len(got.Reads) == 0
}

// smallCodes are such that all ways to lose shards can be gone through.
var smallCodes = []impl.Code{
	{K: 1}, {K: 1, Groups: 1}, {K: 1, M: 1}, {K: 1, M: 1, Groups: 1}, {K: 1, M: 5, Groups: 1},
	{K: 2}, {K: 2, M: 1, Groups: 1}, {K: 2, M: 2, Groups: 2}, {K: 2, M: 4, Groups: 2},
	{K: 3, M: 1, Groups: 2}, {K: 3, M: 2, Groups: 1}, {K: 3, M: 2, Groups: 3}, {K: 3, Groups: 3},
	{K: 4, M: 2}, {K: 4, M: 2, Groups: 2}, {K: 4, Groups: 4}, {K: 4, M: 1, Groups: 3}, {K: 5, M: 1, Groups: 2},
	{K: 6, Groups: 1}, {K: 5, M: 3},
}

// greatCodes lie at the edges that the document names, and between them.
var greatCodes = []impl.Code{
	{K: 1, M: 16}, {K: 1, M: 16, Groups: 1}, {K: 2, M: 16, Groups: 2}, {K: 10, M: 4}, {K: 12, M: 4, Groups: 3},
	{K: 16, M: 16, Groups: 16}, {K: 24, M: 16, Groups: 24}, {K: 31, M: 1, Groups: 30},
	{K: 31, M: 16, Groups: 17}, {K: 32}, {K: 32, M: 16}, {K: 32, Groups: 1}, {K: 32, Groups: 32},
	{K: 32, M: 16, Groups: 16}, {K: 32, M: 15, Groups: 17}, {K: 32, M: 1, Groups: 31}, {K: 32, M: 3, Groups: 5},
}

var wrongCodes = []impl.Code{
	{}, {K: -1}, {K: 0, M: 1}, {K: 33}, {K: 64}, {K: 33, M: 16, Groups: 15},
	{K: 1, M: -1}, {K: 1, M: 17}, {K: 32, M: 17}, {K: 5, M: -1, Groups: 1},
	{K: 1, Groups: -1}, {K: 1, Groups: 2}, {K: 4, M: 2, Groups: 5}, {K: 32, Groups: 33}, {K: 31, Groups: 32},
	{K: 32, M: 16, Groups: 17}, {K: 32, M: 1, Groups: 32}, {K: 25, M: 16, Groups: 24}, {K: 32, M: 16, Groups: 32},
	{K: math.MaxInt64}, {K: math.MinInt64}, {K: math.MaxInt64, M: math.MaxInt64, Groups: math.MaxInt64},
	{K: 1, M: math.MaxInt64}, {K: 1, M: math.MinInt64}, {K: 1, Groups: math.MaxInt64}, {K: 1, Groups: math.MinInt64},
	{K: math.MaxInt64, M: math.MinInt64, Groups: 2}, {K: 1<<32 + 1}, {K: 1, M: 1 << 32}, {K: 1, Groups: 1<<32 + 1},
}

func TestP4CodesRightAndWrong(t *testing.T) {
	if impl.MaxShard != 4096 {
		t.Errorf("MaxShard is %d", impl.MaxShard)
	}
	for k := int64(-2); k <= 35; k++ {
		for m := int64(-2); m <= 19; m++ {
			for groups := int64(-2); groups <= 36; groups++ {
				c := impl.Code{K: k, M: m, Groups: groups}
				fault, size := int64(impl.ErrForm), int64(0)
				if 1 <= k && k <= 32 && 0 <= m && m <= 16 && 0 <= groups && groups <= k && k+m+groups <= 64 {
					fault, size = impl.OK, k+m+groups
				}
				if impl.CodeFault(c) != fault || impl.CodeSize(c) != size {
					t.Fatalf("%v: fault %d, size %d", c, impl.CodeFault(c), impl.CodeSize(c))
				}
			}
		}
	}
	for _, c := range wrongCodes {
		if impl.CodeFault(c) != impl.ErrForm || impl.CodeSize(c) != 0 {
			t.Errorf("%v: fault %d, size %d", c, impl.CodeFault(c), impl.CodeSize(c))
		}
	}
}

func TestP4RowsAsKnown(t *testing.T) {
	for _, known := range []struct {
		c    impl.Code
		rows table
	}{
		{impl.Code{K: 1}, table{{1}}},
		{impl.Code{K: 1, M: 2, Groups: 1}, table{{1}, {1}, {142}, {1}}},
		{impl.Code{K: 4, M: 3, Groups: 2}, table{{1, 0, 0, 0}, {0, 1, 0, 0}, {0, 0, 1, 0}, {0, 0, 0, 1},
			{71, 167, 122, 186}, {167, 71, 186, 122}, {122, 186, 71, 167}, {1, 0, 1, 0}, {0, 1, 0, 1}}},
		{impl.Code{K: 5, M: 1, Groups: 3}, table{{1, 0, 0, 0, 0}, {0, 1, 0, 0, 0}, {0, 0, 1, 0, 0}, {0, 0, 0, 1, 0},
			{0, 0, 0, 0, 1}, {167, 71, 186, 122, 1}, {1, 0, 0, 1, 0}, {0, 1, 0, 0, 1}, {0, 0, 1, 0, 0}}},
	} {
		for i, want := range known.rows {
			if got := impl.CodeRow(known.c, int64(i)); !slices.Equal(got, want) {
				t.Errorf("%v, shard %d: %v", known.c, i, got)
			}
		}
	}
	last := []int64{110, 51, 139, 38, 74, 31, 208, 112, 138, 44, 86, 96, 81, 57, 237, 108, 225, 21, 12, 171, 169, 207, 34,
		80, 94, 64, 195, 164, 46, 111, 137, 72}
	if got := impl.CodeRow(impl.Code{K: 32, M: 16, Groups: 16}, 47); !slices.Equal(got, last) {
		t.Errorf("the last global parity of the greatest code: %v", got)
	}
}

func TestP4RowsByTheWords(t *testing.T) {
	p := newCodes()
	for _, c := range slices.Concat(smallCodes, greatCodes) {
		rows := p.rows(c)
		if int64(len(rows)) != impl.CodeSize(c) {
			t.Fatalf("%v: %d shards", c, impl.CodeSize(c))
		}
		for i, want := range rows {
			if got := impl.CodeRow(c, int64(i)); !slices.Equal(got, want) {
				t.Fatalf("%v, shard %d: %v, not %v", c, i, got, want)
			}
		}
		for i := range c.M {
			row := impl.Cauchy(c.M, c.K).Matrix.Cells[i*c.K : (i+1)*c.K]
			if got := impl.CodeRow(c, c.K+i); !slices.Equal(got, row) {
				t.Fatalf("%v, global parity %d is not Cauchy's row", c, i)
			}
		}
	}
}

func TestP4NoSuchRow(t *testing.T) {
	for _, c := range slices.Concat(smallCodes, greatCodes) {
		size := impl.CodeSize(c)
		for _, i := range []int64{-1, -2, size, size + 1, 64, 65, 1 << 32, math.MinInt64, math.MaxInt64} {
			if got := impl.CodeRow(c, i); len(got) != 0 {
				t.Errorf("%v, shard %d: %v", c, i, got)
			}
		}
	}
	for _, c := range wrongCodes {
		for _, i := range []int64{-1, 0, 1, 31, 63, 64, math.MinInt64, math.MaxInt64} {
			if got := impl.CodeRow(c, i); len(got) != 0 {
				t.Errorf("%v, shard %d: %v", c, i, got)
			}
		}
	}
}

func TestP4EncodeAsKnown(t *testing.T) {
	for _, known := range []struct {
		c    impl.Code
		data []string
		rest []string
	}{
		{impl.Code{K: 2, M: 2}, []string{"ab", "xy"}, []string{"\x96\xed", "\xe8\x67"}},
		{impl.Code{K: 4, M: 2, Groups: 2}, []string{"obj", "ect", "sto", "re!"},
			[]string{"\x2c\x88\x83", "\x62\x34\xb2", "\x1c\x16\x05", "\x17\x06\x55"}},
		{impl.Code{K: 3, Groups: 3}, []string{"\x00", "\xff", "\x80"}, []string{"\x00", "\xff", "\x80"}},
		{impl.Code{K: 1, M: 3, Groups: 1}, []string{"\x07\x00\xff"},
			[]string{"\x07\x00\xff", "\x8d\x00\xf1", "\xf6\x00\x55", "\x07\x00\xff"}},
		{impl.Code{K: 1}, []string{"x"}, nil},
	} {
		if got := impl.EncodeShards(known.c, known.data); !isShards(got, slices.Concat(known.data, known.rest)) {
			t.Errorf("%v of %q: %v %q", known.c, known.data, got.Code, got.Shards)
		}
	}
	var data []string
	for d := range 32 {
		data = append(data, string([]byte{byte(d*8 + 1)}))
	}
	globals := "\xcd\x93\x71\x2f\xa8\xf6\x14\x4a\x07\x59\xbb\xe5\x62\x3c\xde\x80"
	want := strings.Join(data, "") + globals + strings.Repeat("\x80", 16)
	if got := impl.EncodeShards(impl.Code{K: 32, M: 16, Groups: 16}, data); strings.Join(got.Shards, "") != want {
		t.Errorf("the greatest code: %q", got.Shards)
	}
}

func TestP4EncodeIsSumsOfProducts(t *testing.T) {
	p := newCodes()
	check := func(c impl.Code, size int) {
		t.Helper()
		data := p.drawnTexts(int(c.K), size)
		if got := impl.EncodeShards(c, data); !isShards(got, p.encode(p.rows(c), data)) {
			t.Fatalf("%v with shards of %d bytes", c, size)
		}
	}
	for _, c := range slices.Concat(smallCodes, greatCodes) {
		for _, size := range []int{1, 2, 7, 100} {
			check(c, size)
		}
	}
	for _, size := range []int{255, 256, 257, 511, 512, 513, 1023, 1024, 1025, 2048, 4000, impl.MaxShard - 1, impl.MaxShard} {
		check(impl.Code{K: 3, M: 2, Groups: 2}, size)
	}
	check(impl.Code{K: 32, M: 16, Groups: 16}, impl.MaxShard)
	check(impl.Code{K: 1, M: 16, Groups: 1}, impl.MaxShard)
}

// checkDecode holds the answer against the shards that Encode made, of which these are there, whatever they are.
func (p codes) checkDecode(t *testing.T, c impl.Code, have []bool, shards []string) {
	t.Helper()
	rank := len(p.taken(p.rows(c), have))
	got := impl.DecodeShards(c, held(shards, have))
	if rank == int(c.K) && !isShards(got, shards) {
		t.Fatalf("%v with %v: code %d, or other shards", c, have, got.Code)
	}
	if rank < int(c.K) && !isOnlyCode(got, impl.ErrLost) {
		t.Fatalf("%v with %v of rank %d: %v", c, have, rank, got)
	}
}

func TestP4AllWaysToLoseShards(t *testing.T) {
	p := newCodes()
	for _, c := range smallCodes {
		shards := impl.EncodeShards(c, p.drawnTexts(int(c.K), 3)).Shards
		for _, have := range subsets(impl.CodeSize(c)) {
			p.checkDecode(t, c, have, shards)
		}
	}
}

// Without groups any K give all back, and no fewer do: that needs no rank to be told.
func TestP4AnyKShardsWithoutGroups(t *testing.T) {
	p := newCodes()
	check := func(c impl.Code, shards []string, there []int) {
		t.Helper()
		have := only(impl.CodeSize(c), there)
		if got := impl.DecodeShards(c, held(shards, have)); !isShards(got, shards) {
			t.Fatalf("%v with %v: %d", c, there, got.Code)
		}
		have[there[p.chance.Intn(len(there))]] = false
		if got := impl.DecodeShards(c, held(shards, have)); !isOnlyCode(got, impl.ErrLost) {
			t.Fatalf("%v with one too few of %v: %d", c, there, got.Code)
		}
	}
	for k := 1; k <= 6; k++ {
		for m := 0; m <= 5; m++ {
			c := impl.Code{K: int64(k), M: int64(m)}
			shards := impl.EncodeShards(c, p.drawnTexts(k, 2)).Shards
			for _, there := range choices(k+m, k) {
				check(c, shards, there)
			}
		}
	}
	for _, c := range []impl.Code{{K: 32, M: 16}, {K: 32, M: 1}, {K: 17, M: 16}, {K: 16, M: 16}, {K: 32}, {K: 1, M: 16}} {
		shards := impl.EncodeShards(c, p.drawnTexts(int(c.K), 2)).Shards
		for range 40 {
			check(c, shards, p.chance.Perm(int(c.K + c.M))[:c.K])
		}
		check(c, shards, rising(int(c.M), int(c.K+c.M)))
		check(c, shards, rising(0, int(c.K)))
	}
}

func rising(from, to int) []int {
	var list []int
	for i := from; i < to; i++ {
		list = append(list, i)
	}
	return list
}

func TestP4GreatCodesLoseShards(t *testing.T) {
	p := newCodes()
	for _, c := range greatCodes {
		size := impl.CodeSize(c)
		shards := impl.EncodeShards(c, p.drawnTexts(int(c.K), 2)).Shards
		p.checkDecode(t, c, all(size), shards)
		p.checkDecode(t, c, make([]bool, size), shards)
		for _, count := range []int64{c.K - 1, c.K, c.K + 1, (c.K + size) / 2, size - 1} {
			for range 12 {
				p.checkDecode(t, c, only(size, p.chance.Perm(int(size))[:min(count, size)]), shards)
			}
		}
		for i := range size {
			p.checkDecode(t, c, without(all(size), i), shards)
		}
	}
}

func TestP4LongShardsLost(t *testing.T) {
	p := newCodes()
	for _, size := range []int{511, 512, 513, 1024, 1025, impl.MaxShard - 1, impl.MaxShard} {
		c := impl.Code{K: 6, M: 2, Groups: 2}
		shards := impl.EncodeShards(c, p.drawnTexts(6, size)).Shards
		p.checkDecode(t, c, without(all(10), 0, 1, 5, 9), shards)
		p.checkDecode(t, c, without(all(10), 2, 3, 6, 7), shards)
	}
}

// Just K and just K - 1 rows that do not hang on one another, with few shards there and with many.
func TestP4RanksAtTheEdge(t *testing.T) {
	p := newCodes()
	for _, edge := range []struct {
		c    impl.Code
		lost []int64
		code int64
	}{
		{impl.Code{K: 32, Groups: 32}, []int64{5, 37}, impl.ErrLost},
		{impl.Code{K: 32, Groups: 32}, []int64{5, 36, 38}, impl.OK},
		{impl.Code{K: 32, Groups: 1}, []int64{31}, impl.OK},
		{impl.Code{K: 32, Groups: 1}, []int64{31, 32}, impl.ErrLost},
		{impl.Code{K: 32, Groups: 1}, []int64{0, 31}, impl.ErrLost},
		{impl.Code{K: 4, M: 1, Groups: 2}, []int64{0, 2}, impl.OK},
		{impl.Code{K: 4, M: 1, Groups: 2}, []int64{0, 2, 5}, impl.ErrLost},
		{impl.Code{K: 4, M: 1, Groups: 2}, []int64{0, 1, 2}, impl.OK},
		{impl.Code{K: 6, M: 1, Groups: 2}, []int64{0, 2, 4}, impl.ErrLost},
		{impl.Code{K: 6, M: 2, Groups: 2}, []int64{0, 2, 4}, impl.OK},
		{impl.Code{K: 6, M: 2, Groups: 2}, []int64{0, 2, 4, 5}, impl.OK},
		{impl.Code{K: 6, M: 2, Groups: 2}, []int64{0, 2, 4, 8}, impl.ErrLost},
		{impl.Code{K: 1}, []int64{0}, impl.ErrLost},
		{impl.Code{K: 1, Groups: 1}, []int64{0}, impl.OK},
		{impl.Code{K: 1, M: 16, Groups: 1}, []int64{0, 1, 2, 3, 4, 5, 6, 7, 8, 9, 10, 11, 12, 13, 14, 15, 17}, impl.OK},
	} {
		shards := impl.EncodeShards(edge.c, p.drawnTexts(int(edge.c.K), 5)).Shards
		have := without(all(impl.CodeSize(edge.c)), edge.lost...)
		p.checkDecode(t, edge.c, have, shards)
		if got := impl.DecodeShards(edge.c, held(shards, have)); got.Code != edge.code {
			t.Errorf("%v without %v: %d", edge.c, edge.lost, got.Code)
		}
	}
}

// With shards that no data give, it shows which are taken, and that the others play no part.
func TestP4TheFirstThatDoNotHangAreTaken(t *testing.T) {
	p := newCodes()
	check := func(c impl.Code, have []bool) {
		t.Helper()
		rows, shards := p.rows(c), p.drawnTexts(int(impl.CodeSize(c)), 3)
		taken := p.taken(rows, have)
		if len(taken) < int(c.K) {
			return
		}
		want := p.encode(rows, p.solve(rows, taken, shards))
		for _, i := range taken {
			if want[i] != shards[i] {
				t.Fatalf("the test's own way does not give shard %d back", i)
			}
		}
		if got := impl.DecodeShards(c, held(shards, have)); !isShards(got, want) {
			t.Fatalf("%v with %v: not made of %v", c, have, taken)
		}
	}
	for _, c := range smallCodes {
		for _, have := range subsets(impl.CodeSize(c)) {
			check(c, have)
		}
	}
	for _, c := range greatCodes {
		size := impl.CodeSize(c)
		check(c, all(size))
		for range 12 {
			check(c, only(size, p.chance.Perm(int(size))[:(c.K+2*size)/3]))
		}
	}
}

func TestP4WrongData(t *testing.T) {
	p := newCodes()
	for _, c := range wrongCodes {
		for _, count := range []int{0, 1, 2, 32, 33} {
			for _, size := range []int{0, 1, impl.MaxShard + 1} {
				if got := impl.EncodeShards(c, p.drawnTexts(count, size)); !isOnlyCode(got, impl.ErrForm) {
					t.Errorf("%v with %d data of %d: %v", c, count, size, got.Code)
				}
			}
		}
	}
	for _, c := range slices.Concat(smallCodes, greatCodes) {
		for _, count := range []int64{0, c.K - 1, c.K + 1, c.K + c.M + 1, 2 * c.K, 65} {
			for _, size := range []int{0, 1, impl.MaxShard + 1} {
				got := impl.EncodeShards(c, p.drawnTexts(int(count), size))
				if count != c.K && !isOnlyCode(got, impl.ErrForm) {
					t.Errorf("%v with %d data of %d: %v", c, count, size, got.Code)
				}
			}
		}
		for at := range c.K {
			for _, size := range []int{0, 2, 4, impl.MaxShard, impl.MaxShard + 1, impl.MaxBytes + 1} {
				data := p.drawnTexts(int(c.K), 3)
				data[at] = strings.Repeat("x", size)
				got := impl.EncodeShards(c, data)
				if (c.K > 1 || size == 0 || size > impl.MaxShard) && !isOnlyCode(got, impl.ErrSize) {
					t.Errorf("%v with data %d of %d bytes: %v", c, at, size, got.Code)
				}
			}
		}
		for _, size := range []int{0, impl.MaxShard + 1, impl.MaxShard + 2, impl.MaxBytes + 1} {
			data := slices.Repeat([]string{strings.Repeat("x", size)}, int(c.K))
			if got := impl.EncodeShards(c, data); !isOnlyCode(got, impl.ErrSize) {
				t.Errorf("%v with all data of %d bytes: %v", c, size, got.Code)
			}
		}
	}
}

// wrongShards gives lists of shards for a right code, each with the code that it is to be refused with.
func (p codes) wrongShards(c impl.Code, shards []string, call func(what string, shards []impl.Shard, code int64)) {
	size := impl.CodeSize(c)
	right := func() []impl.Shard { return held(shards, all(size)) }
	call("no shards", nil, impl.ErrForm)
	call("one too few", right()[1:], impl.ErrForm)
	call("one too many", append(right(), right()[0]), impl.ErrForm)
	call("one too many that is lacking", append(right(), impl.Shard{}), impl.ErrForm)
	call("one too many of another length", append(right(), impl.Shard{Have: true}), impl.ErrForm)
	call("only 65", make([]impl.Shard, 65), impl.ErrForm)
	for i := range size {
		for _, length := range []int{0, 2, 4, impl.MaxShard, impl.MaxShard + 1, impl.MaxBytes + 1} {
			bent := right()
			bent[i].Data = strings.Repeat("x", length)
			if size > 1 || length == 0 || length > impl.MaxShard {
				call(fmt.Sprint("shard ", i, " of ", length, " bytes"), bent, impl.ErrSize)
			}
		}
		for _, length := range []int{0, impl.MaxShard + 1, impl.MaxBytes + 1} {
			alone := make([]impl.Shard, size)
			alone[i] = impl.Shard{Have: true, Data: strings.Repeat("x", length)}
			call(fmt.Sprint("shard ", i, " alone of ", length, " bytes"), alone, impl.ErrSize)
		}
	}
	for _, length := range []int{0, impl.MaxShard + 1, impl.MaxBytes + 1} {
		long := slices.Repeat([]string{strings.Repeat("x", length)}, int(size))
		call(fmt.Sprint("all of ", length, " bytes"), held(long, all(size)), impl.ErrSize)
	}
}

func TestP4WrongShards(t *testing.T) {
	p := newCodes()
	for _, c := range wrongCodes {
		for _, count := range []int64{0, 1, 2, 64, 65, min(max(0, c.K+c.M+c.Groups), 100)} {
			for _, size := range []int{1, 0, impl.MaxShard + 1} {
				shards := held(p.drawnTexts(int(count), size), all(count))
				if got := impl.DecodeShards(c, shards); !isOnlyCode(got, impl.ErrForm) {
					t.Errorf("%v with %d shards of %d: %v", c, count, size, got.Code)
				}
			}
		}
	}
	for _, c := range []impl.Code{{K: 1}, {K: 2, M: 1, Groups: 2}, {K: 4, M: 2}, {K: 6, Groups: 6}, {K: 32, M: 16, Groups: 16}} {
		shards := impl.EncodeShards(c, p.drawnTexts(int(c.K), 3)).Shards
		p.wrongShards(c, shards, func(what string, shards []impl.Shard, code int64) {
			if got := impl.DecodeShards(c, shards); !isOnlyCode(got, code) {
				t.Errorf("%v, %s: %v", c, what, got.Code)
			}
		})
	}
}

// Two lengths come ahead of what is lost, and what one lacks has no length.
func TestP4SizeComesAheadOfLost(t *testing.T) {
	c := impl.Code{K: 3, M: 2, Groups: 1}
	shards := make([]impl.Shard, 6)
	if got := impl.DecodeShards(c, shards); !isOnlyCode(got, impl.ErrLost) {
		t.Errorf("no shard is there: %v", got)
	}
	shards[1] = impl.Shard{Have: true, Data: "ab"}
	shards[2] = impl.Shard{Data: "abc"}
	if got := impl.DecodeShards(c, shards); !isOnlyCode(got, impl.ErrLost) {
		t.Errorf("one is there: %v", got)
	}
	shards[5] = impl.Shard{Have: true, Data: "abc"}
	if got := impl.DecodeShards(c, shards); !isOnlyCode(got, impl.ErrSize) {
		t.Errorf("two are there, of two lengths: %v", got)
	}
}

// junkSizes are lengths on both sides of every bound that a text has anywhere.
var junkSizes = []int{0, 1, 2, 3, impl.MaxShard, impl.MaxShard + 1, impl.MaxBytes, impl.MaxBytes + 1, 2 * impl.MaxBytes, 4*impl.MaxBytes + 1}

// withJunk gives the shards that one has, and of each that one lacks a text of its own of so many bytes.
func withJunk(shards []string, have []bool, size int) []impl.Shard {
	list := held(shards, have)
	for i := range list {
		if !list[i].Have {
			list[i].Data = strings.Repeat(string(rune('a'+i%26)), size)
		}
	}
	return list
}

// losses are what one has of a code's shards: all but each one, each one alone, the first and the last K, and none.
func losses(c impl.Code) [][]bool {
	size := impl.CodeSize(c)
	list := [][]bool{make([]bool, size), only(size, rising(0, int(c.K))), only(size, rising(int(size-c.K), int(size)))}
	for i := range size {
		list = append(list, without(all(size), i), only(size, []int{int(i)}))
	}
	return list
}

// What one lacks plays no part, however long its text is: the same is answered as with no text at all.
func TestP4WhatOneLacksPlaysNoPart(t *testing.T) {
	p := newCodes()
	for _, c := range []impl.Code{{K: 1}, {K: 1, M: 1}, {K: 2, M: 1, Groups: 2}, {K: 4, M: 2}, {K: 6, Groups: 6}, {K: 4, M: 2, Groups: 2}} {
		shards := impl.EncodeShards(c, p.drawnTexts(int(c.K), 3)).Shards
		for _, have := range losses(c) {
			rank := len(p.taken(p.rows(c), have))
			for _, size := range junkSizes {
				got := impl.DecodeShards(c, withJunk(shards, have, size))
				if rank == int(c.K) && !isShards(got, shards) {
					t.Errorf("%v with %v, the others of %d bytes: code %d, or other shards", c, have, size, got.Code)
				}
				if rank < int(c.K) && !isOnlyCode(got, impl.ErrLost) {
					t.Errorf("%v with %v, the others of %d bytes: code %d", c, have, size, got.Code)
				}
			}
		}
	}
}

// Nor does it hide a fault of what one has, or of the list.
func TestP4WhatOneLacksHidesNoFault(t *testing.T) {
	c := impl.Code{K: 2, M: 2}
	for _, size := range junkSizes {
		shards := withJunk([]string{"ab", "abc", "", ""}, []bool{true, true, false, false}, size)
		if got := impl.DecodeShards(c, shards); !isOnlyCode(got, impl.ErrSize) {
			t.Errorf("two lengths, the others of %d bytes: %d", size, got.Code)
		}
		if got := impl.DecodeShards(c, shards[1:]); !isOnlyCode(got, impl.ErrForm) {
			t.Errorf("one too few, the others of %d bytes: %d", size, got.Code)
		}
		for lost := range int64(4) {
			if got := impl.RepairShard(c, shards, lost); !isOnlyCode(got, impl.ErrSize) {
				t.Errorf("two lengths, the others of %d bytes, lost %d: %d", size, lost, got.Code)
			}
			if got := impl.RepairShard(c, shards[1:], lost); !isOnlyCode(got, impl.ErrForm) {
				t.Errorf("one too few, the others of %d bytes, lost %d: %d", size, lost, got.Code)
			}
		}
	}
}

func TestP5PlansAsKnown(t *testing.T) {
	c := impl.Code{K: 4, M: 2, Groups: 2}
	for _, known := range []struct {
		c     impl.Code
		gone  []int64
		lost  int64
		reads []int64
	}{
		{c, nil, 0, []int64{2, 6}},
		{c, nil, 1, []int64{3, 7}},
		{c, []int64{3}, 3, []int64{1, 7}},
		{c, nil, 6, []int64{0, 2}},
		{c, []int64{7}, 7, []int64{1, 3}},
		{c, nil, 4, []int64{0, 1, 2, 3}},
		{c, []int64{1}, 5, []int64{0, 2, 3, 4}},
		{c, []int64{0, 1, 2}, 0, []int64{3, 4, 5, 6}},
		{c, []int64{0, 1, 2}, 1, []int64{3, 7}},
		{c, []int64{0, 2, 5}, 0, []int64{1, 3, 4, 6}},
		{c, []int64{0, 2, 4}, 2, []int64{1, 3, 5, 6}},
		{c, []int64{0, 2, 4}, 4, []int64{1, 3, 5, 6}},
		{c, []int64{0, 2, 4, 5}, 0, nil},
		{c, []int64{0, 2, 4, 5}, 2, nil},
		{c, []int64{0, 2, 4, 5}, 4, nil},
		{c, []int64{0, 2, 4, 5, 6}, 3, []int64{1, 7}},
		{impl.Code{K: 4, M: 1, Groups: 4}, []int64{2, 3, 8}, 3, []int64{0, 1, 4, 7}},
		{impl.Code{K: 4, M: 1, Groups: 4}, []int64{2, 3, 8}, 2, []int64{7}},
		{impl.Code{K: 4, M: 1, Groups: 4}, []int64{2, 3, 8}, 7, nil},
		{impl.Code{K: 4, M: 1, Groups: 4}, []int64{2, 3, 8}, 8, []int64{0, 1, 4, 7}},
		{impl.Code{K: 1}, nil, 0, nil},
		{impl.Code{K: 1, Groups: 1}, nil, 0, []int64{1}},
		{impl.Code{K: 1, Groups: 1}, nil, 1, []int64{0}},
		{impl.Code{K: 1, M: 1}, nil, 0, []int64{1}},
		{impl.Code{K: 3, M: 2, Groups: 1}, nil, 5, []int64{0, 1, 2}},
		{impl.Code{K: 3, M: 2, Groups: 1}, nil, 1, []int64{0, 2, 5}},
		{impl.Code{K: 3, M: 2}, nil, 1, []int64{0, 2, 3}},
	} {
		got := impl.RepairPlan(known.c, without(all(impl.CodeSize(known.c)), known.gone...), known.lost)
		if len(known.reads) > 0 && !isPlan(got, known.reads) || len(known.reads) == 0 && !isOnlyPlan(got, impl.ErrLost) {
			t.Errorf("%v without %v, lost %d: %v", known.c, known.gone, known.lost, got)
		}
	}
}

// checkRepair holds plan and shard against the document's words, on shards that Encode made and on others. In the end
// the shards that the plan does not name are spoilt: they must play no part.
func (p codes) checkRepair(t *testing.T, c impl.Code, have []bool, lost int64, shards []string) {
	t.Helper()
	rows := p.rows(c)
	reads := p.plan(c, rows, have, lost)
	plan, got := impl.RepairPlan(c, have, lost), impl.RepairShard(c, held(shards, have), lost)
	if reads == nil {
		if !isOnlyPlan(plan, impl.ErrLost) || !isOnlyCode(got, impl.ErrLost) {
			t.Fatalf("%v with %v, lost %d: %v, %d", c, have, lost, plan, got.Code)
		}
		return
	}
	if !isPlan(plan, reads) {
		t.Fatalf("%v with %v, lost %d: %v, not %v", c, have, lost, plan, reads)
	}
	if !isShards(got, shards[lost:lost+1]) {
		t.Fatalf("%v with %v, lost %d: code %d, or another shard", c, have, lost, got.Code)
	}
	others := p.drawnTexts(len(shards), len(shards[0]))
	for _, i := range reads {
		others[i] = shards[i]
	}
	if got := impl.RepairShard(c, held(others, have), lost); !isShards(got, shards[lost:lost+1]) {
		t.Fatalf("%v with %v, lost %d: not made of %v alone", c, have, lost, reads)
	}
}

func TestP5AllWaysToRepair(t *testing.T) {
	p := newCodes()
	for _, c := range smallCodes {
		shards := impl.EncodeShards(c, p.drawnTexts(int(c.K), 2)).Shards
		for _, have := range subsets(impl.CodeSize(c)) {
			for lost := range impl.CodeSize(c) {
				p.checkRepair(t, c, have, lost, shards)
			}
		}
	}
}

func TestP5GreatCodesRepair(t *testing.T) {
	p := newCodes()
	for _, c := range greatCodes {
		size := impl.CodeSize(c)
		shards := impl.EncodeShards(c, p.drawnTexts(int(c.K), 2)).Shards
		for lost := range size {
			p.checkRepair(t, c, all(size), lost, shards)
			p.checkRepair(t, c, without(all(size), lost), lost, shards)
			p.checkRepair(t, c, without(all(size), p.chance.Int63n(size)), lost, shards)
			for _, count := range []int64{c.K, (c.K + size) / 2} {
				p.checkRepair(t, c, only(size, p.chance.Perm(int(size))[:count]), lost, shards)
			}
		}
	}
}

func TestP5LongShardsRepaired(t *testing.T) {
	p := newCodes()
	c := impl.Code{K: 5, M: 2, Groups: 2}
	for _, size := range []int{1, 511, 512, 513, 1024, 1025, impl.MaxShard - 1, impl.MaxShard} {
		shards := impl.EncodeShards(c, p.drawnTexts(5, size)).Shards
		for lost := range impl.CodeSize(c) {
			p.checkRepair(t, c, all(9), lost, shards)
			p.checkRepair(t, c, without(all(9), 0, 3), lost, shards)
		}
	}
}

// A plan within a group names its shards alone, and helps where far too few are there to make all again.
func TestP5WithinAGroup(t *testing.T) {
	p := newCodes()
	for _, c := range slices.Concat(smallCodes, greatCodes) {
		size := impl.CodeSize(c)
		shards := impl.EncodeShards(c, p.drawnTexts(int(c.K), 1)).Shards
		for lost := range size {
			group := groupWith(c, lost)
			if group == nil {
				continue
			}
			have := make([]bool, size)
			for _, i := range group {
				have[i] = i != lost
			}
			rest := slices.DeleteFunc(slices.Clone(group), func(i int64) bool { return i == lost })
			for _, there := range [][]bool{have, all(size), without(all(size), lost)} {
				if got := impl.RepairPlan(c, there, lost); !isPlan(got, rest) {
					t.Fatalf("%v, lost %d: %v, not %v", c, lost, got, rest)
				}
				p.checkRepair(t, c, there, lost, shards)
			}
			for _, i := range rest {
				if got := impl.RepairPlan(c, without(have, i), lost); len(rest) <= int(c.K) && !isOnlyPlan(got, impl.ErrLost) {
					t.Fatalf("%v, lost %d, with all of its group but %d: %v", c, lost, i, got)
				}
			}
		}
	}
}

// Whether one has the lost shard or not, and whatever is in it, plays no part.
func TestP5TheLostOnePlaysNoPart(t *testing.T) {
	p := newCodes()
	for _, c := range smallCodes {
		shards := impl.EncodeShards(c, p.drawnTexts(int(c.K), 4)).Shards
		for _, have := range subsets(impl.CodeSize(c)) {
			for lost := range impl.CodeSize(c) {
				with, lacking := held(shards, have), held(shards, have)
				with[lost] = impl.Shard{Have: true, Data: "bent"}
				lacking[lost] = impl.Shard{}
				a, b := impl.RepairShard(c, with, lost), impl.RepairShard(c, lacking, lost)
				if a.Code != b.Code || !slices.Equal(a.Shards, b.Shards) {
					t.Fatalf("%v with %v, lost %d: %v and %v", c, have, lost, a, b)
				}
				there := slices.Clone(have)
				there[lost] = true
				x, y := impl.RepairPlan(c, there, lost), impl.RepairPlan(c, without(have, lost), lost)
				if x.Code != y.Code || !slices.Equal(x.Reads, y.Reads) || slices.Contains(x.Reads, lost) {
					t.Fatalf("%v with %v, lost %d: %v and %v", c, have, lost, x, y)
				}
			}
		}
	}
}

// What one lacks plays no part, however long its text is: the same is answered as with no text at all.
func TestP5WhatOneLacksPlaysNoPart(t *testing.T) {
	p := newCodes()
	for _, c := range []impl.Code{{K: 1}, {K: 1, M: 1}, {K: 2, M: 1, Groups: 2}, {K: 4, M: 2, Groups: 2}} {
		shards := impl.EncodeShards(c, p.drawnTexts(int(c.K), 3)).Shards
		for _, have := range losses(c) {
			for lost := range impl.CodeSize(c) {
				reads := p.plan(c, p.rows(c), have, lost)
				for _, size := range junkSizes {
					got := impl.RepairShard(c, withJunk(shards, have, size), lost)
					if reads != nil && !isShards(got, shards[lost:lost+1]) {
						t.Errorf("%v with %v, lost %d, the others of %d bytes: code %d, or another shard", c, have, lost, size, got.Code)
					}
					if reads == nil && !isOnlyCode(got, impl.ErrLost) {
						t.Errorf("%v with %v, lost %d, the others of %d bytes: code %d", c, have, lost, size, got.Code)
					}
				}
			}
		}
	}
}

// Shards that no data give are mixed by the factors of the plan all the same.
func TestP5MadeOfWhatThePlanNames(t *testing.T) {
	p := newCodes()
	check := func(c impl.Code, have []bool, lost int64) {
		t.Helper()
		rows, shards := p.rows(c), p.drawnTexts(int(impl.CodeSize(c)), 2)
		reads := p.plan(c, rows, have, lost)
		if reads == nil {
			return
		}
		made := xorOf(shards, reads)
		if len(p.taken(rows, only(impl.CodeSize(c), ints(reads)))) == int(c.K) {
			made = p.encode(rows, p.solve(rows, reads, shards))[lost]
		}
		if got := impl.RepairShard(c, held(shards, have), lost); !isShards(got, []string{made}) {
			t.Fatalf("%v with %v, lost %d: not made of %v", c, have, lost, reads)
		}
	}
	for _, c := range smallCodes {
		for _, have := range subsets(impl.CodeSize(c)) {
			check(c, have, p.chance.Int63n(impl.CodeSize(c)))
		}
	}
	for _, c := range greatCodes {
		size := impl.CodeSize(c)
		for range 12 {
			check(c, only(size, p.chance.Perm(int(size))[:(c.K+2*size)/3]), p.chance.Int63n(size))
		}
	}
}

func ints(list []int64) []int {
	var out []int
	for _, i := range list {
		out = append(out, int(i))
	}
	return out
}

func xorOf(shards []string, reads []int64) string {
	sum := make([]byte, len(shards[0]))
	for _, i := range reads {
		for at := range sum {
			sum[at] ^= shards[i][at]
		}
	}
	return string(sum)
}

func TestP5WrongPlans(t *testing.T) {
	for _, c := range wrongCodes {
		for _, count := range []int64{0, 1, 2, 64, 65, min(max(0, c.K+c.M+c.Groups), 100)} {
			for _, lost := range []int64{0, 1, -1, 63, 64, math.MinInt64, math.MaxInt64} {
				if got := impl.RepairPlan(c, all(count), lost); !isOnlyPlan(got, impl.ErrForm) {
					t.Errorf("%v with %d flags, lost %d: %v", c, count, lost, got)
				}
			}
		}
	}
	for _, c := range slices.Concat(smallCodes, greatCodes) {
		size := impl.CodeSize(c)
		for _, count := range []int64{0, size - 1, size + 1, c.K, 65} {
			for _, lost := range []int64{0, size - 1} {
				if got := impl.RepairPlan(c, all(count), lost); count != size && !isOnlyPlan(got, impl.ErrForm) {
					t.Errorf("%v with %d flags, lost %d: %v", c, count, lost, got)
				}
			}
		}
		for _, lost := range []int64{-1, -2, -size, size, size + 1, 64, 65, 1 << 32, math.MinInt64, math.MaxInt64} {
			for _, have := range [][]bool{all(size), make([]bool, size)} {
				if got := impl.RepairPlan(c, have, lost); !isOnlyPlan(got, impl.ErrForm) {
					t.Errorf("%v, lost %d: %v", c, lost, got)
				}
			}
		}
	}
}

func TestP5WrongShards(t *testing.T) {
	p := newCodes()
	for _, c := range wrongCodes {
		for _, count := range []int64{0, 1, 2, 64, 65, min(max(0, c.K+c.M+c.Groups), 100)} {
			for _, lost := range []int64{0, 1, -1, 63, 64, math.MinInt64, math.MaxInt64} {
				if got := impl.RepairShard(c, held(p.drawnTexts(int(count), 1), all(count)), lost); !isOnlyCode(got, impl.ErrForm) {
					t.Errorf("%v with %d shards, lost %d: %v", c, count, lost, got)
				}
			}
		}
	}
	for _, c := range []impl.Code{{K: 1}, {K: 2, M: 1, Groups: 2}, {K: 4, M: 2}, {K: 6, Groups: 6}, {K: 32, M: 16, Groups: 16}} {
		size := impl.CodeSize(c)
		shards := impl.EncodeShards(c, p.drawnTexts(int(c.K), 3)).Shards
		p.wrongShards(c, shards, func(what string, shards []impl.Shard, code int64) {
			for _, lost := range []int64{0, size / 2, size - 1} {
				if got := impl.RepairShard(c, shards, lost); !isOnlyCode(got, code) {
					t.Errorf("%v, %s, lost %d: %v", c, what, lost, got.Code)
				}
			}
			for _, lost := range []int64{-1, size, size + 1, 65, math.MinInt64, math.MaxInt64} {
				if got := impl.RepairShard(c, shards, lost); !isOnlyCode(got, impl.ErrForm) {
					t.Errorf("%v, %s, lost %d: %v", c, what, lost, got.Code)
				}
			}
		})
	}
}

// The lost shard has a length too, if one has it; and where nothing is there, nothing has one.
func TestP5SizeComesAheadOfLost(t *testing.T) {
	c := impl.Code{K: 3, M: 2, Groups: 1}
	shards := make([]impl.Shard, 6)
	if got := impl.RepairShard(c, shards, 0); !isOnlyCode(got, impl.ErrLost) {
		t.Errorf("no shard is there: %v", got)
	}
	shards[0] = impl.Shard{Have: true, Data: "ab"}
	shards[1] = impl.Shard{Have: true, Data: "abc"}
	for lost := range int64(6) {
		if got := impl.RepairShard(c, shards, lost); !isOnlyCode(got, impl.ErrSize) {
			t.Errorf("two are there, of two lengths, lost %d: %v", lost, got)
		}
	}
	shards[1].Have = false
	if got := impl.RepairShard(c, shards, 0); !isOnlyCode(got, impl.ErrLost) {
		t.Errorf("only the lost one is there: %v", got)
	}
}

// lentShards are shards and their list, of which the test can tell whether a call wrote into them.
type lentShards struct {
	loans []*loan
	room  []impl.Shard
	was   []impl.Shard
}

func lendShards(texts []string, have []bool) *lentShards {
	l := &lentShards{}
	for i, text := range texts {
		l.loans = append(l.loans, newLoan(text))
		l.room = append(l.room, impl.Shard{Have: have[i], Data: l.loans[i].text()})
	}
	l.room = append(l.room, impl.Shard{Data: "room"}, impl.Shard{Have: true, Data: "behind"})
	l.was = slices.Clone(l.room)
	return l
}

func (l *lentShards) list() []impl.Shard {
	return l.room[:len(l.loans)]
}

func (l *lentShards) kept() bool {
	return slices.Equal(l.room, l.was) && !slices.ContainsFunc(l.loans, func(text *loan) bool { return !text.kept() })
}

func (l *lentShards) spoil() {
	for _, text := range l.loans {
		text.spoil()
	}
}

// apart tells whether no two texts begin at the same place.
func apart(texts []string) bool {
	seen := map[*byte]bool{}
	for _, text := range texts {
		seen[unsafe.StringData(text)] = true
	}
	return len(seen) == len(texts)
}

func TestP4NothingIsWrittenOrShared(t *testing.T) {
	p := newCodes()
	for _, c := range slices.Concat(smallCodes, []impl.Code{{K: 32, M: 16, Groups: 16}}) {
		size := impl.CodeSize(c)
		want := p.encode(p.rows(c), p.drawnTexts(int(c.K), 600))
		lent := lendShards(want[:c.K], all(c.K))
		texts := make([]string, 0, c.K+2)
		for _, shard := range lent.list() {
			texts = append(texts, shard.Data)
		}
		room := append(texts, "room", "behind")
		encoded := impl.EncodeShards(c, texts)
		if !lent.kept() || room[c.K] != "room" || room[c.K+1] != "behind" {
			t.Fatalf("%v: EncodeShards wrote into an argument", c)
		}
		lent.spoil()
		if !isShards(encoded, want) || !apart(encoded.Shards) {
			t.Fatalf("%v: EncodeShards shares memory", c)
		}
		for _, have := range [][]bool{all(size), without(all(size), 0), without(all(size), size-1)} {
			lent := lendShards(want, have)
			decoded := impl.DecodeShards(c, lent.list())
			if !lent.kept() {
				t.Fatalf("%v: DecodeShards wrote into an argument", c)
			}
			lent.spoil()
			if decoded.Code == impl.OK && (!isShards(decoded, want) || !apart(decoded.Shards)) {
				t.Fatalf("%v: DecodeShards shares memory", c)
			}
		}
		for i := range size {
			row := impl.CodeRow(c, i)
			spoil(row)
			if again := impl.CodeRow(c, i); !slices.Equal(again, p.rows(c)[i]) {
				t.Fatalf("%v: one answer of CodeRow hangs on another", c)
			}
		}
	}
}

func TestP5NothingIsWrittenOrShared(t *testing.T) {
	p := newCodes()
	for _, c := range slices.Concat(smallCodes, []impl.Code{{K: 32, M: 16, Groups: 16}}) {
		size := impl.CodeSize(c)
		want := p.encode(p.rows(c), p.drawnTexts(int(c.K), 600))
		for lost := range size {
			for _, have := range [][]bool{all(size), without(all(size), 0), make([]bool, size)} {
				lent := lendShards(want, have)
				repaired := impl.RepairShard(c, lent.list(), lost)
				if !lent.kept() {
					t.Fatalf("%v: RepairShard wrote into an argument", c)
				}
				lent.spoil()
				if repaired.Code == impl.OK && !isShards(repaired, want[lost:lost+1]) {
					t.Fatalf("%v, lost %d: RepairShard shares memory", c, lost)
				}
				room := append(slices.Clone(have), true, false, true)
				was := slices.Clone(room)
				plan := impl.RepairPlan(c, room[:size], lost)
				if !slices.Equal(room, was) {
					t.Fatalf("%v: RepairPlan wrote into an argument", c)
				}
				first := slices.Clone(plan.Reads)
				spoil(plan.Reads)
				if again := impl.RepairPlan(c, have, lost); !slices.Equal(again.Reads, first) {
					t.Fatalf("%v: one answer of RepairPlan hangs on another", c)
				}
			}
		}
	}
}

func TestP4AndP5NoCallPanics(t *testing.T) {
	p := newCodes()
	numbers := []int64{-1, 0, 1, 2, 16, 17, 32, 33, 64, 65, math.MinInt64, math.MaxInt64}
	for _, k := range numbers {
		for _, m := range numbers {
			for _, groups := range numbers {
				c := impl.Code{K: k, M: m, Groups: groups}
				noPanic(t, fmt.Sprint(c), func() {
					for _, count := range []int{0, 1, 2, int(impl.CodeSize(c)), 65} {
						texts := p.drawnTexts(count, 1)
						impl.EncodeShards(c, texts)
						for _, have := range [][]bool{all(int64(count)), make([]bool, count)} {
							impl.DecodeShards(c, held(texts, have))
							impl.RepairPlan(c, have, m)
							impl.RepairShard(c, held(texts, have), groups)
						}
					}
					impl.CodeRow(c, k)
				})
			}
		}
	}
}
