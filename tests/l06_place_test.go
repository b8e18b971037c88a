package tests

import (
	"fmt"
	"math"
	"math/rand"
	"slices"
	"strconv"
	"strings"
	"testing"

	"loop.example/g00020/impl"
)

// plainMix is the document's sentence, one step after the other.
func plainMix(key string, node, turn int64) int64 {
	x := bigSum(key+impl.PutNum(node)+impl.PutNum(turn), 17)
	x = x * 48271 % 2147483647
	return x ^ (x / 65536)
}

func plainScore(nodes []impl.Node, key string, disk int64) int64 {
	score := int64(-1)
	for turn := range nodes[disk].Weight {
		score = max(score, plainMix(key, disk, turn))
	}
	return score
}

// plainPlaces looks n times for the best disk that is left, from the last one to the first: of equal ones it ends with
// the lowest.
func plainPlaces(nodes []impl.Node, key string, n int64) impl.Places {
	left := make([]int64, len(nodes))
	for disk := range left {
		left[disk] = plainScore(nodes, key, int64(disk))
	}
	var places impl.Places
	for range n {
		best := len(nodes) - 1
		for disk := best; disk >= 0; disk-- {
			if left[disk] >= left[best] {
				best = disk
			}
		}
		if left[best] == -1 {
			return impl.Places{Code: impl.ErrFull}
		}
		places.Disks = append(places.Disks, int64(best))
		for disk, node := range nodes {
			if node.Domain == nodes[best].Domain {
				left[disk] = -1
			}
		}
	}
	return places
}

func isPlaces(got impl.Places, want impl.Places) bool {
	return got.Code == want.Code && slices.Equal(got.Disks, want.Disks)
}

func isOnlyPlaceCode(got impl.Places, code int64) bool {
	return got.Code == code && len(got.Disks) == 0
}

// outOf are the disks of one answer that are not in another one.
func outOf(from, other impl.Places) []int64 {
	var list []int64
	for _, disk := range from.Disks {
		if !slices.Contains(other.Disks, disk) {
			list = append(list, disk)
		}
	}
	return list
}

// disks draws lists of nodes.
type disks struct {
	chance *rand.Rand
}

func newDisks() disks {
	return disks{rand.New(rand.NewSource(6))}
}

// drawn has several disks to a domain; some weights are 0, many are small.
func (p disks) drawn(count int, domains, weight int64) []impl.Node {
	nodes := make([]impl.Node, count)
	for i := range nodes {
		nodes[i].Domain = p.chance.Int63n(domains)
		nodes[i].Weight = p.chance.Int63n(weight + 1)
		if p.chance.Intn(2) == 0 {
			nodes[i].Weight = min(weight, 1+p.chance.Int63n(3))
		}
	}
	return nodes
}

func (p disks) keys(count int) []string {
	keys := make([]string, count)
	for i := range keys {
		keys[i] = "bucket/" + strconv.FormatInt(p.chance.Int63(), 36)
	}
	return keys
}

// alike are nodes that differ in nothing but their domains.
func alike(count int, weight int64) []impl.Node {
	nodes := make([]impl.Node, count)
	for i := range nodes {
		nodes[i] = impl.Node{Domain: int64(i), Weight: weight}
	}
	return nodes
}

// put gives the list with another node in one place.
func put(nodes []impl.Node, disk int, node impl.Node) []impl.Node {
	nodes = slices.Clone(nodes)
	nodes[disk] = node
	return nodes
}

// mixedNodes have two disks to most domains, one of weight 0 among them, and one domain of weight 0 alone.
var mixedNodes = []impl.Node{{Domain: 0, Weight: 1}, {Domain: 0, Weight: 3}, {Domain: 1, Weight: 2}, {Domain: 1},
	{Domain: 2, Weight: 1}, {Domain: 2, Weight: 8}, {Domain: impl.MaxNodes, Weight: impl.MaxWeight}, {Domain: 3}}

// wrongNodes have one fault each.
func wrongNodes() [][]impl.Node {
	lists := [][]impl.Node{nil, {}, make([]impl.Node, impl.MaxNodes+1), make([]impl.Node, 2*impl.MaxNodes),
		alike(impl.MaxNodes+1, 1), make([]impl.Node, 100000)}
	for _, wrong := range []int64{-1, -2, impl.MaxNodes + 1, impl.MaxNodes + 2, 1 << 32, 1<<32 + 1, math.MinInt64, math.MaxInt64} {
		node := impl.Node{Domain: wrong, Weight: 1}
		lists = append(lists, []impl.Node{node}, put(mixedNodes, 0, node), put(mixedNodes, 4, node), put(mixedNodes, 7, node),
			put(alike(impl.MaxNodes, 1), impl.MaxNodes-1, node))
	}
	for _, wrong := range []int64{-1, -2, impl.MaxWeight + 1, impl.MaxWeight + 2, 1 << 32, 1<<32 + 1, math.MinInt64, math.MaxInt64} {
		node := impl.Node{Domain: 1, Weight: wrong}
		lists = append(lists, []impl.Node{node}, put(mixedNodes, 0, node), put(mixedNodes, 4, node), put(mixedNodes, 7, node),
			put(alike(impl.MaxNodes, 1), impl.MaxNodes-1, node))
	}
	return append(lists, []impl.Node{{Domain: -1, Weight: -1}}, []impl.Node{{Domain: math.MaxInt64, Weight: math.MaxInt64}})
}

// fewDomains are right nodes of which no two disks of different domains have a weight.
var fewDomains = [][]impl.Node{
	{{}}, {{Domain: 5, Weight: 1}}, {{Domain: 5, Weight: 1}, {Domain: 5, Weight: 2}, {Domain: 5, Weight: impl.MaxWeight}},
	{{Domain: 5, Weight: 1}, {Domain: 6}, {Domain: 7}, {Domain: impl.MaxNodes}}, make([]impl.Node, impl.MaxNodes),
	alike(impl.MaxNodes, 0), slices.Repeat([]impl.Node{{Domain: impl.MaxNodes, Weight: 1}}, impl.MaxNodes),
}

var wrongPlaceCounts = []int64{0, -1, -2, -impl.MaxSide, impl.MaxSide + 1, impl.MaxSide + 2, 1 << 32, 1<<32 + 1, math.MinInt64,
	math.MinInt64 + 1, math.MaxInt64, math.MaxInt64 - 1}

// placeKeys have few bytes and many, and any.
var placeKeys = []string{"", "k", "a key", "object/1", "\x00", "\x00\xff", "\x80\x01", strings.Repeat("k", 999),
	strings.Repeat("k", 1000), strings.Repeat("\xff", 1000)}

var longKeys = []string{strings.Repeat("k", 1001), strings.Repeat("\x00", 1002), strings.Repeat("k", impl.MaxBytes),
	strings.Repeat("k", impl.MaxBytes+1), strings.Repeat("k", 4*impl.MaxBytes+1)}

// ties are keys for which two disks have equal mixes in each turn, and so equal scores where they have equal weights.
var ties = []struct {
	key       string
	low, high int
}{
	{"key149699595", 45, 198}, {"key149699596", 38, 193}, {"key149699597", 31, 188}, {"key149699598", 24, 183},
	{"key149699599", 17, 178}, {"key149699648", 38, 195},
}

// twoOf are nodes of which two have a weight.
func twoOf(low, high impl.Node, at, other int) []impl.Node {
	nodes := make([]impl.Node, impl.MaxNodes)
	nodes[at], nodes[other] = low, high
	return nodes
}

func TestP7LimitsAreTheDocuments(t *testing.T) {
	if impl.MaxNodes != 200 || impl.MaxWeight != 64 {
		t.Errorf("MaxNodes is %d, MaxWeight %d", impl.MaxNodes, impl.MaxWeight)
	}
}

func TestP7MixAsKnown(t *testing.T) {
	for _, known := range []struct {
		key              string
		node, turn, want int64
	}{
		{"", 0, 0, 1232568321},
		{"", 0, 1, 1232654205},
		{"", 1, 0, 101251373},
		{"k", 0, 0, 132094676},
		{"k", 127, 63, 337097181},
		{"k", 128, 0, 575197761},
		{"k", 199, 63, 1789719388},
		{"a key", 12, 5, 805098345},
		{"\x00\xff", 3, 3, 1240252344},
		{strings.Repeat("k", 1000), 200, 64, 1847460064},
		{"k", math.MaxInt64, math.MaxInt64, 59017946},
	} {
		if got := impl.MixOf(known.key, known.node, known.turn); got != known.want {
			t.Errorf("%.10q, node %d, turn %d: %d, not %d", known.key, known.node, known.turn, got, known.want)
		}
	}
}

func TestP7MixByTheWords(t *testing.T) {
	numbers := []int64{0, 1, 2, 63, 64, 127, 128, 199, 200, 16383, 16384, 1 << 31, 1 << 40, math.MaxInt64 - 1, math.MaxInt64}
	for _, key := range append(newDisks().keys(20), placeKeys...) {
		for _, node := range numbers {
			for _, turn := range numbers {
				if got, want := impl.MixOf(key, node, turn), plainMix(key, node, turn); got != want || got < 0 {
					t.Fatalf("%.20q, node %d, turn %d: %d, not %d", key, node, turn, got, want)
				}
			}
		}
	}
}

func TestP7WrongMixes(t *testing.T) {
	numbers := []int64{-1, -2, math.MinInt64, math.MinInt64 + 1, 0, 1, math.MaxInt64}
	for _, key := range slices.Concat(placeKeys, longKeys) {
		for _, node := range numbers {
			for _, turn := range numbers {
				wrong := node < 0 || turn < 0 || len(key) > 1000
				if got := impl.MixOf(key, node, turn); (got == -1) != wrong {
					t.Errorf("a key of %d bytes, node %d, turn %d: %d", len(key), node, turn, got)
				}
			}
		}
	}
}

func TestP7NodesAreRightOrWrong(t *testing.T) {
	right := [][]impl.Node{mixedNodes, {{}}, {{Domain: impl.MaxNodes}}, {{Weight: impl.MaxWeight}},
		{{Domain: impl.MaxNodes, Weight: impl.MaxWeight}}, {{Domain: impl.MaxNodes - 1, Weight: impl.MaxWeight - 1}},
		alike(impl.MaxNodes, 0), alike(impl.MaxNodes, impl.MaxWeight), alike(impl.MaxNodes-1, 1)}
	for _, nodes := range slices.Concat(right, fewDomains) {
		if got := impl.NodesFault(nodes); got != impl.OK {
			t.Errorf("%d nodes, %v first: %d", len(nodes), nodes[0], got)
		}
	}
	for i, nodes := range wrongNodes() {
		if got := impl.NodesFault(nodes); got != impl.ErrForm {
			t.Errorf("wrong list %d of %d nodes: %d", i, len(nodes), got)
		}
	}
}

func TestP7ScoresAsKnown(t *testing.T) {
	for key, want := range map[string][]int64{
		"":         {1232568321, 101350985, 1117434872, -1, 1002216332, 2018674069, 890062771, -1},
		"k":        {132094676, 1148325797, 16958965, -1, 2049182176, 918218726, 1937061159, -1},
		"a key":    {1495961782, 364735956, 1380819909, -1, 1265625913, 134608363, 1153447460, -1},
		"object/1": {721241317, 1737522036, 606122532, -1, 490887568, 1507392433, 378733043, -1},
		"\x00\xff": {339151787, 1355390625, 224021202, -1, 108785709, 1125257471, 2144122671, -1},
	} {
		for disk := range want {
			if got := impl.DiskScore(mixedNodes, key, int64(disk)); got != want[disk] {
				t.Errorf("%q, disk %d: %d, not %d", key, disk, got, want[disk])
			}
		}
	}
}

func TestP7ScoresByTheWords(t *testing.T) {
	p := newDisks()
	lists := [][]impl.Node{mixedNodes, {{Weight: 1}}, {{Domain: impl.MaxNodes, Weight: impl.MaxWeight}}, {{}},
		alike(impl.MaxNodes, 1), alike(impl.MaxNodes, impl.MaxWeight), p.drawn(50, 9, impl.MaxWeight), p.drawn(impl.MaxNodes, 201, 5)}
	for _, nodes := range lists {
		for _, key := range []string{"", "k", "\x00\xff", p.keys(1)[0], strings.Repeat("k", 100)} {
			for disk := range nodes {
				got, want := impl.DiskScore(nodes, key, int64(disk)), plainScore(nodes, key, int64(disk))
				if got != want || (got == -1) != (nodes[disk].Weight == 0) {
					t.Fatalf("%.20q, disk %d of %v: %d, not %d", key, disk, nodes[disk], got, want)
				}
			}
		}
	}
	for _, size := range []int{999, 1000} {
		key := strings.Repeat("\xfe", size)
		if got, want := impl.DiskScore(mixedNodes, key, 5), plainScore(mixedNodes, key, 5); got != want {
			t.Errorf("a key of %d bytes: %d, not %d", size, got, want)
		}
	}
}

// A score is of the disk's place and weight; neither its domain nor another disk plays a part.
func TestP7ScoresHangOnPlaceAndWeight(t *testing.T) {
	p := newDisks()
	for range 200 {
		one, other := p.drawn(40, 201, impl.MaxWeight), p.drawn(60, 3, impl.MaxWeight)
		disk, key := p.chance.Intn(40), p.keys(1)[0]
		other[disk].Weight = one[disk].Weight
		if a, b := impl.DiskScore(one, key, int64(disk)), impl.DiskScore(other, key, int64(disk)); a != b {
			t.Fatalf("%q, disk %d of weight %d: %d and %d", key, disk, one[disk].Weight, a, b)
		}
	}
}

func TestP7WrongScores(t *testing.T) {
	refused := func(nodes []impl.Node, key string, disk int64) {
		t.Helper()
		if got := impl.DiskScore(nodes, key, disk); got != -1 {
			t.Errorf("%d nodes, a key of %d bytes, disk %d: %d", len(nodes), len(key), disk, got)
		}
	}
	for _, nodes := range wrongNodes() {
		for _, disk := range []int64{0, 1, 2, int64(len(nodes)) - 1, int64(len(nodes)), -1, math.MaxInt64} {
			refused(nodes, "k", disk)
			refused(nodes, longKeys[0], disk)
		}
	}
	for _, nodes := range [][]impl.Node{mixedNodes, {{Weight: 1}}, alike(impl.MaxNodes, impl.MaxWeight)} {
		size := int64(len(nodes))
		for _, disk := range []int64{-1, -2, -size, size, size + 1, impl.MaxNodes, 1 << 32, math.MinInt64, math.MaxInt64} {
			refused(nodes, "", disk)
			refused(nodes, "k", disk)
		}
		for _, key := range longKeys {
			refused(nodes, key, 0)
			refused(nodes, key, size-1)
			refused(nodes, key, size)
		}
	}
	for disk := range int64(impl.MaxNodes) {
		refused(alike(impl.MaxNodes, 0), "k", disk)
	}
}

func TestP7PlacesAsKnown(t *testing.T) {
	for key, want := range map[string][]int64{
		"":         {5, 0, 2, 6},
		"k":        {4, 6, 1, 2},
		"a key":    {0, 2, 4, 6},
		"object/1": {1, 5, 2, 6},
		"\x00\xff": {6, 1, 5, 2},
	} {
		for n := int64(1); n <= 4; n++ {
			if got := impl.PlaceKey(mixedNodes, key, n); !isPlaces(got, impl.Places{Disks: want[:n]}) {
				t.Errorf("%q, n %d: %v, not %v", key, n, got, want[:n])
			}
		}
		if got := impl.PlaceKey(mixedNodes, key, 5); !isOnlyPlaceCode(got, impl.ErrFull) {
			t.Errorf("%q, n 5: %v", key, got)
		}
	}
	turned := alike(impl.MaxNodes, 0)
	for i := range turned {
		turned[i] = impl.Node{Domain: int64(i % 7), Weight: int64(1 + i%64)}
	}
	if got := impl.PlaceKey(turned, "object/1", 7); !isPlaces(got, impl.Places{Disks: []int64{50, 145, 69, 88, 107, 14, 52}}) {
		t.Errorf("seven domains: %v", got)
	}
	many := []int64{50, 176, 145, 69, 88, 107, 14, 170, 126, 139, 33, 52, 195, 71, 164, 90, 133, 109, 16, 189, 35, 158, 54, 73,
		92, 183, 111, 152, 18, 37, 56, 177, 146, 75, 94, 1, 113, 20, 171, 140, 39, 58, 196, 77, 165, 96, 134, 3, 115, 22, 190, 41,
		159, 60, 128, 79, 98, 184, 5, 117, 153, 24, 43, 62}
	if got := impl.PlaceKey(alike(impl.MaxNodes, 1), "object/1", impl.MaxSide); !isPlaces(got, impl.Places{Disks: many}) {
		t.Errorf("as many as can be: %v", got)
	}
}

func checkPlaces(t *testing.T, nodes []impl.Node, key string, n int64) {
	t.Helper()
	if got, want := impl.PlaceKey(nodes, key, n), plainPlaces(nodes, key, n); !isPlaces(got, want) {
		t.Fatalf("%d nodes, %.20q, n %d: %v, not %v", len(nodes), key, n, got, want)
	}
}

func TestP7PlacesByTheWords(t *testing.T) {
	p := newDisks()
	for range 150 {
		domains := 1 + p.chance.Int63n(12)
		nodes := p.drawn(1+p.chance.Intn(40), domains, 1+p.chance.Int63n(6))
		for _, key := range p.keys(3) {
			for n := range domains + 2 {
				if n > 0 {
					checkPlaces(t, nodes, key, n)
				}
			}
		}
	}
}

func TestP7PlacesAtTheEdges(t *testing.T) {
	p := newDisks()
	great := p.drawn(impl.MaxNodes, impl.MaxNodes+1, impl.MaxWeight)
	great[199] = impl.Node{Domain: impl.MaxNodes, Weight: impl.MaxWeight}
	lists := append([][]impl.Node{great, {{Domain: impl.MaxNodes, Weight: impl.MaxWeight}}, {{Weight: 1}}, alike(impl.MaxNodes, 1),
		alike(impl.MaxSide, 1), alike(impl.MaxSide-1, 1), alike(impl.MaxSide+1, 1)}, fewDomains...)
	for _, nodes := range lists {
		for _, key := range []string{"", "k", "\x00\xff"} {
			for _, n := range []int64{1, 2, impl.MaxSide - 1, impl.MaxSide} {
				checkPlaces(t, nodes, key, n)
			}
		}
	}
	for _, key := range placeKeys {
		checkPlaces(t, mixedNodes, key, 1)
		checkPlaces(t, mixedNodes, key, 4)
	}
}

// domainsWith counts the domains that have a disk of a weight.
func domainsWith(nodes []impl.Node) int64 {
	seen := map[int64]bool{}
	for _, node := range nodes {
		if node.Weight > 0 {
			seen[node.Domain] = true
		}
	}
	return int64(len(seen))
}

// There are places for as many disks as there are domains that have one of a weight, and not for one more.
func TestP7DisksOfDifferentDomains(t *testing.T) {
	p := newDisks()
	for range 300 {
		nodes := p.drawn(1+p.chance.Intn(impl.MaxNodes), 1+p.chance.Int63n(impl.MaxNodes+1), 1)
		there := domainsWith(nodes)
		for _, n := range []int64{1, 2, there - 1, there, there + 1, impl.MaxSide} {
			if n < 1 || n > impl.MaxSide {
				continue
			}
			got := impl.PlaceKey(nodes, p.keys(1)[0], n)
			if n > there {
				if !isOnlyPlaceCode(got, impl.ErrFull) {
					t.Fatalf("n %d of %d domains: %v", n, there, got)
				}
				continue
			}
			seen := map[int64]bool{}
			for _, disk := range got.Disks {
				if nodes[disk].Weight == 0 {
					t.Fatalf("n %d of %d domains: disk %d has no weight", n, there, disk)
				}
				seen[nodes[disk].Domain] = true
			}
			if got.Code != impl.OK || int64(len(got.Disks)) != n || int64(len(seen)) != n {
				t.Fatalf("n %d of %d domains: %v, %d of them different", n, there, got, len(seen))
			}
		}
	}
}

func TestP7OfEqualScoresTheLowerPlaceFirst(t *testing.T) {
	for _, tie := range ties {
		low, high := int64(tie.low), int64(tie.high)
		for _, weight := range []int64{1, 2, 17, impl.MaxWeight} {
			node := impl.Node{Domain: 9, Weight: weight}
			two := twoOf(impl.Node{Domain: 200, Weight: weight}, node, tie.low, tie.high)
			if a, b := impl.DiskScore(two, tie.key, low), impl.DiskScore(two, tie.key, high); a != b || a < 0 {
				t.Fatalf("%q has no equal scores: %d and %d", tie.key, a, b)
			}
			if got := impl.PlaceKey(two, tie.key, 1); !isPlaces(got, impl.Places{Disks: []int64{low}}) {
				t.Errorf("%q, weight %d, n 1: %v", tie.key, weight, got)
			}
			if got := impl.PlaceKey(two, tie.key, 2); !isPlaces(got, impl.Places{Disks: []int64{low, high}}) {
				t.Errorf("%q, weight %d, n 2: %v", tie.key, weight, got)
			}
			if got := impl.PlaceKey(twoOf(node, node, tie.low, tie.high), tie.key, 1); !isPlaces(got, impl.Places{Disks: []int64{low}}) {
				t.Errorf("%q, weight %d, one domain: %v", tie.key, weight, got)
			}
			checkPlaces(t, alike(impl.MaxNodes, 1), tie.key, impl.MaxSide)
		}
	}
}

func TestP7WrongPlaces(t *testing.T) {
	refused := func(nodes []impl.Node, key string, n int64, code int64) {
		t.Helper()
		if got := impl.PlaceKey(nodes, key, n); !isOnlyPlaceCode(got, code) {
			t.Errorf("%d nodes, a key of %d bytes, n %d: %v, not code %d", len(nodes), len(key), n, got, code)
		}
	}
	for _, nodes := range wrongNodes() {
		for _, n := range []int64{1, 2, impl.MaxSide, 0, -1, impl.MaxSide + 1, math.MaxInt64} {
			refused(nodes, "k", n, impl.ErrForm)
			refused(nodes, longKeys[0], n, impl.ErrForm)
		}
	}
	for _, nodes := range append([][]impl.Node{mixedNodes, alike(impl.MaxNodes, 1)}, fewDomains...) {
		for _, n := range wrongPlaceCounts {
			refused(nodes, "", n, impl.ErrForm)
			refused(nodes, "k", n, impl.ErrForm)
		}
		for _, key := range longKeys {
			refused(nodes, key, 1, impl.ErrForm)
			refused(nodes, key, impl.MaxSide, impl.ErrForm)
		}
	}
	for _, nodes := range fewDomains {
		for n := domainsWith(nodes) + 1; n <= impl.MaxSide; n++ {
			refused(nodes, "k", n, impl.ErrFull)
		}
	}
}

// changes counts what was seen, so that a test which nothing happened in tells so.
type changes struct {
	kept, moved int
}

// see holds two answers against each other: what has more of the disk, and what has less of it.
func (c *changes) see(t *testing.T, less, more []impl.Node, key string, n, disk int64) {
	t.Helper()
	low, high := impl.PlaceKey(less, key, n), impl.PlaceKey(more, key, n)
	if low.Code != impl.OK {
		if high.Code != impl.OK && high.Code != impl.ErrFull {
			t.Fatalf("%q, n %d: code %d", key, n, high.Code)
		}
		return
	}
	if high.Code != impl.OK {
		t.Fatalf("%q, n %d: code %d, where less had places", key, n, high.Code)
	}
	fresh := outOf(high, low)
	if len(fresh) == 0 {
		c.kept++
		return
	}
	c.moved++
	if !slices.Equal(fresh, []int64{disk}) || len(outOf(low, high)) != 1 {
		t.Fatalf("%q, n %d: %v with less of disk %d, %v with more", key, n, low.Disks, disk, high.Disks)
	}
}

func (c *changes) enough(t *testing.T, what string) {
	t.Helper()
	if c.kept < 20 || c.moved < 20 {
		t.Errorf("%s: %d kept, %d moved: too few to tell", what, c.kept, c.moved)
	}
}

// Growing and shrinking are the same change seen from both ends: the disk alone comes in one way and goes out the other.
func TestP7OneWeightGrowsOrShrinks(t *testing.T) {
	p := newDisks()
	for _, weights := range [][2]int64{{0, 1}, {0, impl.MaxWeight}} {
		var seen changes
		for range 1000 {
			domains := 1 + p.chance.Int63n(20)
			nodes := p.drawn(20+p.chance.Intn(impl.MaxNodes-19), domains, impl.MaxWeight)
			disk := p.chance.Intn(len(nodes))
			domain := nodes[disk].Domain
			less := put(nodes, disk, impl.Node{Domain: domain, Weight: weights[0]})
			more := put(nodes, disk, impl.Node{Domain: domain, Weight: weights[1]})
			for _, key := range p.keys(5) {
				for _, n := range []int64{1, 1 + domains/2, domains} {
					seen.see(t, less, more, key, n, int64(disk))
				}
			}
		}
		seen.enough(t, fmt.Sprint("weights ", weights))
	}
}

// More turns lift a score by little: they move a key where the disk is the next in line, of another domain or of the same
// one as the disk ahead of it.
func TestP7TheNextInLineGrowsOrShrinks(t *testing.T) {
	p := newDisks()
	for _, weights := range [][2]int64{{1, 20}, {1, impl.MaxWeight}, {5, 40}} {
		var across, within changes
		for _, key := range p.keys(12) {
			nodes := alike(impl.MaxNodes, weights[0])
			line := impl.PlaceKey(nodes, key, impl.MaxSide).Disks
			for n := 1; n < len(line); n++ {
				ahead, next := nodes[line[n-1]], int(line[n])
				grown := impl.Node{Domain: nodes[next].Domain, Weight: weights[1]}
				across.see(t, nodes, put(nodes, next, grown), key, int64(n), line[n])
				grown.Domain = ahead.Domain
				within.see(t, put(nodes, next, ahead), put(nodes, next, grown), key, int64(n), line[n])
			}
		}
		across.enough(t, fmt.Sprint("weights ", weights, " across domains"))
		within.enough(t, fmt.Sprint("weights ", weights, " within domains"))
	}
}

func TestP7OneDiskIsPutBehind(t *testing.T) {
	p := newDisks()
	var seen, fresh changes
	for range 1500 {
		domains := 1 + p.chance.Int63n(20)
		nodes := p.drawn(1+p.chance.Intn(impl.MaxNodes-1), domains, 4)
		for _, key := range p.keys(3) {
			for _, n := range []int64{1, 1 + domains/2, domains} {
				known := append(slices.Clone(nodes), impl.Node{Domain: p.chance.Int63n(domains), Weight: p.chance.Int63n(5)})
				seen.see(t, nodes, known, key, n, int64(len(nodes)))
				other := append(slices.Clone(nodes), impl.Node{Domain: impl.MaxNodes, Weight: impl.MaxWeight})
				fresh.see(t, nodes, other, key, n, int64(len(nodes)))
			}
		}
	}
	seen.enough(t, "in a domain that is there")
	fresh.enough(t, "in a domain of its own")
}

// A disk whose score comes to be equal to another one's goes ahead of it only from a lower place.
func TestP7EqualScoresMoveAsTheDiskDoes(t *testing.T) {
	for _, tie := range ties {
		for _, weight := range []int64{1, impl.MaxWeight} {
			node, none := impl.Node{Domain: 9, Weight: weight}, impl.Node{Domain: 9}
			both := twoOf(node, node, tie.low, tie.high)
			moves := []struct {
				what     string
				old, now []impl.Node
				want     int64
			}{
				{"the lower one grows", twoOf(none, node, tie.low, tie.high), both, 1},
				{"the higher one grows", twoOf(node, none, tie.low, tie.high), both, 0},
				{"the lower one shrinks", both, twoOf(none, node, tie.low, tie.high), 1},
				{"the higher one shrinks", both, twoOf(node, none, tie.low, tie.high), 0},
				{"the higher one is put behind", both[:tie.high], both[:tie.high+1], 0},
			}
			for _, move := range moves {
				if got := impl.MoveCount(move.old, move.now, []string{tie.key}, 1); got != move.want {
					t.Errorf("%q, weight %d, %s: %d", tie.key, weight, move.what, got)
				}
			}
		}
	}
}

// One more turn seldom moves a key, but of two disks with equal scores it does: the higher one goes ahead.
func TestP7OneMoreTurnMovesAKey(t *testing.T) {
	var seen changes
	for _, tie := range ties {
		for weight := range int64(impl.MaxWeight) {
			for _, others := range []impl.Node{{}, {Domain: 3, Weight: 2}} {
				nodes := slices.Repeat([]impl.Node{others}, impl.MaxNodes)
				nodes[tie.low] = impl.Node{Domain: 9, Weight: weight}
				less := put(nodes, tie.high, impl.Node{Domain: 9, Weight: weight})
				more := put(nodes, tie.high, impl.Node{Domain: 9, Weight: weight + 1})
				seen.see(t, less, more, tie.key, 1, int64(tie.high))
				seen.see(t, less, more, tie.key, 2, int64(tie.high))
			}
		}
	}
	seen.enough(t, "one more turn")
}

// plainMoves counts what comes newly, key by key.
func plainMoves(old, now []impl.Node, keys []string, n int64) int64 {
	var count int
	for _, key := range keys {
		before, after := plainPlaces(old, key, n), plainPlaces(now, key, n)
		if before.Code == impl.OK && after.Code == impl.OK {
			count += len(outOf(after, before))
		}
	}
	return int64(count)
}

func TestP7MovesByTheWords(t *testing.T) {
	p := newDisks()
	var total int64
	for range 120 {
		domains := 1 + p.chance.Int63n(9)
		old, now := p.drawn(1+p.chance.Intn(30), domains, 3), p.drawn(1+p.chance.Intn(30), domains, 3)
		keys := p.keys(p.chance.Intn(20))
		for _, n := range []int64{1, 1 + domains/2, domains, domains + 1} {
			want := plainMoves(old, now, keys, n)
			if got := impl.MoveCount(old, now, keys, n); got != want {
				t.Fatalf("%v, then %v, %d keys, n %d: %d, not %d", old, now, len(keys), n, got, want)
			}
			total += want
		}
	}
	if total == 0 {
		t.Error("nothing moved")
	}
}

func TestP7MovesAsKnown(t *testing.T) {
	first, second := []impl.Node{{Weight: 1}, {}}, []impl.Node{{}, {Weight: 1}}
	hundred := newDisks().keys(100)
	for _, known := range []struct {
		what     string
		old, now []impl.Node
		keys     []string
		n, want  int64
	}{
		{"nothing changed", mixedNodes, mixedNodes, hundred, 4, 0},
		{"all change", first, second, []string{"a", "b"}, 1, 2},
		{"all change, of 100 keys", first, second, hundred, 1, 100},
		{"one key", first, second, []string{""}, 1, 1},
		{"no keys", first, second, nil, 1, 0},
		{"a list of no keys", first, second, []string{}, 1, 0},
		{"a key given twice", first, second, []string{"a", "a"}, 1, 2},
		{"a key given 100 times", first, second, slices.Repeat([]string{"a"}, 100), 1, 100},
		{"two disks come in", alike(2, 1), append(make([]impl.Node, 2), alike(2, 1)...), []string{"a", "b", "c"}, 2, 6},
		{"the order of disks plays no part", []impl.Node{{Domain: 1, Weight: 1}, {Domain: 2, Weight: 1}},
			[]impl.Node{{Domain: 1, Weight: 64}, {Domain: 2, Weight: 64}}, hundred, 2, 0},
		{"the domain plays no part", alike(2, 1), []impl.Node{{Domain: 7, Weight: 1}, {Domain: 6, Weight: 1}}, hundred, 2, 0},
		{"no disk was there", make([]impl.Node, 2), second, hundred, 1, 0},
		{"no disk is there", first, make([]impl.Node, 2), hundred, 1, 0},
		{"too few were there", first, alike(3, 1), hundred, 2, 0},
		{"too few are there", alike(3, 1), first, hundred, 2, 0},
		{"too few were and are", first, second, hundred, 2, 0},
		{"one key too long", first, second, []string{"a", longKeys[0], "b"}, 1, 2},
		{"a key of 1000 bytes", first, second, []string{placeKeys[8], "b"}, 1, 2},
		{"keys too long, each", first, second, longKeys[:3], 1, 0},
		{"as many as can be", append(alike(64, 1), make([]impl.Node, 64)...), append(make([]impl.Node, 64), alike(64, 1)...),
			hundred, impl.MaxSide, 6400},
	} {
		if got := impl.MoveCount(known.old, known.now, known.keys, known.n); got != known.want {
			t.Errorf("%s: %d, not %d", known.what, got, known.want)
		}
	}
	for _, n := range wrongPlaceCounts {
		if got := impl.MoveCount(first, second, hundred, n); got != 0 {
			t.Errorf("n %d: %d", n, got)
		}
	}
}

func TestP7WrongMoves(t *testing.T) {
	refused := func(old, now []impl.Node, keys []string, n int64) {
		t.Helper()
		if got := impl.MoveCount(old, now, keys, n); got != -1 {
			t.Errorf("%d nodes, then %d, %d keys, n %d: %d", len(old), len(now), len(keys), n, got)
		}
	}
	many := newDisks().keys(1000)
	for _, n := range []int64{1, 0, -1, 4, 5, impl.MaxSide + 1} {
		for _, wrong := range wrongNodes() {
			for _, keys := range [][]string{nil, {"a"}, {"a", longKeys[0]}, many[:100], many[:101]} {
				refused(wrong, mixedNodes, keys, n)
				refused(mixedNodes, wrong, keys, n)
				refused(wrong, wrong, keys, n)
				refused(make([]impl.Node, 1), wrong, keys, n)
			}
		}
		for _, count := range []int{101, 102, 1000} {
			refused(mixedNodes, mixedNodes, many[:count], n)
			refused(mixedNodes, alike(3, 1), slices.Repeat([]string{"a"}, count), n)
			refused(mixedNodes, mixedNodes, make([]string, count), n)
		}
	}
}

// One disk grown, shrunk or put behind moves no key twice.
func TestP7OneDiskMovesAKeyOnce(t *testing.T) {
	p := newDisks()
	var moved int64
	for range 100 {
		nodes := p.drawn(1+p.chance.Intn(100), 8, 3)
		keys := p.keys(100)
		disk := p.chance.Intn(len(nodes))
		for _, now := range [][]impl.Node{
			put(nodes, disk, impl.Node{Domain: nodes[disk].Domain, Weight: impl.MaxWeight}),
			put(nodes, disk, impl.Node{Domain: nodes[disk].Domain}),
			append(slices.Clone(nodes), impl.Node{Domain: 8, Weight: 1}),
		} {
			for _, n := range []int64{1, 4, 8} {
				got := impl.MoveCount(nodes, now, keys, n)
				if got < 0 || got > 100 {
					t.Fatalf("%d disks, n %d: %d", len(nodes), n, got)
				}
				moved += got
			}
		}
	}
	if moved == 0 {
		t.Error("nothing moved")
	}
}

// nodesLoan is a list of nodes with room behind it.
type nodesLoan struct {
	room, was []impl.Node
}

func lendNodes(nodes []impl.Node) *nodesLoan {
	room := append(slices.Clone(nodes), impl.Node{Domain: 3, Weight: 5}, impl.Node{Domain: -7, Weight: -8})
	return &nodesLoan{room: room, was: slices.Clone(room)}
}

func (l *nodesLoan) list() []impl.Node {
	return l.room[:len(l.room)-2]
}

func (l *nodesLoan) kept() bool {
	return slices.Equal(l.room, l.was)
}

func TestP7NoArgumentIsWrittenInto(t *testing.T) {
	p := newDisks()
	for _, nodes := range slices.Concat([][]impl.Node{mixedNodes, alike(100, 2), p.drawn(198, 12, 3)}, wrongNodes()[2:], fewDomains) {
		for _, key := range []string{"", "a key", placeKeys[8], longKeys[0]} {
			old, now, lent := lendNodes(nodes), lendNodes(mixedNodes), newLoan(key)
			room := []string{lent.text(), "other", "the room", "behind"}
			texts := slices.Clone(room)
			impl.NodesFault(old.list())
			impl.MixOf(lent.text(), 3, 4)
			impl.DiskScore(old.list(), lent.text(), 0)
			impl.PlaceKey(old.list(), lent.text(), 3)
			impl.MoveCount(old.list(), now.list(), room[:2], 2)
			impl.MoveCount(now.list(), old.list(), room[:2], 2)
			if !old.kept() || !now.kept() || !lent.kept() || !slices.Equal(room, texts) {
				t.Fatalf("%d nodes, a key of %d bytes: an argument is written into", len(nodes), len(key))
			}
		}
	}
}

func TestP7PlacesAreNewMemory(t *testing.T) {
	for _, nodes := range [][]impl.Node{mixedNodes, alike(impl.MaxNodes, 3)} {
		for _, n := range []int64{1, 2, 4} {
			want := plainPlaces(nodes, "a key", n)
			lent, key := lendNodes(nodes), newLoan("a key")
			first := impl.PlaceKey(lent.list(), key.text(), n)
			second := impl.PlaceKey(lent.list(), key.text(), n)
			for i := range lent.room {
				lent.room[i] = impl.Node{Domain: -1, Weight: -1}
			}
			key.spoil()
			spoil(second.Disks)
			if !isPlaces(first, want) {
				t.Errorf("n %d: an answer hangs on an argument or on another one: %v", n, first)
			}
			spoil(first.Disks)
			if again := impl.PlaceKey(nodes, "a key", n); !isPlaces(again, want) {
				t.Errorf("n %d: one answer hangs on another: %v", n, again)
			}
		}
	}
}

func TestP7TheGreatestCallsEnd(t *testing.T) {
	nodes := alike(impl.MaxNodes, impl.MaxWeight)
	keys := slices.Repeat([]string{strings.Repeat("\xff", 1000)}, 100)
	if got := impl.MoveCount(nodes, nodes, keys, impl.MaxSide); got != 0 {
		t.Errorf("great keys on equal lists: %d", got)
	}
	long := slices.Repeat([]string{strings.Repeat("k", 4*impl.MaxBytes)}, 100)
	if got := impl.MoveCount(nodes, nodes, long, impl.MaxSide); got != 0 {
		t.Errorf("keys that are too long: %d", got)
	}
}

func TestP7NoCallPanics(t *testing.T) {
	lists := slices.Concat(wrongNodes(), fewDomains, [][]impl.Node{mixedNodes, alike(impl.MaxNodes, 1)})
	numbers := []int64{math.MinInt64, math.MinInt64 + 1, -1, 0, 1, 7, 8, impl.MaxSide, impl.MaxSide + 1, impl.MaxNodes - 1,
		impl.MaxNodes, impl.MaxNodes + 1, 1 << 32, math.MaxInt64 - 1, math.MaxInt64}
	keys := []string{"", "k", "\xff\xfe", placeKeys[8], longKeys[0], longKeys[4]}
	for i, nodes := range lists {
		noPanic(t, fmt.Sprint("list ", i), func() {
			impl.NodesFault(nodes)
			for _, key := range keys {
				for _, number := range numbers {
					impl.DiskScore(nodes, key, number)
					impl.PlaceKey(nodes, key, number)
				}
			}
			for _, other := range [][]impl.Node{nil, mixedNodes, make([]impl.Node, 1), alike(impl.MaxNodes+1, 1)} {
				for _, number := range numbers {
					impl.MoveCount(nodes, other, keys, number)
					impl.MoveCount(other, nodes, nil, number)
					impl.MoveCount(other, nodes, make([]string, 101), number)
				}
			}
		})
	}
	for _, key := range keys {
		noPanic(t, "MixOf", func() {
			for _, node := range numbers {
				for _, turn := range numbers {
					impl.MixOf(key, node, turn)
				}
			}
		})
	}
}
