package tests

import (
	"math"
	"math/rand"
	"regexp"
	"slices"
	"strconv"
	"strings"
	"testing"

	"loop.example/g00020/impl"
)

// Short names for conditions and statements; lists are written as in a policy.
func ifPrefix(text string) impl.Condition {
	return impl.Condition{Kind: impl.IfPrefix, Text: text}
}
func ifBefore(time int64) impl.Condition { return impl.Condition{Kind: impl.IfBefore, Time: time} }
func ifAfter(time int64) impl.Condition  { return impl.Condition{Kind: impl.IfAfter, Time: time} }
func ifFrom(text string) impl.Condition  { return impl.Condition{Kind: impl.IfFrom, Text: text} }

func allows(who, what, which string, ifs ...impl.Condition) impl.Statement {
	return impl.Statement{Effect: impl.EffectAllow, Who: strings.Split(who, ","), What: strings.Split(what, ","), Which: strings.Split(which, ","), Ifs: ifs}
}

func denies(who, what, which string, ifs ...impl.Condition) impl.Statement {
	s := allows(who, what, which, ifs...)
	s.Effect = impl.EffectDeny
	return s
}

func sameStatement(a, b impl.Statement) bool {
	return a.Effect == b.Effect && slices.Equal(a.Who, b.Who) && slices.Equal(a.What, b.What) && slices.Equal(a.Which, b.Which) && slices.Equal(a.Ifs, b.Ifs)
}

func samePolicy(a, b impl.PolicyResult) bool {
	return a.Code == b.Code && a.Line == b.Line && slices.EqualFunc(a.Statements, b.Statements, sameStatement)
}

// plainGlob fills a table of which beginnings of a pattern are which beginnings of a text.
func plainGlob(pattern, text string) bool {
	if len(pattern) > 200 || len(text) > 2000 {
		return false
	}
	row := make([]bool, len(text)+1)
	row[0] = true
	for _, p := range []byte(pattern) {
		next := make([]bool, len(text)+1)
		for i := range next {
			if p == '*' {
				next[i] = row[i] || i > 0 && next[i-1]
			} else {
				next[i] = i > 0 && row[i-1] && (p == '?' || p == text[i-1])
			}
		}
		row = next
	}
	return row[len(text)]
}

// The document's words as forms. A line stands with one space behind each word.
var (
	lineForm      = regexp.MustCompile(`^(allow|deny) who ([^ ]+) do ([^ ]+) on ([^ ]+) ((?:(?:prefix|before|after|from) [^ ]+ )*)$`)
	conditionForm = regexp.MustCompile(`(prefix|before|after|from) ([^ ]+) `)
	spaces        = regexp.MustCompile(` +`)
	patternForm   = regexp.MustCompile(`^[\x21-\x2b\x2d-\x7e]{1,200}$`)
	wordForm      = regexp.MustCompile(`^[\x21-\x7e]{1,200}$`)
	numberForm    = regexp.MustCompile(`^(?:0|[1-9][0-9]{0,9})$`)
)

func plainLists(lists ...[]string) bool {
	for _, list := range lists {
		if len(list) < 1 || len(list) > 20 {
			return false
		}
		for _, pattern := range list {
			if !patternForm.MatchString(pattern) {
				return false
			}
		}
	}
	return true
}

func plainCondition(name, value string) (impl.Condition, bool) {
	c := impl.Condition{Kind: map[string]int64{"prefix": 1, "before": 2, "after": 3, "from": 4}[name]}
	if name == "prefix" || name == "from" {
		c.Text = value
		return c, wordForm.MatchString(value)
	}
	if !numberForm.MatchString(value) {
		return c, false
	}
	c.Time, _ = strconv.ParseInt(value, 10, 64)
	return c, c.Time <= 4102444800
}

func plainLine(line string) (impl.Statement, bool) {
	parts := lineForm.FindStringSubmatch(line)
	if parts == nil {
		return impl.Statement{}, false
	}
	s := allows(parts[2], parts[3], parts[4])
	if parts[1] == "deny" {
		s.Effect = impl.EffectDeny
	}
	for _, condition := range conditionForm.FindAllStringSubmatch(parts[5], -1) {
		c, ok := plainCondition(condition[1], condition[2])
		if !ok {
			return impl.Statement{}, false
		}
		s.Ifs = append(s.Ifs, c)
	}
	return s, plainLists(s.Who, s.What, s.Which)
}

func plainPolicy(text string) impl.PolicyResult {
	if len(text) > 10000 {
		return impl.PolicyResult{Code: impl.ErrSize}
	}
	var list []impl.Statement
	for i, line := range strings.Split(text, "\n") {
		line = strings.TrimPrefix(spaces.ReplaceAllString(line+" ", " "), " ")
		if line == "" {
			continue
		}
		s, ok := plainLine(line)
		if !ok {
			return impl.PolicyResult{Code: impl.ErrSyntax, Line: int64(i) + 1}
		}
		if len(list) == 50 || len(s.Ifs) > 10 {
			return impl.PolicyResult{Code: impl.ErrCount, Line: int64(i) + 1}
		}
		list = append(list, s)
	}
	return impl.PolicyResult{Statements: list}
}

func plainStatementFault(s impl.Statement) bool {
	if s.Effect != 1 && s.Effect != 2 || !plainLists(s.Who, s.What, s.Which) || len(s.Ifs) > 10 {
		return true
	}
	for _, c := range s.Ifs {
		word := c.Kind == impl.IfPrefix || c.Kind == impl.IfFrom
		time := c.Kind == impl.IfBefore || c.Kind == impl.IfAfter
		if !word && !time || word && (!wordForm.MatchString(c.Text) || c.Time != 0) || time && (c.Text != "" || c.Time < 0 || c.Time > 4102444800) {
			return true
		}
	}
	return false
}

func plainPolicyFault(list []impl.Statement) int64 {
	if len(list) > 50 || slices.ContainsFunc(list, plainStatementFault) {
		return impl.ErrForm
	}
	return impl.OK
}

// plainWritten writes statements word by word, however long the text becomes.
func plainWritten(list []impl.Statement) string {
	text := ""
	for _, s := range list {
		text += []string{"", "allow", "deny"}[s.Effect] + " who " + strings.Join(s.Who, ",") + " do " + strings.Join(s.What, ",") + " on " + strings.Join(s.Which, ",")
		for _, c := range s.Ifs {
			text += " " + []string{"", "prefix", "before", "after", "from"}[c.Kind] + " " + c.Text
			if c.Kind == impl.IfBefore || c.Kind == impl.IfAfter {
				text += strconv.FormatInt(c.Time, 10)
			}
		}
		text += "\n"
	}
	return text
}

func plainSome(patterns []string, text string) bool {
	for _, pattern := range patterns {
		if plainGlob(pattern, text) {
			return true
		}
	}
	return false
}

func plainHits(s impl.Statement, a impl.Ask) bool {
	hits := plainSome(s.Who, a.Who) && plainSome(s.What, a.What) && plainSome(s.Which, a.Which)
	for _, c := range s.Ifs {
		holds := false
		switch c.Kind {
		case impl.IfPrefix:
			holds = len(a.Which) >= len(c.Text) && a.Which[:len(c.Text)] == c.Text
		case impl.IfBefore:
			holds = a.Time < c.Time
		case impl.IfAfter:
			holds = a.Time > c.Time
		case impl.IfFrom:
			holds = plainGlob(c.Text, a.From)
		}
		hits = hits && holds
	}
	return hits
}

func plainJudge(list []impl.Statement, a impl.Ask) int64 {
	if plainPolicyFault(list) != impl.OK {
		return impl.JudgeNone
	}
	allowed := false
	for _, s := range list {
		if plainHits(s, a) && s.Effect == impl.EffectDeny {
			return impl.JudgeDeny
		}
		allowed = allowed || plainHits(s, a)
	}
	if allowed {
		return impl.JudgeAllow
	}
	return impl.JudgeNone
}

// policies draws statements and asks, of few letters so that they meet.
type policies struct {
	chance *rand.Rand
}

func newPolicies() *policies {
	return &policies{chance: rand.New(rand.NewSource(9))}
}

func (x *policies) of(letters string, least, most int) string {
	text := make([]byte, least+x.chance.Intn(most-least+1))
	for i := range text {
		text[i] = letters[x.chance.Intn(len(letters))]
	}
	return string(text)
}

func (x *policies) list() []string {
	var list []string
	for range 1 + x.chance.Intn(3) {
		list = append(list, x.of("aab/?***", 1, 3))
	}
	return list
}

func (x *policies) condition() impl.Condition {
	switch x.chance.Intn(4) {
	case 0:
		return ifPrefix(x.of("ab,/*", 1, 2))
	case 1:
		return ifBefore(x.chance.Int63n(9))
	case 2:
		return ifAfter(x.chance.Int63n(9))
	}
	return ifFrom(x.of("ab,*?*", 1, 3))
}

func (x *policies) statement() impl.Statement {
	s := impl.Statement{Effect: 1 + x.chance.Int63n(2), Who: x.list(), What: x.list(), Which: x.list()}
	for range x.chance.Intn(3) {
		s.Ifs = append(s.Ifs, x.condition())
	}
	return s
}

func (x *policies) statements(most int) []impl.Statement {
	var list []impl.Statement
	for range x.chance.Intn(most + 1) {
		list = append(list, x.statement())
	}
	return list
}

func (x *policies) ask() impl.Ask {
	return impl.Ask{Who: x.of("aab", 0, 2), What: x.of("aab", 0, 2), Which: x.of("aab/,*", 0, 4), From: x.of("aab,", 0, 3), Time: x.chance.Int63n(9)}
}

func TestP10LimitsAndKindsAreTheDocuments(t *testing.T) {
	for i, pair := range [][2]int64{
		{impl.MaxPolicy, 10000}, {impl.MaxStatements, 50}, {impl.MaxList, 20}, {impl.EffectAllow, 1}, {impl.EffectDeny, 2}, {impl.JudgeNone, 0},
		{impl.JudgeAllow, 1}, {impl.JudgeDeny, 2}, {impl.IfPrefix, 1}, {impl.IfBefore, 2}, {impl.IfAfter, 3}, {impl.IfFrom, 4},
	} {
		if pair[0] != pair[1] {
			t.Errorf("%d: %d, not %d", i, pair[0], pair[1])
		}
	}
}

func TestP10GlobsAsKnown(t *testing.T) {
	for _, known := range []struct {
		pattern, text string
		want          bool
	}{
		{"", "", true}, {"", "a", false}, {"a", "", false}, {"a", "a", true}, {"a", "b", false}, {"a", "A", false}, {"a", "aa", false}, {"aa", "a", false},
		{"*", "", true}, {"*", "a", true}, {"*", "ab c\n", true}, {"**", "", true}, {"***", "abc", true}, {"?", "", false}, {"?", "a", true}, {"?", "ab", false},
		{"??", "ab", true}, {"??", "a", false}, {"?*", "", false}, {"*?", "", false}, {"?*", "a", true}, {"*?", "a", true}, {"*?*", "", false}, {"*?*", "a", true},
		{"?*?", "a", false}, {"?*?", "ab", true}, {"?*?", "abc", true}, {"*a", "a", true}, {"*a", "ba", true}, {"*a", "ab", false}, {"a*", "a", true}, {"a*", "ab", true},
		{"a*", "ba", false}, {"a*c", "ac", true}, {"a*c", "abbc", true}, {"a*c", "abcb", false}, {"a*c", "abcbc", true}, {"a?c", "ac", false}, {"a?c", "abc", true},
		{"a?c", "abbc", false}, {"a??c", "abbc", true}, {"a*b*c", "a1b2c", true}, {"a*b*c", "acb", false}, {"a*b*c", "abc", true}, {"a*b*c", "abcbc", true}, {"a*b*c", "a", false},
		{"*ab*", "aab", true}, {"*ab*", "aaab", true}, {"*aab", "aaab", true}, {"*aba", "ababa", true}, {"*ab?ab*", "abxabyab", true}, {"*ab?ab", "abxabyab", true},
		{"*ab?ab", "abxxab", false}, {"ab*ab", "ab", false}, {"ab*ab", "abab", true}, {"aba*aba", "ababa", false}, {"aba*aba", "abaaba", true}, {"*a*a*", "a", false},
		{"*a*a*", "aa", true}, {"**a**", "bab", true}, {"*??a", "ba", false}, {"*??a", "bba", true}, {"?a*", "aa", true}, {"?a*", "ab", false}, {"x/*/y", "x//y", true},
		{"x/*/y", "x/y", false}, {"x/*/y", "x/a/b/y", true}, {"10.*", "10.1", true}, {"10.*", "101", false}, {"a*", "*", false}, {"*", "*", true}, {"?", "*", true}, {"?", "?", true},
		{"a?", "a*", true}, {"*b", "*", false}, {"*\x00*", "a\x00b", true}, {"a,b", "a,b", true}, {"a b", "a b", true}, {"[ab]", "a", false}, {"[ab]", "[ab]", true},
		{"\\*", "*", false}, {"\\*", "\\x", true}, {"?", "é", false}, {"??", "é", true}, {"\xff?", "\xff\xfe", true}, {"\xff", "\xfe", false}, {"*\n", "a\n", true}, {"a.c", "abc", false},
	} {
		if got := impl.GlobFits(known.pattern, known.text); got != known.want {
			t.Errorf("%q, %q: %v", known.pattern, known.text, got)
		}
		if got := plainGlob(known.pattern, known.text); got != known.want {
			t.Errorf("the test's own %q, %q: %v", known.pattern, known.text, got)
		}
	}
}

// allTexts are those of up to so many of the letters, the empty one too.
func allTexts(letters string, most int) []string {
	list := []string{""}
	for from := 0; most > 0; most-- {
		to := len(list)
		for _, text := range list[from:to] {
			for _, letter := range []byte(letters) {
				list = append(list, text+string(letter))
			}
		}
		from = to
	}
	return list
}

func TestP10GlobsByTheWords(t *testing.T) {
	texts := allTexts("ab*", 4)
	texts = append(texts, allTexts("ab", 7)...)
	for _, pattern := range allTexts("ab*?", 5) {
		for _, text := range texts {
			if got, want := impl.GlobFits(pattern, text), plainGlob(pattern, text); got != want {
				t.Fatalf("%q, %q: %v", pattern, text, got)
			}
		}
	}
	x := newPolicies()
	fits := 0
	for range 20000 {
		pattern, text := x.of("aab?**", 0, 30), x.of("aab", 0, 60)
		got := impl.GlobFits(pattern, text)
		if got != plainGlob(pattern, text) {
			t.Fatalf("%q, %q: %v", pattern, text, got)
		}
		if got {
			fits++
		}
	}
	if fits < 2000 || fits > 18000 {
		t.Errorf("%d of 20000 fit: the draw tells little", fits)
	}
}

func TestP10GlobsOfAllBytes(t *testing.T) {
	for p := range 256 {
		for b := range 256 {
			pattern, text := string([]byte{byte(p)}), string([]byte{byte(b)})
			want := p == b || p == '*' || p == '?'
			if impl.GlobFits(pattern, text) != want || impl.GlobFits("x"+pattern+"*", "x"+text+"yy") != want || impl.GlobFits("*"+pattern, text+text) != want {
				t.Fatalf("byte %d for %d", p, b)
			}
		}
	}
}

func TestP10GlobsAtTheEdges(t *testing.T) {
	a := func(n int) string { return strings.Repeat("a", n) }
	stars := func(n int) string { return strings.Repeat("*", n) }
	for i, edge := range []struct {
		pattern, text string
		want          bool
	}{
		{a(199), a(199), true}, {a(200), a(200), true}, {a(201), a(201), false}, {a(200), a(201), false}, {a(200), a(199), false},
		{stars(200), "", true}, {stars(201), "", false}, {stars(200), a(2000), true}, {stars(201), a(2000), false}, {stars(200), a(2001), false},
		{"*", a(2000), true}, {"*", a(2001), false}, {"*", a(100001), false}, {"", a(2001), false}, {a(100001), "", false}, {a(100001), a(100001), false},
		{strings.Repeat("?", 200), a(200), true}, {strings.Repeat("?", 200), a(199), false}, {strings.Repeat("?", 201), a(201), false},
		{a(199) + "*", a(2000), true}, {"*" + a(199), a(2000), true}, {"*" + a(198) + "b", a(2000), false}, {a(100) + "*" + a(99), a(198), false}, {a(100) + "*" + a(99), a(199), true},
		{strings.Repeat("*a", 100), a(99), false}, {strings.Repeat("*a", 100), a(100), true}, {strings.Repeat("*?", 100), a(100), true}, {strings.Repeat("*?", 100), a(99), false},
		{strings.Repeat("a*", 100), a(2000), true}, {strings.Repeat("a*", 99) + "b", a(2000), false}, {strings.Repeat("a*", 99) + "b", a(1999) + "b", true},
		{"*b", a(1999) + "b", true}, {"b*", "b" + a(1999), true}, {"*b*", a(1000) + "b" + a(999), true}, {"*b*", a(1000) + "b" + a(1000), false},
	} {
		if got := impl.GlobFits(edge.pattern, edge.text); got != edge.want {
			t.Errorf("%d: %v", i, got)
		}
	}
}

func TestP10PolicyAsKnown(t *testing.T) {
	text := "allow who root do * on *\n" +
		"   deny  who alice,bob,c?rol do put,delete on photos/* prefix photos/2020/ before 1600000000 after 0 from 10.0.*  \n" +
		"\n" +
		"      \n" +
		"allow who * do get on public/* from 192.168.1.?,x"
	want := []impl.Statement{
		allows("root", "*", "*"),
		denies("alice,bob,c?rol", "put,delete", "photos/*", ifPrefix("photos/2020/"), ifBefore(1600000000), ifAfter(0), ifFrom("10.0.*")),
		allows("*", "get", "public/*", ifFrom("192.168.1.?,x")),
	}
	for _, end := range []string{"", "\n", "\n\n", "\n  \n ", " ", "  \n"} {
		if got := impl.ReadPolicy(text + end); !samePolicy(got, impl.PolicyResult{Statements: want}) {
			t.Errorf("%q: %v", end, got)
		}
	}
	written := "allow who root do * on *\n" +
		"deny who alice,bob,c?rol do put,delete on photos/* prefix photos/2020/ before 1600000000 after 0 from 10.0.*\n" +
		"allow who * do get on public/* from 192.168.1.?,x\n"
	if got := impl.WritePolicy(want); got != written {
		t.Errorf("%q", got)
	}
	if got := impl.PolicyFault(want); got != impl.OK {
		t.Errorf("fault %d", got)
	}
}

// manyPatterns is a list of so many patterns.
func manyPatterns(n int) string {
	return strings.Repeat("p,", n-1) + "p"
}

// rightLines are single lines with the statement that each is.
func rightLines() map[string]impl.Statement {
	word := strings.Repeat("w", 200)
	list := manyPatterns(impl.MaxList)
	low, high := "!", "~"
	return map[string]impl.Statement{
		"allow who a do b on c":                                   allows("a", "b", "c"),
		"deny who a do b on c":                                    denies("a", "b", "c"),
		"  allow   who  a  do b     on c ":                        allows("a", "b", "c"),
		"allow who who do do on on":                               allows("who", "do", "on"),
		"deny who allow do deny on prefix":                        denies("allow", "deny", "prefix"),
		"allow who " + list + " do " + list + " on " + list:       allows(list, list, list),
		"allow who " + word + " do " + word + " on " + word:       allows(word, word, word),
		"allow who " + low + " do " + high + " on " + high + low:  allows(low, high, high+low),
		"allow who *,?,** do b,b on c,*":                          allows("*,?,**", "b,b", "c,*"),
		"allow who a do b on c prefix " + word:                    allows("a", "b", "c", ifPrefix(word)),
		"allow who a do b on c from " + word:                      allows("a", "b", "c", ifFrom(word)),
		"allow who a do b on c prefix ! from ~":                   allows("a", "b", "c", ifPrefix("!"), ifFrom("~")),
		"allow who a do b on c prefix , from ,,":                  allows("a", "b", "c", ifPrefix(","), ifFrom(",,")),
		"allow who a do b on c prefix prefix from before":         allows("a", "b", "c", ifPrefix("prefix"), ifFrom("before")),
		"allow who a do b on c prefix 007 from +1":                allows("a", "b", "c", ifPrefix("007"), ifFrom("+1")),
		"allow who a do b on c before 0 after 0":                  allows("a", "b", "c", ifBefore(0), ifAfter(0)),
		"allow who a do b on c before 4102444800":                 allows("a", "b", "c", ifBefore(impl.MaxTime)),
		"allow who a do b on c after 4102444800 before 999999999": allows("a", "b", "c", ifAfter(impl.MaxTime), ifBefore(999999999)),
		"allow who a do b on c after 10 before 9":                 allows("a", "b", "c", ifAfter(10), ifBefore(9)),
		"allow who a do b on c" + strings.Repeat(" after 1", 10):  allows("a", "b", "c", slices.Repeat([]impl.Condition{ifAfter(1)}, 10)...),
		"deny who a do b on c from a prefix b from c prefix d":    denies("a", "b", "c", ifFrom("a"), ifPrefix("b"), ifFrom("c"), ifPrefix("d")),
	}
}

func TestP10RightLines(t *testing.T) {
	for line, want := range rightLines() {
		for _, text := range []string{line, line + "\n", "\n" + line, " \n" + line + "\n   \n"} {
			if got := impl.ReadPolicy(text); !samePolicy(got, impl.PolicyResult{Statements: []impl.Statement{want}}) {
				t.Errorf("%.80q: %.200v", text, got)
			}
		}
		if got := impl.ReadPolicy(line + "\n\n" + line); !samePolicy(got, impl.PolicyResult{Statements: []impl.Statement{want, want}}) {
			t.Errorf("twice %.80q: %.200v", line, got)
		}
		list := []impl.Statement{want}
		if impl.PolicyFault(list) != impl.OK || !samePolicy(impl.ReadPolicy(impl.WritePolicy(list)), impl.PolicyResult{Statements: list}) {
			t.Errorf("%.80q: written %.200q", line, impl.WritePolicy(list))
		}
	}
}

func TestP10NoLines(t *testing.T) {
	for _, text := range []string{"", "\n", " ", "   ", "\n\n\n", "  \n \n   \n", strings.Repeat("\n", impl.MaxPolicy), strings.Repeat(" ", impl.MaxPolicy)} {
		if got := impl.ReadPolicy(text); !samePolicy(got, impl.PolicyResult{}) {
			t.Errorf("%.20q: %v", text, got)
		}
	}
	for i, none := range [][]impl.Statement{nil, {}} {
		if impl.WritePolicy(none) != "" || impl.PolicyFault(none) != impl.OK || impl.Judge(none, impl.Ask{Who: "a", What: "b", Which: "c"}) != impl.JudgeNone {
			t.Errorf("%d", i)
		}
	}
}

// wrongLines are lines that are none, each for another reason.
func wrongLines() []string {
	word := strings.Repeat("w", 201)
	lines := []string{
		"x", "allow", "allow who", "allow who a", "allow who a do", "allow who a do b", "allow who a do b on", "who a do b on c", "a do b on c",
		"Allow who a do b on c", "DENY who a do b on c", "allowed who a do b on c", "allo who a do b on c", "allow allow who a do b on c", "allow deny who a do b on c",
		"allow Who a do b on c", "allow a do b on c", "allow who do b on c", "allow who a b on c", "allow who a do on c", "allow who a do b c", "allow who a do b on",
		"allow do b who a on c", "allow who a on c do b", "allow on c do b who a", "who a allow do b on c", "allow prefix x who a do b on c", "allow who a prefix x do b on c",
		"allow who a do b on c d", "allow who a do b on c on d", "allow who a do b on c allow", "allow who a do b on c allow who a do b on c", "allow who a a do b on c",
		"allow who a , b do b on c", "allow who a ,b do b on c", "allow who a, b do b on c", "allow who a, do b on c", "allow who ,a do b on c", "allow who , do b on c",
		"allow who a,,b do b on c", "allow who a do b, on c", "allow who a do ,b on c", "allow who a do b on c,", "allow who a do b on ,c", "allow who a do b on c,,d",
		"allow who " + manyPatterns(impl.MaxList+1) + " do b on c", "allow who a do " + manyPatterns(impl.MaxList+1) + " on c", "allow who a do b on " + manyPatterns(impl.MaxList+1),
		"allow who " + manyPatterns(2000) + " do b on c", "allow who " + word + " do b on c", "allow who a do " + word + " on c", "allow who a do b on " + word, "allow who a," + word + " do b on c",
		"allow who a do b on c prefix", "allow who a do b on c from", "allow who a do b on c before", "allow who a do b on c after", "allow who a do b on c prefix x from",
		"allow who a do b on c prefix " + word, "allow who a do b on c from " + word, "allow who a do b on c since 5", "allow who a do b on c Prefix x", "allow who a do b on c prefixx y",
		"allow who a do b on c x y", "allow who a do b on c 5", "allow who a do b on c prefix x y", "allow who a do b on c prefix x y z", "allow who a do b on c before 5 6", "allow who a do b on c if prefix x",
	}
	for _, number := range []string{
		"00", "01", "007", "0000000000", "+1", "+0", "-1", "-0", "-", "+", "1a", "a1", "a", "1_0", "0x5", "1.0", "1e3", "1,0", ",", "5,", "4102444801", "9999999999", "04102444800",
		"41024448000", "12345678901", "00000000001", "18446744073709551621", "9223372036854775808", "99999999999999999999999999", "٣", "before", "prefix",
	} {
		lines = append(lines, "allow who a do b on c before "+number, "deny who a do b on c prefix x after "+number)
	}
	for _, b := range []byte{0, 1, 9, 11, 13, 31, 127, 128, 160, 194, 255} {
		ill := string([]byte{b})
		lines = append(lines, ill, "allow who a"+ill+" do b on c", "allow who a do "+ill+" on c", "allow who a do b on c,"+ill, "allow who a do b on c prefix "+ill, "allow who a do b on c from x"+ill+"y",
			"allow who a do b on c"+ill, "allow"+ill+"who a do b on c", "allow who a do b on c before 5"+ill, ill+"allow who a do b on c", "allow who a do b on c "+ill)
	}
	return lines
}

func TestP10WrongLines(t *testing.T) {
	right := "deny who x do y on z prefix w\n"
	for _, line := range wrongLines() {
		for i, text := range []string{line, line + "\n", "\n \n" + line, right + line, right + "\n" + right + line + "\n" + right, line + "\nx\n" + line, strings.Repeat(right, impl.MaxStatements) + line} {
			number := []int64{1, 1, 3, 2, 4, 1, 51}[i]
			if got := impl.ReadPolicy(text); !samePolicy(got, impl.PolicyResult{Code: impl.ErrSyntax, Line: number}) {
				t.Errorf("%.90q, text %d: code %d at line %d, %d statements", line, i, got.Code, got.Line, len(got.Statements))
			}
		}
	}
}

func TestP10FaultsInTheirOrder(t *testing.T) {
	right, ill := "allow who a do b on c\n", "allow who a do b on\n"
	eleven := "allow who a do b on c" + strings.Repeat(" before 5", 11) + "\n"
	fill := func(text string, size int) string { return text + strings.Repeat(" ", size-len(text)) }
	for i, step := range []struct {
		text string
		code int64
		line int64
	}{
		{eleven, impl.ErrCount, 1}, {"\n\n" + right + eleven + ill, impl.ErrCount, 4}, {right + ill + eleven, impl.ErrSyntax, 2}, {ill + ill, impl.ErrSyntax, 1}, {eleven + eleven, impl.ErrCount, 1},
		{"allow who a do b on c" + strings.Repeat(" before 5", 10), impl.OK, 0},
		{"allow who a do b on c" + strings.Repeat(" before 5", 11) + " before", impl.ErrSyntax, 1}, {"allow who a do b on c" + strings.Repeat(" before 5", 11) + " before 05", impl.ErrSyntax, 1},
		{"allow who a do b on c" + strings.Repeat(" from x", 200), impl.ErrCount, 1}, {"allow who a do b on c, " + strings.Repeat(" from x", 11), impl.ErrSyntax, 1},
		{"allow who " + manyPatterns(21) + " do b on c" + strings.Repeat(" from x", 11), impl.ErrSyntax, 1}, {"maybe who a do b on c" + strings.Repeat(" from x", 11), impl.ErrSyntax, 1},
		{strings.Repeat(right, 50), impl.OK, 0}, {strings.Repeat(right, 50) + "\n \n", impl.OK, 0}, {strings.Repeat(right, 51), impl.ErrCount, 51}, {strings.Repeat(right+" \n", 51), impl.ErrCount, 101},
		{strings.Repeat(right, 51) + ill, impl.ErrCount, 51}, {strings.Repeat(right, 50) + ill + right, impl.ErrSyntax, 51}, {strings.Repeat(right, 50) + "\n" + eleven, impl.ErrCount, 52},
		{strings.Repeat(right, 50) + "\n" + right + ill, impl.ErrCount, 52}, {strings.Repeat(right, 49) + eleven + right, impl.ErrCount, 50}, {strings.Repeat(right, 400), impl.ErrCount, 51},
		{fill(right, impl.MaxPolicy), impl.OK, 0}, {fill(right, impl.MaxPolicy+1), impl.ErrSize, 0}, {fill(ill, impl.MaxPolicy), impl.ErrSyntax, 1}, {fill(ill, impl.MaxPolicy+1), impl.ErrSize, 0},
		{strings.Repeat("\n", impl.MaxPolicy+1), impl.ErrSize, 0}, {strings.Repeat("\n", impl.MaxPolicy-1) + "x", impl.ErrSyntax, 10000}, {strings.Repeat("\n", impl.MaxPolicy) + "x", impl.ErrSize, 0},
		{strings.Repeat(right, 1000), impl.ErrSize, 0}, {strings.Repeat("x", impl.MaxBytes+1), impl.ErrSize, 0}, {strings.Repeat("x", impl.MaxPolicy), impl.ErrSyntax, 1},
	} {
		got := impl.ReadPolicy(step.text)
		if got.Code != step.code || got.Line != step.line || got.Code != impl.OK && len(got.Statements) != 0 {
			t.Errorf("%d: code %d at line %d, not %d at %d", i, got.Code, got.Line, step.code, step.line)
		}
		if !samePolicy(got, plainPolicy(step.text)) {
			t.Errorf("%d: not as the words have it", i)
		}
	}
}

// bent changes a text in one or two places: a byte, a word, a line.
func (x *policies) bent(text string) string {
	bits := []string{" ", "  ", "\n", "\t", ",", "", "0", "5", "x", "*", "who", "do", "on", "allow", "deny", "prefix", "before", "after", "from", " prefix x", " before 5", " after 10 ", " from *", "\r", "\xe9", "\n\n", "-"}
	for range 1 + x.chance.Intn(2) {
		at := x.chance.Intn(len(text) + 1)
		end := min(len(text), at+x.chance.Intn(3)*x.chance.Intn(4))
		bit := bits[x.chance.Intn(len(bits))]
		text = text[:at] + bit + text[end:]
	}
	return text
}

// wordsBent takes a word out, puts one in twice, or lets two change places.
func (x *policies) wordsBent(text string) string {
	words := strings.Split(text, " ")
	i, k := x.chance.Intn(len(words)), x.chance.Intn(len(words))
	switch x.chance.Intn(3) {
	case 0:
		words = slices.Delete(words, i, i+1)
	case 1:
		words = slices.Insert(words, k, words[i])
	default:
		words[i], words[k] = words[k], words[i]
	}
	return strings.Join(words, " ")
}

func TestP10ReadByTheWords(t *testing.T) {
	x := newPolicies()
	var codes [14]int
	for i := range 30000 {
		text := plainWritten(x.statements(4))
		switch i % 4 {
		case 0:
			text = x.bent(text)
		case 1:
			text = x.wordsBent(text)
		case 2:
			text = strings.ReplaceAll(text, " ", x.of(" ", 1, 3))
			text = strings.ReplaceAll(text, "\n", x.of(" ", 0, 2)+"\n"+x.of(" \n", 0, 3))
		}
		got, want := impl.ReadPolicy(text), plainPolicy(text)
		if !samePolicy(got, want) {
			t.Fatalf("%q: %v, not %v", text, got, want)
		}
		codes[got.Code]++
	}
	if codes[impl.OK] < 5000 || codes[impl.ErrSyntax] < 5000 {
		t.Errorf("%v: the draw tells little", codes)
	}
}

// Where there are about as many statements and conditions as there may be.
func TestP10CountsByTheWords(t *testing.T) {
	x := newPolicies()
	var codes [14]int
	for range 2000 {
		text := strings.Repeat("allow who a do b on c\n", 44+x.chance.Intn(4))
		for range x.chance.Intn(8) {
			text += "deny who a do b on c" + strings.Repeat(" after 5", 6+x.chance.Intn(6)) + x.of(" \n", 0, 2) + "\n"
		}
		if x.chance.Intn(2) == 0 {
			text = x.bent(text)
		}
		got, want := impl.ReadPolicy(text), plainPolicy(text)
		if !samePolicy(got, want) {
			t.Fatalf("%q: %v, not %v", text, got, want)
		}
		codes[got.Code]++
	}
	if codes[impl.OK] < 100 || codes[impl.ErrSyntax] < 100 || codes[impl.ErrCount] < 100 {
		t.Errorf("%v: the draw tells little", codes)
	}
}

// wrongStatements are statements that no line is, each for another reason.
func wrongStatements() map[string]impl.Statement {
	list := map[string]impl.Statement{"the zero value": {}}
	put := func(what string, change func(s *impl.Statement)) {
		s := allows("a", "b", "c", ifPrefix("x"))
		change(&s)
		list[what] = s
	}
	for _, effect := range []int64{0, 3, -1, 257, 1 << 32, math.MinInt64, math.MaxInt64} {
		put("effect "+strconv.FormatInt(effect, 10), func(s *impl.Statement) { s.Effect = effect })
	}
	lists := map[string][]string{
		"none": nil, "empty": {}, "an empty pattern": {""}, "an empty pattern behind": {"a", ""}, "a comma": {"a,b"}, "a comma alone": {","}, "a space": {"a b"}, "a newline": {"a\n"},
		"byte 31": {"\x1f"}, "byte 32": {"\x20"}, "byte 127": {"\x7f"}, "byte 128": {"\x80"}, "byte 255": {"a\xff"}, "byte 0": {"\x00"}, "a letter of two bytes": {"é"},
		"201 bytes": {strings.Repeat("w", 201)}, "201 bytes behind": {"a", strings.Repeat("w", 201)}, "100001 bytes": {strings.Repeat("w", 100001)},
		"21": strings.Split(manyPatterns(21), ","), "1000": strings.Split(manyPatterns(1000), ","),
	}
	for what, ill := range lists {
		put("Who: "+what, func(s *impl.Statement) { s.Who = ill })
		put("What: "+what, func(s *impl.Statement) { s.What = ill })
		put("Which: "+what, func(s *impl.Statement) { s.Which = ill })
	}
	for i, c := range []impl.Condition{
		{}, {Kind: 5, Text: "x"}, {Kind: -1, Text: "x"}, {Kind: 0, Text: "x"}, {Kind: 5, Time: 5}, {Kind: 257, Text: "x"}, {Kind: math.MaxInt64}, {Kind: math.MinInt64},
		ifPrefix(""), ifFrom(""), ifPrefix(strings.Repeat("w", 201)), ifFrom(strings.Repeat("w", 201)), ifPrefix(" "), ifFrom("a b"), ifPrefix("\x7f"), ifFrom("\x1f"), ifPrefix("é"), ifFrom("\n"), ifPrefix("a\xff"),
		ifPrefix(strings.Repeat("w", 100001)), ifBefore(-1), ifAfter(-1), ifBefore(impl.MaxTime + 1), ifAfter(impl.MaxTime + 1), ifBefore(math.MinInt64), ifAfter(math.MaxInt64), ifAfter(math.MinInt64), ifBefore(math.MaxInt64),
		{Kind: impl.IfPrefix, Text: "x", Time: 1}, {Kind: impl.IfFrom, Text: "x", Time: 1}, {Kind: impl.IfPrefix, Text: "x", Time: -1}, {Kind: impl.IfFrom, Text: "x", Time: -1}, {Kind: impl.IfPrefix, Time: 5}, {Kind: impl.IfFrom, Time: 5},
		{Kind: impl.IfBefore, Time: 5, Text: "x"}, {Kind: impl.IfAfter, Time: 5, Text: "x"}, {Kind: impl.IfBefore, Text: "5"}, {Kind: impl.IfAfter, Time: 5, Text: "5"}, {Kind: impl.IfBefore, Time: 5, Text: " "},
	} {
		put("condition "+strconv.Itoa(i), func(s *impl.Statement) { s.Ifs = []impl.Condition{c} })
		put("condition behind others "+strconv.Itoa(i), func(s *impl.Statement) { s.Ifs = append(slices.Repeat([]impl.Condition{ifAfter(0)}, 9), c) })
		put("condition ahead of others "+strconv.Itoa(i), func(s *impl.Statement) { s.Ifs = []impl.Condition{c, ifAfter(0), ifPrefix("x")} })
	}
	put("11 conditions", func(s *impl.Statement) { s.Ifs = slices.Repeat([]impl.Condition{ifAfter(0)}, 11) })
	put("1000 conditions", func(s *impl.Statement) { s.Ifs = slices.Repeat([]impl.Condition{ifFrom("x")}, 1000) })
	return list
}

func TestP10WrongStatements(t *testing.T) {
	all := denies("*", "*", "*")
	ask := impl.Ask{Who: "a", What: "b", Which: "c", From: "x", Time: 1}
	for what, s := range wrongStatements() {
		for i, list := range [][]impl.Statement{{s}, {all, s}, {s, all}, {all, all, s, all}, append(slices.Repeat([]impl.Statement{all}, 49), s)} {
			if got := impl.PolicyFault(list); got != impl.ErrForm {
				t.Errorf("%s, %d: fault %d", what, i, got)
			}
			if got := impl.WritePolicy(list); got != "" {
				t.Errorf("%s, %d: written %.80q", what, i, got)
			}
			if got := impl.Judge(list, ask); got != impl.JudgeNone {
				t.Errorf("%s, %d: judged %d", what, i, got)
			}
		}
	}
}

func TestP10AsManyStatementsAsCanBe(t *testing.T) {
	ask := impl.Ask{Who: "a", What: "b", Which: "c"}
	for n, want := range map[int]int64{1: impl.OK, 49: impl.OK, 50: impl.OK, 51: impl.ErrForm, 52: impl.ErrForm, 1000: impl.ErrForm} {
		list := slices.Repeat([]impl.Statement{allows("a", "b", "c")}, n)
		if got := impl.PolicyFault(list); got != want {
			t.Errorf("%d: fault %d", n, got)
		}
		text, judged := plainWritten(list), int64(impl.JudgeAllow)
		if want != impl.OK {
			text, judged = "", impl.JudgeNone
		}
		if impl.WritePolicy(list) != text || impl.Judge(list, ask) != judged {
			t.Errorf("%d: %.80q, judged %d", n, impl.WritePolicy(list), impl.Judge(list, ask))
		}
	}
}

func TestP10FaultsByTheWords(t *testing.T) {
	x := newPolicies()
	texts := []string{"", "a", ",", "a,b", " ", "~", "!", "\x7f", "\x1f", strings.Repeat("w", 200), strings.Repeat("w", 201)}
	numbers := []int64{-1, 0, 1, 2, 3, 4, 5, impl.MaxTime, impl.MaxTime + 1}
	number := func() int64 { return numbers[x.chance.Intn(len(numbers))] }
	text := func() string { return texts[x.chance.Intn(len(texts))] }
	wild := func(s *impl.Statement) {
		lists := []*[]string{&s.Who, &s.What, &s.Which}
		list := lists[x.chance.Intn(3)]
		switch x.chance.Intn(6) {
		case 0:
			s.Effect = number()
		case 1:
			(*list)[x.chance.Intn(len(*list))] = text()
		case 2:
			*list = slices.Repeat([]string{"a"}, 18+x.chance.Intn(5))
		case 3:
			s.Ifs = append(s.Ifs, impl.Condition{Kind: number(), Text: text(), Time: number()})
		case 4:
			s.Ifs = append(s.Ifs, []impl.Condition{ifPrefix(text()), ifFrom(text()), ifBefore(number()), ifAfter(number())}[x.chance.Intn(4)])
		default:
			s.Ifs = slices.Repeat([]impl.Condition{x.condition()}, 8+x.chance.Intn(5))
		}
	}
	var codes [2]int
	for i := range 30000 {
		list := x.statements(3)
		if i%3 != 0 && len(list) > 0 {
			wild(&list[x.chance.Intn(len(list))])
		}
		want := plainPolicyFault(list)
		codes[want]++
		if got := impl.PolicyFault(list); got != want {
			t.Fatalf("%v: fault %d", list, got)
		}
		written := ""
		if want == impl.OK {
			written = plainWritten(list)
		}
		if got := impl.WritePolicy(list); got != written {
			t.Fatalf("%v: %q", list, got)
		}
		// A list has no fault just if what is written of it is read as it.
		if read := impl.ReadPolicy(written); want == impl.OK && !samePolicy(read, impl.PolicyResult{Statements: list}) {
			t.Fatalf("%v: read %v", list, read)
		}
	}
	if codes[0] < 5000 || codes[1] < 5000 {
		t.Errorf("%v: the draw tells little", codes)
	}
}

func TestP10WhatIsWrittenIsReadBack(t *testing.T) {
	x := newPolicies()
	letters := ""
	for b := byte(33); b <= 126; b++ {
		if b != ',' {
			letters += string(b)
		}
	}
	for i := range 3000 {
		list := x.statements(8)
		for k := range list {
			list[k].Who[0] = x.of(letters, 1, 40)
			list[k].What = append(list[k].What, x.of(letters, 1, 5))
			list[k].Ifs = append(list[k].Ifs, ifPrefix(x.of(letters+",", 1, 9)), ifFrom(x.of(letters+",", 1, 9)), ifBefore(x.chance.Int63n(impl.MaxTime+1)), ifAfter(x.chance.Int63n(1<<uint(x.chance.Intn(32)))))
		}
		text := impl.WritePolicy(list)
		if text != plainWritten(list) {
			t.Fatalf("%d: %q", i, text)
		}
		if got := impl.ReadPolicy(text); !samePolicy(got, impl.PolicyResult{Statements: list}) {
			t.Fatalf("%d: %v of %q", i, got, text)
		}
		if got := impl.WritePolicy(impl.ReadPolicy(text).Statements); got != text {
			t.Fatalf("%d: %q again %q", i, text, got)
		}
	}
}

// sized is a right list whose text has so many bytes.
func sized(size int) []impl.Statement {
	word := strings.Repeat("w", 199)
	one := allows(word+","+word+","+word, word, word)
	list := slices.Repeat([]impl.Statement{one}, size/len(plainWritten([]impl.Statement{one})))
	last := allows("a", "b", "c")
	for size -= len(plainWritten(append(slices.Clone(list), last))); size > 0; {
		// A condition takes 8 bytes and its word.
		n := min(size, 208)
		if rest := size - n; rest > 0 && rest < 9 {
			n -= 9
		}
		last.Ifs = append(last.Ifs, ifPrefix(strings.Repeat("x", n-8)))
		size -= n
	}
	return append(list, last)
}

func TestP10AsLongATextAsCanBe(t *testing.T) {
	for _, size := range []int{impl.MaxPolicy - 1, impl.MaxPolicy, impl.MaxPolicy + 1, impl.MaxPolicy + 2, 2 * impl.MaxPolicy} {
		list := sized(size)
		text := plainWritten(list)
		if len(text) != size || impl.PolicyFault(list) != impl.OK {
			t.Fatalf("%d: the test's own list has %d bytes, fault %d", size, len(text), impl.PolicyFault(list))
		}
		want, read := text, impl.PolicyResult{Statements: list}
		if size > impl.MaxPolicy {
			want, read = "", impl.PolicyResult{Code: impl.ErrSize}
		}
		if got := impl.WritePolicy(list); got != want {
			t.Errorf("%d: written %d bytes", size, len(got))
		}
		if got := impl.ReadPolicy(text); !samePolicy(got, read) {
			t.Errorf("%d: code %d, %d statements", size, got.Code, len(got.Statements))
		}
		// What is too long to be written is judged all the same.
		w := strings.Repeat("w", 199)
		if got := impl.Judge(list, impl.Ask{Who: w, What: w, Which: w}); got != impl.JudgeAllow {
			t.Errorf("%d: judged %d", size, got)
		}
	}
}

func TestP10JudgeAsKnown(t *testing.T) {
	list := []impl.Statement{
		allows("alice,bob", "get,put", "photos/*"),
		denies("*", "put", "*", ifPrefix("photos/old/")),
		allows("carol", "*", "*", ifFrom("10.*"), ifAfter(100), ifBefore(200)),
		denies("m?llory", "*", "*"),
		allows("mallory,dave", "get", "*"),
	}
	for i, known := range []struct {
		ask  impl.Ask
		want int64
	}{
		{impl.Ask{Who: "alice", What: "get", Which: "photos/1"}, impl.JudgeAllow}, {impl.Ask{Who: "bob", What: "put", Which: "photos/"}, impl.JudgeAllow},
		{impl.Ask{Who: "bob", What: "put", Which: "photos"}, impl.JudgeNone}, {impl.Ask{Who: "bob", What: "delete", Which: "photos/1"}, impl.JudgeNone},
		{impl.Ask{Who: "alice", What: "put", Which: "photos/old/1"}, impl.JudgeDeny}, {impl.Ask{Who: "alice", What: "put", Which: "photos/old/"}, impl.JudgeDeny},
		{impl.Ask{Who: "alice", What: "put", Which: "photos/old"}, impl.JudgeAllow}, {impl.Ask{Who: "alice", What: "get", Which: "photos/old/1"}, impl.JudgeAllow},
		{impl.Ask{Who: "nobody", What: "put", Which: "photos/old/1"}, impl.JudgeDeny}, {impl.Ask{Who: "nobody", What: "put", Which: "a/photos/old/1"}, impl.JudgeNone},
		{impl.Ask{Who: "carol", What: "x", Which: "y", From: "10.1", Time: 150}, impl.JudgeAllow}, {impl.Ask{Who: "carol", What: "x", Which: "y", From: "11.1", Time: 150}, impl.JudgeNone},
		{impl.Ask{Who: "carol", What: "x", Which: "y", From: "10.1", Time: 100}, impl.JudgeNone}, {impl.Ask{Who: "carol", What: "x", Which: "y", From: "10.1", Time: 101}, impl.JudgeAllow},
		{impl.Ask{Who: "carol", What: "x", Which: "y", From: "10.1", Time: 199}, impl.JudgeAllow}, {impl.Ask{Who: "carol", What: "x", Which: "y", From: "10.1", Time: 200}, impl.JudgeNone},
		{impl.Ask{Who: "carol", What: "put", Which: "photos/old/2", From: "10.1", Time: 150}, impl.JudgeDeny},
		{impl.Ask{Who: "mallory", What: "get", Which: "y"}, impl.JudgeDeny}, {impl.Ask{Who: "millory", What: "get", Which: "y"}, impl.JudgeDeny}, {impl.Ask{Who: "dave", What: "get", Which: ""}, impl.JudgeAllow},
		{impl.Ask{Who: "Dave", What: "get", Which: ""}, impl.JudgeNone}, {impl.Ask{}, impl.JudgeNone},
	} {
		if got := impl.Judge(list, known.ask); got != known.want {
			t.Errorf("%d: %v: %d, not %d", i, known.ask, got, known.want)
		}
		turned := slices.Clone(list)
		slices.Reverse(turned)
		if got := impl.Judge(turned, known.ask); got != known.want {
			t.Errorf("%d, turned round: %v: %d, not %d", i, known.ask, got, known.want)
		}
	}
}

func TestP10JudgeAtTheEdges(t *testing.T) {
	a := func(n int) string { return strings.Repeat("a", n) }
	all := func(ifs ...impl.Condition) []impl.Statement { return []impl.Statement{allows("*", "*", "*", ifs...)} }
	ten := slices.Repeat([]impl.Condition{ifAfter(4)}, 10)
	last := slices.Clone(ten)
	last[9] = ifAfter(5)
	for i, edge := range []struct {
		list []impl.Statement
		ask  impl.Ask
		want int64
	}{
		{all(), impl.Ask{}, impl.JudgeAllow}, {[]impl.Statement{denies("*", "*", "*")}, impl.Ask{}, impl.JudgeDeny}, {[]impl.Statement{allows("?", "*", "*")}, impl.Ask{}, impl.JudgeNone},
		{[]impl.Statement{allows("*", "?", "*")}, impl.Ask{}, impl.JudgeNone}, {[]impl.Statement{allows("*", "*", "?")}, impl.Ask{}, impl.JudgeNone},
		{all(ifFrom("*")), impl.Ask{}, impl.JudgeAllow}, {all(ifFrom("?")), impl.Ask{}, impl.JudgeNone}, {all(ifFrom("a,b")), impl.Ask{From: "a,b"}, impl.JudgeAllow}, {all(ifFrom("a,b")), impl.Ask{From: "a"}, impl.JudgeNone},
		{all(ifFrom("a*")), impl.Ask{From: "ba"}, impl.JudgeNone}, {all(ifPrefix("a*")), impl.Ask{Which: "ab"}, impl.JudgeNone}, {all(ifPrefix("a*")), impl.Ask{Which: "a*b"}, impl.JudgeAllow}, {all(ifPrefix("?")), impl.Ask{Which: "a"}, impl.JudgeNone},
		{all(ifPrefix("a")), impl.Ask{}, impl.JudgeNone}, {all(ifPrefix("a")), impl.Ask{Which: "a"}, impl.JudgeAllow}, {all(ifPrefix("a")), impl.Ask{Which: "ba"}, impl.JudgeNone}, {all(ifPrefix("a")), impl.Ask{Who: "a", What: "a", From: "a"}, impl.JudgeNone},
		{all(ifPrefix(a(200))), impl.Ask{Which: a(200)}, impl.JudgeAllow}, {all(ifPrefix(a(200))), impl.Ask{Which: a(199)}, impl.JudgeNone}, {all(ifPrefix(a(200))), impl.Ask{Which: a(2000)}, impl.JudgeAllow},
		{all(ifBefore(0)), impl.Ask{}, impl.JudgeNone}, {all(ifAfter(0)), impl.Ask{}, impl.JudgeNone}, {all(ifAfter(0)), impl.Ask{Time: 1}, impl.JudgeAllow}, {all(ifBefore(1)), impl.Ask{}, impl.JudgeAllow},
		{all(ifBefore(5)), impl.Ask{Time: 4}, impl.JudgeAllow}, {all(ifBefore(5)), impl.Ask{Time: 5}, impl.JudgeNone}, {all(ifBefore(5)), impl.Ask{Time: 6}, impl.JudgeNone},
		{all(ifAfter(5)), impl.Ask{Time: 4}, impl.JudgeNone}, {all(ifAfter(5)), impl.Ask{Time: 5}, impl.JudgeNone}, {all(ifAfter(5)), impl.Ask{Time: 6}, impl.JudgeAllow},
		{all(ifBefore(impl.MaxTime)), impl.Ask{Time: impl.MaxTime}, impl.JudgeNone}, {all(ifBefore(impl.MaxTime)), impl.Ask{Time: impl.MaxTime - 1}, impl.JudgeAllow}, {all(ifAfter(impl.MaxTime)), impl.Ask{Time: impl.MaxTime}, impl.JudgeNone},
		{all(ifAfter(impl.MaxTime - 1)), impl.Ask{Time: impl.MaxTime}, impl.JudgeAllow}, {all(ifAfter(3), ifBefore(5)), impl.Ask{Time: 4}, impl.JudgeAllow}, {all(ifAfter(5), ifBefore(3)), impl.Ask{Time: 4}, impl.JudgeNone},
		{all(ten...), impl.Ask{Time: 5}, impl.JudgeAllow}, {all(last...), impl.Ask{Time: 5}, impl.JudgeNone}, {all(ifAfter(5), ifFrom("*")), impl.Ask{Time: 5}, impl.JudgeNone}, {all(ifFrom("*"), ifAfter(5)), impl.Ask{Time: 5}, impl.JudgeNone},
		{all(), impl.Ask{Who: a(2000), What: a(2000), Which: a(2000), From: a(2000)}, impl.JudgeAllow}, {all(), impl.Ask{Who: a(2001)}, impl.JudgeNone}, {all(), impl.Ask{What: a(2001)}, impl.JudgeNone}, {all(), impl.Ask{Which: a(2001)}, impl.JudgeNone},
		{all(), impl.Ask{From: a(2001)}, impl.JudgeAllow}, {all(ifFrom("*")), impl.Ask{From: a(2000)}, impl.JudgeAllow}, {all(ifFrom("*")), impl.Ask{From: a(2001)}, impl.JudgeNone}, {all(), impl.Ask{From: a(impl.MaxBytes)}, impl.JudgeAllow},
		{all(), impl.Ask{From: a(impl.MaxBytes + 1)}, impl.JudgeNone}, {[]impl.Statement{denies("*", "*", "*")}, impl.Ask{From: a(impl.MaxBytes + 1)}, impl.JudgeNone}, {all(), impl.Ask{Who: a(impl.MaxBytes + 1)}, impl.JudgeNone},
		{[]impl.Statement{allows("b,*a,c", "x,a", "a,y")}, impl.Ask{Who: "aa", What: "a", Which: "y"}, impl.JudgeAllow}, {[]impl.Statement{allows(strings.Repeat("b,", 19)+"a", "*", "*")}, impl.Ask{Who: "a"}, impl.JudgeAllow},
		{[]impl.Statement{allows("a", "b", "c")}, impl.Ask{Who: "b", What: "a", Which: "c"}, impl.JudgeNone}, {[]impl.Statement{allows("a", "b", "c")}, impl.Ask{Who: "a", What: "c", Which: "b"}, impl.JudgeNone},
		{[]impl.Statement{allows("a", "b", "c")}, impl.Ask{Who: "a", What: "b", Which: "c"}, impl.JudgeAllow}, {nil, impl.Ask{Who: "a"}, impl.JudgeNone},
		{append(all(), denies("*", "*", "*", ifAfter(5))), impl.Ask{Time: 5}, impl.JudgeAllow}, {append(all(), denies("*", "*", "*", ifAfter(5))), impl.Ask{Time: 6}, impl.JudgeDeny},
		{append(slices.Repeat(all(), 49), denies("*", "*", "*")), impl.Ask{}, impl.JudgeDeny}, {append([]impl.Statement{denies("*", "*", "*")}, slices.Repeat(all(), 49)...), impl.Ask{}, impl.JudgeDeny},
	} {
		if got := impl.Judge(edge.list, edge.ask); got != edge.want {
			t.Errorf("%d: %d, not %d", i, got, edge.want)
		}
	}
}

func TestP10JudgeByTheWords(t *testing.T) {
	x := newPolicies()
	var judged [3]int
	for range 40000 {
		list, ask := x.statements(5), x.ask()
		got, want := impl.Judge(list, ask), plainJudge(list, ask)
		if got != want {
			t.Fatalf("%v of %v: %d, not %d", ask, list, got, want)
		}
		judged[got]++
	}
	for i, n := range judged {
		if n < 2000 {
			t.Errorf("%d judged %d of 40000: the draw tells little", i, n)
		}
	}
}

// No ask is allowed that a statement which fits denies, nor one that none allows: whether one fits is told by a policy of
// that one alone.
func TestP10NothingIsAllowedThatIsDeniedOrThatNoneAllows(t *testing.T) {
	x := newPolicies()
	for range 20000 {
		list, ask := x.statements(5), x.ask()
		allowed, denied := false, false
		for i := range list {
			one := impl.Judge(list[i:i+1], ask)
			allowed = allowed || one == impl.JudgeAllow
			denied = denied || one == impl.JudgeDeny
			if one != impl.JudgeNone && one != list[i].Effect {
				t.Fatalf("%v of %v: %d", ask, list[i], one)
			}
		}
		got := impl.Judge(list, ask)
		if denied && got != impl.JudgeDeny || !denied && allowed && got != impl.JudgeAllow || !denied && !allowed && got != impl.JudgeNone {
			t.Fatalf("%v of %v: %d", ask, list, got)
		}
	}
}

func TestP10TheOrderOfStatementsPlaysNoPart(t *testing.T) {
	x := newPolicies()
	for range 5000 {
		list, ask := x.statements(7), x.ask()
		want := impl.Judge(list, ask)
		for range 4 {
			x.chance.Shuffle(len(list), func(i, k int) { list[i], list[k] = list[k], list[i] })
			if got := impl.Judge(list, ask); got != want {
				t.Fatalf("%v of %v: %d, not %d", ask, list, got, want)
			}
		}
		slices.Reverse(list)
		if got := impl.Judge(append(list, list...), ask); got != want {
			t.Fatalf("%v of %v twice: %d, not %d", ask, list, got, want)
		}
	}
}

// lentPolicy are statements, all of whose texts and lists the test can look into.
type lentPolicy struct {
	list  []impl.Statement
	was   []impl.Statement
	texts []*loan
	rooms [][]string
	held  [][]string
	ifs   [][]impl.Condition
	ahead [][]impl.Condition
}

func (l *lentPolicy) text(text string) string {
	lent := newLoan(text)
	l.texts = append(l.texts, lent)
	return lent.text()
}

func (l *lentPolicy) patterns(list []string) []string {
	var room []string
	for _, text := range list {
		room = append(room, l.text(text))
	}
	room = append(room, "room", "behind")
	l.rooms = append(l.rooms, room)
	l.held = append(l.held, slices.Clone(room))
	return room[:len(list)]
}

func (l *lentPolicy) conditions(list []impl.Condition) []impl.Condition {
	var room []impl.Condition
	for _, c := range list {
		c.Text = l.text(c.Text)
		room = append(room, c)
	}
	room = append(room, ifFrom("room"), ifPrefix("behind"))
	l.ifs = append(l.ifs, room)
	l.ahead = append(l.ahead, slices.Clone(room))
	return room[:len(list)]
}

func lendPolicy(list []impl.Statement) *lentPolicy {
	l := &lentPolicy{}
	for _, s := range list {
		l.list = append(l.list, impl.Statement{Effect: s.Effect, Who: l.patterns(s.Who), What: l.patterns(s.What), Which: l.patterns(s.Which), Ifs: l.conditions(s.Ifs)})
	}
	l.list = append(l.list, allows("room", "behind", "it"), denies("*", "*", "*"))
	l.was = slices.Clone(l.list)
	return l
}

// statements are those that were lent, with room behind them.
func (l *lentPolicy) statements() []impl.Statement {
	return l.list[:len(l.list)-2]
}

func (l *lentPolicy) kept() bool {
	for _, text := range l.texts {
		if !text.kept() {
			return false
		}
	}
	return slices.EqualFunc(l.list, l.was, sameStatement) && slices.EqualFunc(l.rooms, l.held, slices.Equal) && slices.EqualFunc(l.ifs, l.ahead, slices.Equal)
}

// spoil changes all that was lent.
func (l *lentPolicy) spoil() {
	for _, text := range l.texts {
		text.spoil()
	}
	for _, room := range l.rooms {
		spoilPatterns(room)
	}
	for _, room := range l.ifs {
		spoilConditions(room)
	}
	for i := range l.list {
		l.list[i] = impl.Statement{Effect: -1}
	}
}

// spoilPatterns and spoilConditions change all of a list, the room behind it included.
func spoilPatterns(list []string) {
	list = list[:cap(list)]
	for i := range list {
		list[i] = "spoiled"
	}
}

func spoilConditions(list []impl.Condition) {
	list = list[:cap(list)]
	for i := range list {
		list[i] = impl.Condition{Kind: -1, Text: "spoiled"}
	}
}

func TestP10WhatIsReadIsNewMemory(t *testing.T) {
	x := newPolicies()
	for i := range 500 {
		list := x.statements(5)
		if len(list) > 1 {
			list[1] = list[0]
		}
		lent := newLoan(plainWritten(list))
		got := impl.ReadPolicy(lent.text())
		if !lent.kept() {
			t.Fatalf("%d: ReadPolicy wrote into its argument", i)
		}
		lent.spoil()
		if !samePolicy(got, impl.PolicyResult{Statements: list}) {
			t.Fatalf("%d: the answer shares memory with the argument", i)
		}
		for k, s := range got.Statements {
			for n, pair := range [][2][]string{{s.Who, list[k].Who}, {s.What, list[k].What}, {s.Which, list[k].Which}} {
				if !slices.Equal(pair[0], pair[1]) {
					t.Fatalf("%d: list %d of statement %d shares memory with one ahead of it", i, n, k)
				}
				spoilPatterns(pair[0])
			}
			if !slices.Equal(s.Ifs, list[k].Ifs) {
				t.Fatalf("%d: the conditions of statement %d share memory with others", i, k)
			}
			spoilConditions(s.Ifs)
		}
	}
}

func TestP10NothingThatIsLentIsWrittenOrShared(t *testing.T) {
	x := newPolicies()
	for i := range 500 {
		list, ask := x.statements(5), x.ask()
		want, judged := plainWritten(list), plainJudge(list, ask)
		lent := lendPolicy(list)
		texts := []*loan{newLoan(ask.Who), newLoan(ask.What), newLoan(ask.Which), newLoan(ask.From)}
		ask.Who, ask.What, ask.Which, ask.From = texts[0].text(), texts[1].text(), texts[2].text(), texts[3].text()
		text := impl.WritePolicy(lent.statements())
		fault := impl.PolicyFault(lent.statements())
		got := impl.Judge(lent.statements(), ask)
		fits := impl.GlobFits(texts[2].text(), texts[0].text())
		if !lent.kept() || !texts[0].kept() || !texts[1].kept() || !texts[2].kept() || !texts[3].kept() {
			t.Fatalf("%d: a call wrote into an argument", i)
		}
		if fault != impl.OK || got != judged || fits != plainGlob(ask.Which, ask.Who) {
			t.Fatalf("%d: fault %d, judged %d, %v", i, fault, got, fits)
		}
		lent.spoil()
		if text != want {
			t.Fatalf("%d: the text shares memory with an argument", i)
		}
	}
	lent := lendPolicy([]impl.Statement{allows("a", "b", "c"), {}, denies("a,b", "b", "c", ifAfter(5))})
	if impl.PolicyFault(lent.statements()) != impl.ErrForm || impl.WritePolicy(lent.statements()) != "" || impl.Judge(lent.statements(), impl.Ask{}) != impl.JudgeNone || !lent.kept() {
		t.Errorf("with a fault")
	}
}

func TestP10NoCallOfPoliciesPanics(t *testing.T) {
	x := newPolicies()
	numbers := []int64{math.MinInt64, -1, 0, 1, 2, 3, 4, 5, impl.MaxTime, impl.MaxTime + 1, math.MaxInt64}
	number := func() int64 { return numbers[x.chance.Intn(len(numbers))] }
	texts := []string{"", "*", "a", "?", "a,b", "**", " ", "\n", "\x00", "\xff\xfe", strings.Repeat("*a", 100), strings.Repeat("a", 2000), strings.Repeat("a", 2001), strings.Repeat("t", impl.MaxBytes+1)}
	text := func() string { return texts[x.chance.Intn(len(texts))] }
	list := func() []string {
		var list []string
		for range x.chance.Intn(3) {
			list = append(list, text())
		}
		return list
	}
	bits := []string{" ", "\n", ",", "allow", "deny", "who", "do", "on", "prefix", "before", "after", "from", "5", "a", "*", "", "99999999999", "\x00", "\xff"}
	for i := range 20000 {
		var statements []impl.Statement
		for range x.chance.Intn(3) {
			s := impl.Statement{Effect: number(), Who: list(), What: list(), Which: list()}
			if i%2 == 0 {
				s = x.statement()
			}
			for range x.chance.Intn(3) {
				s.Ifs = append(s.Ifs, impl.Condition{Kind: number(), Text: text(), Time: number()})
			}
			statements = append(statements, s)
		}
		ask := impl.Ask{Who: text(), What: text(), Which: text(), From: text(), Time: number()}
		policy := ""
		for range x.chance.Intn(30) {
			policy += bits[x.chance.Intn(len(bits))] + x.of(" ", 0, 1)
		}
		noPanic(t, "GlobFits", func() { impl.GlobFits(text(), text()) })
		noPanic(t, "ReadPolicy", func() { impl.ReadPolicy(policy) })
		noPanic(t, "ReadPolicy of text", func() { impl.ReadPolicy(text() + policy) })
		noPanic(t, "WritePolicy", func() { impl.WritePolicy(statements) })
		noPanic(t, "PolicyFault", func() { impl.PolicyFault(statements) })
		noPanic(t, "Judge", func() { impl.Judge(statements, ask) })
		if got, want := impl.Judge(statements, ask), plainJudge(statements, ask); got != want && len(ask.From) <= impl.MaxBytes {
			t.Fatalf("%.200v of %.200v: %d, not %d", ask, statements, got, want)
		}
	}
}

// The patterns over which a search that goes back to every star would take for ever, and as many of them as there can be.
func TestP10TheGreatestCallsEnd(t *testing.T) {
	text := strings.Repeat("a", 2000)
	slow := []string{strings.Repeat("*a", 99) + "*b", strings.Repeat("a*", 99) + "b", strings.Repeat("*?a", 66) + "*b", "*" + strings.Repeat("a", 198) + "b", strings.Repeat("*", 99) + strings.Repeat("a", 100) + "b", strings.Repeat("*aaaa", 39) + "*b"}
	for _, pattern := range slow {
		if impl.GlobFits(pattern, text) {
			t.Errorf("%q fits", pattern)
		}
	}
	var list []string
	for i := range impl.MaxList - 1 {
		list = append(list, slow[i%len(slow)])
	}
	list = append(list, "*")
	s := impl.Statement{Effect: impl.EffectAllow, Who: list, What: list, Which: list}
	for range 10 {
		s.Ifs = append(s.Ifs, ifFrom(strings.Repeat("*a", 100)))
	}
	got := impl.Judge(slices.Repeat([]impl.Statement{s}, impl.MaxStatements), impl.Ask{Who: text, What: text, Which: text, From: text})
	if got != impl.JudgeAllow {
		t.Errorf("judged %d", got)
	}
	if got := impl.PolicyFault(slices.Repeat([]impl.Statement{s}, 100000)); got != impl.ErrForm {
		t.Errorf("fault %d", got)
	}
	if got := impl.ReadPolicy("allow who " + strings.Repeat(",", 9000)); got.Code != impl.ErrSyntax || got.Line != 1 {
		t.Errorf("%v", got)
	}
}
