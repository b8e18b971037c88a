package tests

import (
	"fmt"
	"math"
	"math/rand"
	"regexp"
	"slices"
	"sort"
	"strconv"
	"strings"
	"testing"

	"loop.example/g00020/impl"
)

// pairsOf makes pairs of names and values in turn.
func pairsOf(words ...string) []impl.Pair {
	var pairs []impl.Pair
	for i := 0; i < len(words); i += 2 {
		pairs = append(pairs, impl.Pair{Name: words[i], Value: words[i+1]})
	}
	return pairs
}

// manyPairs are as many as asked for, all different, none with a name that is kept for signing.
func manyPairs(n int) []impl.Pair {
	var pairs []impl.Pair
	for i := range n {
		pairs = append(pairs, impl.Pair{Name: "n" + strconv.Itoa(i), Value: "v" + strconv.Itoa(i)})
	}
	return pairs
}

// namesOf are the names of the first pairs.
func namesOf(pairs []impl.Pair, n int) []string {
	var names []string
	for _, p := range pairs[:n] {
		names = append(names, p.Name)
	}
	return names
}

func times(text string, n int) string { return strings.Repeat(text, n) }

func sameRequest(a, b impl.Request) bool {
	return a.Method == b.Method && a.Path == b.Path && slices.Equal(a.Query, b.Query) && slices.Equal(a.Headers, b.Headers) && a.Body == b.Body
}

func isNoRequest(r impl.Request) bool {
	return sameRequest(r, impl.Request{})
}

func sameRequestRead(a, b impl.RequestRead) bool {
	return a.Code == b.Code && a.Line == b.Line && a.Next == b.Next && sameRequest(a.Request, b.Request)
}

// isOnlyReadCode tells whether an answer has its code and line and nothing else.
func isOnlyReadCode(got impl.RequestRead, code, line int64) bool {
	return sameRequestRead(got, impl.RequestRead{Code: code, Line: line})
}

// The document's words as forms.
var (
	escapedForm     = regexp.MustCompile(`^(?:[A-Za-z0-9_./-]|%[0-9A-F][0-9A-F])*$`)
	escapedByte     = regexp.MustCompile(`%..`)
	methodForm      = regexp.MustCompile(`^[A-Z]{1,10}$`)
	headerNameForm  = regexp.MustCompile(`^[a-z0-9-]{1,60}$`)
	headerValueForm = regexp.MustCompile(`^(?:[\x21-\x7e](?:[\x20-\x7e]{0,998}[\x21-\x7e])?)?$`)
	firstLineForm   = regexp.MustCompile(`^([A-Z]+) (/[^ ?]*)(?:\?([^ ?]+))?$`)
	headerForm      = regexp.MustCompile(`^([a-z0-9-]+): (.*)$`)
	lengthForm      = regexp.MustCompile(`^length: (0|[1-9][0-9]{0,5})$`)
	idForm          = regexp.MustCompile(`^[a-z0-9]{1,40}$`)
)

func plainEscape(text string) string {
	var out strings.Builder
	for _, b := range []byte(text) {
		if strings.IndexByte("ABCDEFGHIJKLMNOPQRSTUVWXYZabcdefghijklmnopqrstuvwxyz0123456789-_./", b) >= 0 {
			out.WriteByte(b)
		} else {
			fmt.Fprintf(&out, "%%%02X", b)
		}
	}
	return out.String()
}

func plainUnEscape(text string) impl.TextRead {
	if !escapedForm.MatchString(text) {
		return impl.TextRead{}
	}
	out := escapedByte.ReplaceAllStringFunc(text, func(word string) string {
		n, _ := strconv.ParseUint(word[1:], 16, 8)
		return string([]byte{byte(n)})
	})
	if plainEscape(out) != text {
		return impl.TextRead{}
	}
	return impl.TextRead{Good: true, Text: out, Next: int64(len(text))}
}

func plainNamesDiffer(pairs []impl.Pair) bool {
	for i, p := range pairs {
		for _, q := range pairs[:i] {
			if p.Name == q.Name {
				return false
			}
		}
	}
	return true
}

func plainRight(r impl.Request) bool {
	if !methodForm.MatchString(r.Method) || r.Path == "" || r.Path[0] != '/' || len(r.Path) > 1000 || len(r.Query) > 30 || len(r.Headers) > 30 || len(r.Body) > 100000 {
		return false
	}
	for _, p := range r.Query {
		if len(p.Name) < 1 || len(p.Name) > 100 || len(p.Value) > 1000 {
			return false
		}
	}
	for _, p := range r.Headers {
		if !headerNameForm.MatchString(p.Name) || p.Name == "length" || !headerValueForm.MatchString(p.Value) {
			return false
		}
	}
	return plainNamesDiffer(r.Query) && plainNamesDiffer(r.Headers)
}

func plainQuery(pairs []impl.Pair) string {
	var words []string
	for _, p := range pairs {
		words = append(words, plainEscape(p.Name)+"="+plainEscape(p.Value))
	}
	return strings.Join(words, "&")
}

func plainFirstLine(r impl.Request) string {
	if len(r.Query) == 0 {
		return r.Method + " " + plainEscape(r.Path)
	}
	return r.Method + " " + plainEscape(r.Path) + "?" + plainQuery(r.Query)
}

// plainRequestText writes a request word by word, also one that is not right.
func plainRequestText(r impl.Request) string {
	text := plainFirstLine(r) + "\n"
	for _, p := range r.Headers {
		text += p.Name + ": " + p.Value + "\n"
	}
	return text + "length: " + strconv.Itoa(len(r.Body)) + "\n\n" + r.Body
}

// plainFirst reads a first line, which stands if it is right and would be written so again.
func plainFirst(line string) (impl.Request, bool) {
	parts := firstLineForm.FindStringSubmatch(line)
	if parts == nil {
		return impl.Request{}, false
	}
	r := impl.Request{Method: parts[1], Path: plainUnEscape(parts[2]).Text}
	if parts[3] != "" {
		for _, word := range strings.Split(parts[3], "&") {
			name, value, _ := strings.Cut(word, "=")
			r.Query = append(r.Query, impl.Pair{Name: plainUnEscape(name).Text, Value: plainUnEscape(value).Text})
		}
	}
	return r, plainRight(r) && plainFirstLine(r) == line
}

func plainRequestRead(data string, at int64) impl.RequestRead {
	if at < 0 || at > int64(len(data)) {
		return impl.RequestRead{Code: impl.ErrSyntax, Line: 1}
	}
	rest := data[at:]
	if len(rest) > 400000 {
		rest = rest[:400000]
	}
	var r impl.Request
	for line := int64(1); ; line++ {
		end := strings.Index(rest, "\n")
		if end < 0 {
			return impl.RequestRead{Code: impl.ErrSize}
		}
		text := rest[:end]
		rest = rest[end+1:]
		ok := true
		if line == 1 {
			r, ok = plainFirst(text)
		} else if parts := lengthForm.FindStringSubmatch(text); parts != nil {
			size, _ := strconv.Atoi(parts[1])
			return plainBody(r, rest, size, at, line)
		} else if parts := headerForm.FindStringSubmatch(text); parts != nil {
			r.Headers = append(r.Headers, impl.Pair{Name: parts[1], Value: parts[2]})
			ok = plainRight(r)
		} else {
			ok = false
		}
		if !ok {
			return impl.RequestRead{Code: impl.ErrSyntax, Line: line}
		}
	}
}

// plainBody reads what stands behind the line of the length.
func plainBody(r impl.Request, rest string, size int, at, line int64) impl.RequestRead {
	switch {
	case size > 100000:
		return impl.RequestRead{Code: impl.ErrSyntax, Line: line}
	case rest == "":
		return impl.RequestRead{Code: impl.ErrSize}
	case rest[0] != '\n':
		return impl.RequestRead{Code: impl.ErrSyntax, Line: line + 1}
	case len(rest)-1 < size:
		return impl.RequestRead{Code: impl.ErrSize}
	}
	r.Body = rest[1 : 1+size]
	return impl.RequestRead{Request: r, Next: at + int64(len(plainRequestText(r)))}
}

func plainHeader(r impl.Request, name string) (string, bool) {
	for _, p := range r.Headers {
		if p.Name == name {
			return p.Value, true
		}
	}
	return "", false
}

func plainCanonical(r impl.Request, signed []string) string {
	if !plainRight(r) || len(signed) > 30 {
		return ""
	}
	query := slices.Clone(r.Query)
	sort.Slice(query, func(i, k int) bool { return query[i].Name < query[k].Name })
	text := r.Method + "\n" + plainEscape(r.Path) + "\n" + plainQuery(query) + "\n"
	for _, name := range signed {
		value, _ := plainHeader(r, name)
		text += name + ":" + value + "\n"
	}
	return text + strconv.FormatInt(impl.SumOf(r.Body, 3), 10)
}

// plainSignable tells whether names of headers can be signed.
func plainSignable(r impl.Request, signed []string) bool {
	for i, name := range signed {
		if _, there := plainHeader(r, name); !there || slices.Contains(signed[:i], name) {
			return false
		}
	}
	return len(signed) <= 10
}

func plainSign(r impl.Request, k impl.AccessKey, signed []string, now, lasts int64) impl.Request {
	kept := slices.ContainsFunc(r.Query, func(p impl.Pair) bool { return len(p.Name) > 1 && p.Name[:2] == "x-" })
	if !plainRight(r) || kept || !idForm.MatchString(k.Id) || len(k.Secret) < 1 || len(k.Secret) > 100 || !plainSignable(r, signed) {
		return impl.Request{}
	}
	if now < 0 || now > 4102444800 || lasts < 0 || lasts > 4102444800 || len(r.Query) > 25 {
		return impl.Request{}
	}
	r.Query = append(slices.Clone(r.Query), pairsOf("x-id", k.Id, "x-from", fmt.Sprint(now), "x-lasts", fmt.Sprint(lasts), "x-signed", strings.Join(signed, ","))...)
	sum := impl.SumOf(k.Secret+"\n"+plainCanonical(r, signed), 9)
	r.Query = append(r.Query, impl.Pair{Name: "x-sum", Value: fmt.Sprint(sum)})
	return r
}

// plainCheck signs again with the key that counts and holds the sums against each other.
func plainCheck(r impl.Request, keys []impl.AccessKey, now int64) impl.SignCheck {
	own := len(r.Query) - 5
	if !plainRight(r) || own < 0 || len(keys) > 100 || !slices.Equal(namesOf(r.Query[own:], 5), []string{"x-id", "x-from", "x-lasts", "x-signed", "x-sum"}) {
		return impl.SignCheck{Code: impl.ErrForm}
	}
	id, sum := r.Query[own].Value, r.Query[own+4].Value
	from, err1 := strconv.ParseInt(r.Query[own+1].Value, 10, 64)
	lasts, err2 := strconv.ParseInt(r.Query[own+2].Value, 10, 64)
	var signed []string
	if r.Query[own+3].Value != "" {
		signed = strings.Split(r.Query[own+3].Value, ",")
	}
	unsigned := r
	unsigned.Query = r.Query[:own:own]
	again := plainSign(unsigned, impl.AccessKey{Id: id, Secret: "s"}, signed, from, lasts)
	number, err3 := strconv.ParseInt(sum, 10, 64)
	if err1 != nil || err2 != nil || err3 != nil || isNoRequest(again) || !slices.Equal(again.Query[:own+4], r.Query[:own+4]) || fmt.Sprint(number) != sum || number < 0 || number >= 2147483647 {
		return impl.SignCheck{Code: impl.ErrForm}
	}
	for _, k := range keys {
		if k.Id != id {
			continue
		}
		again := plainSign(unsigned, k, signed, from, lasts)
		if isNoRequest(again) || again.Query[own+4].Value != sum {
			return impl.SignCheck{Code: impl.ErrSum}
		}
		if now < from || now > from+lasts {
			return impl.SignCheck{Code: impl.ErrLate}
		}
		return impl.SignCheck{Id: id}
	}
	return impl.SignCheck{Code: impl.ErrNone}
}

// requests draws requests, of few letters so that they meet.
type requests struct {
	chance *rand.Rand
}

func newRequests() *requests {
	return &requests{chance: rand.New(rand.NewSource(10))}
}

func (x *requests) of(letters string, least, most int) string {
	text := make([]byte, least+x.chance.Intn(most-least+1))
	for i := range text {
		text[i] = letters[x.chance.Intn(len(letters))]
	}
	return string(text)
}

// bytes draws any bytes, or signs of several bytes each.
func (x *requests) bytes(most int) string {
	text := ""
	for size := x.chance.Intn(most + 1); len(text) < size; {
		if x.chance.Intn(4) == 0 {
			text += string(rune(x.chance.Intn(0x11000)))
		} else {
			text += string([]byte{byte(x.chance.Intn(256))})
		}
	}
	return text[:min(len(text), most)]
}

// pairs draws pairs, whose names are all different.
func (x *requests) pairs(most int, name, value func() string) []impl.Pair {
	var pairs []impl.Pair
	for range x.chance.Intn(most + 1) {
		p := impl.Pair{Name: name(), Value: value()}
		if p.Name != "" && p.Name != "length" && !slices.ContainsFunc(pairs, func(q impl.Pair) bool { return q.Name == p.Name }) {
			pairs = append(pairs, p)
		}
	}
	return pairs
}

func (x *requests) queryName() string {
	if x.chance.Intn(2) == 0 {
		return x.of("ab~!&=x", 1, 3)
	}
	return x.bytes(5)
}

func (x *requests) headerValue() string {
	return strings.Trim(x.of("ab: ,~!  %", 0, 6), " ")
}

// request draws a right one.
func (x *requests) request(most int) impl.Request {
	r := impl.Request{Method: x.of("GETPUT", 1, 10), Path: "/" + x.of("ab/ ", 0, 3) + x.bytes(4), Body: x.bytes(6)}
	r.Query = x.pairs(most, x.queryName, func() string { return x.bytes(4) })
	r.Headers = x.pairs(most, func() string { return x.of("ab-0", 1, 3) }, x.headerValue)
	return r
}

// unsigned draws a right request that can be signed.
func (x *requests) unsigned() impl.Request {
	r := x.request(5)
	r.Query = slices.DeleteFunc(r.Query, func(p impl.Pair) bool { return strings.HasPrefix(p.Name, "x-") })
	return r
}

// signed draws some names of a request's headers, in any order.
func (x *requests) signed(r impl.Request) []string {
	names := namesOf(r.Headers, len(r.Headers))
	x.chance.Shuffle(len(names), func(i, k int) { names[i], names[k] = names[k], names[i] })
	return names[:x.chance.Intn(len(names)+1)]
}

func (x *requests) key() impl.AccessKey {
	return impl.AccessKey{Id: x.of("ab0", 1, 2), Secret: "s" + x.bytes(9)}
}

func TestP11LimitsAreTheDocuments(t *testing.T) {
	if impl.MaxPath != 1000 || impl.MaxHeaders != 30 {
		t.Errorf("%d, %d", impl.MaxPath, impl.MaxHeaders)
	}
}

func TestP11EscapesAsKnown(t *testing.T) {
	for _, known := range [][2]string{
		{"", ""}, {"a", "a"}, {"azAZ09-_./", "azAZ09-_./"}, {" ", "%20"}, {"%", "%25"}, {"%41", "%2541"}, {"a b", "a%20b"}, {"a+b", "a%2Bb"}, {"?&=:", "%3F%26%3D%3A"},
		{"\n", "%0A"}, {"\x00\x7f\x80\xff", "%00%7F%80%FF"}, {"é", "%C3%A9"}, {"\xe9", "%E9"}, {"€x", "%E2%82%ACx"}, {"\xe2\x82x", "%E2%82x"}, {"\xc3a\xa9", "%C3a%A9"},
		{"@[`{,~*'()!", "%40%5B%60%7B%2C%7E%2A%27%28%29%21"}, {"\ufffd", "%EF%BF%BD"}, {"ab\U0001f600", "ab%F0%9F%98%80"}, {"\u0130\u212a", "%C4%B0%E2%84%AA"},
	} {
		if got := impl.Escape(known[0]); got != known[1] {
			t.Errorf("%q: %q, not %q", known[0], got, known[1])
		}
		if got := impl.UnEscape(known[1]); got != (impl.TextRead{Good: true, Text: known[0], Next: int64(len(known[1]))}) {
			t.Errorf("%q: %v", known[1], got)
		}
		if plainEscape(known[0]) != known[1] || plainUnEscape(known[1]).Text != known[0] {
			t.Errorf("the test's own: %q", known[0])
		}
	}
}

func checkEscape(t *testing.T, text string) {
	t.Helper()
	got := impl.Escape(text)
	if want := plainEscape(text); got != want {
		t.Fatalf("%q: %q, not %q", text, got, want)
	}
	if back := impl.UnEscape(got); back != (impl.TextRead{Good: true, Text: text, Next: int64(len(got))}) {
		t.Fatalf("%q back: %v", got, back)
	}
}

func TestP11EveryByteIsEscapedAndBack(t *testing.T) {
	all := ""
	for i := range 256 {
		all += string([]byte{byte(i)})
		for k := range 256 {
			checkEscape(t, string([]byte{byte(i), byte(k)}))
		}
	}
	for i := range all {
		checkEscape(t, all[i:i+1])
	}
	checkEscape(t, all)
	checkEscape(t, all+all)
}

func TestP11EscapesByTheWords(t *testing.T) {
	x := newRequests()
	good := 0
	for range 20000 {
		checkEscape(t, x.bytes(20))
		text := x.of("ab%%%012AFaf ", 0, 6)
		if x.chance.Intn(2) == 0 {
			text = impl.Escape(x.bytes(4))
			at := x.chance.Intn(len(text) + 1)
			text = text[:at] + x.of("a%2F ", 0, 2) + text[at:]
		}
		got, want := impl.UnEscape(text), plainUnEscape(text)
		if got != want {
			t.Fatalf("%q: %v, not %v", text, got, want)
		}
		if got.Good {
			good++
		}
	}
	if good < 2000 || good > 18000 {
		t.Errorf("%d good of 20000: the draw tells little", good)
	}
}

func TestP11EscapesAtTheEdges(t *testing.T) {
	for _, text := range []string{times("a", impl.MaxBytes), times(" ", 33333) + "a", "a" + times("\xff", 33333), times("é", 16666) + "ab"} {
		got := impl.Escape(text)
		if back := impl.UnEscape(got); len(got) > impl.MaxBytes || back != (impl.TextRead{Good: true, Text: text, Next: int64(len(got))}) {
			t.Errorf("%d bytes of %.9q: %v, %d", len(text), text, back.Good, back.Next)
		}
	}
	longer := impl.Escape(times(" ", 33333) + "aa")
	if len(longer) != impl.MaxBytes+1 || impl.UnEscape(longer) != (impl.TextRead{}) || impl.UnEscape(times("a", impl.MaxBytes+1)) != (impl.TextRead{}) {
		t.Error("a writing of one byte more than MaxBytes")
	}
	if impl.Escape(times("\n", impl.MaxBytes)) != times("%0A", impl.MaxBytes) {
		t.Error("the longest text")
	}
	if impl.Escape(times("a", impl.MaxBytes+1)) != "" || impl.Escape(times(" ", impl.MaxBytes+1)) != "" {
		t.Error("a text that is too long")
	}
}

func TestP11WrongEscapes(t *testing.T) {
	for _, text := range []string{
		"%", "%2", "a%", "a%2", "%%", "%%25", "%2%", "%2%20", "%e9", "%E9%", "%eF", "%Ef", "%0a", "%0g", "%G0", "%g0", "% 0", "%0 ", "%-1", "%+1", "%41", "%61", "%30", "%2D", "%5F", "%2E", "%2F", "%7a", "%5a",
		" ", "+", "~", "a b", "é", "\xff", "\x00", "\n", "?", "&", "=", ":", ",", "a%20b ", "%u00e9", "%0x20", "%2541%41", "%25\n", "%\x00\x00", "%2\x00", "%20\xff", "%E2%82%ac",
	} {
		if got := impl.UnEscape(text); got != (impl.TextRead{}) {
			t.Errorf("%q: %v", text, got)
		}
	}
	for i := range 256 {
		for k := range 256 {
			text := "%" + string([]byte{byte(i), byte(k)})
			if got := impl.UnEscape(text); got != plainUnEscape(text) || got.Good != (impl.Escape(got.Text) == text) {
				t.Fatalf("%q: %v", text, got)
			}
		}
	}
}

// get is a small right request.
func get() impl.Request {
	return impl.Request{Method: "GET", Path: "/"}
}

func withQuery(pairs ...impl.Pair) impl.Request {
	r := get()
	r.Query = pairs
	return r
}

func withHeaders(pairs ...impl.Pair) impl.Request {
	r := get()
	r.Headers = pairs
	return r
}

// greatest is the request with the longest writing that a right one can have.
func greatest() impl.Request {
	r := impl.Request{Method: times("Z", 10), Path: "/" + times("\xff", impl.MaxPath-1), Body: times("\x00\n", impl.MaxBytes/2)}
	for i := range impl.MaxHeaders {
		r.Query = append(r.Query, impl.Pair{Name: string([]byte{byte(200 + i)}) + times("&", 99), Value: times("=", 1000)})
		r.Headers = append(r.Headers, impl.Pair{Name: fmt.Sprintf("%02d", i) + times("-", 58), Value: times("~", 1000)})
	}
	return r
}

func rightRequests() map[string]impl.Request {
	return map[string]impl.Request{
		"a small one":                              get(),
		"a method of 1 letter":                     {Method: "A", Path: "/"},
		"a method of 10 letters":                   {Method: "ABCDEFWXYZ", Path: "/"},
		"a path of MaxPath bytes":                  {Method: "GET", Path: "/" + times("a", impl.MaxPath-1)},
		"a path of any bytes":                      {Method: "GET", Path: "/ ?#&=%\n\r\x00\xff//../é"},
		"a path of MaxPath bytes that are escaped": {Method: "GET", Path: "/" + times(" ", impl.MaxPath-1)},
		"MaxHeaders pairs of query":                withQuery(manyPairs(impl.MaxHeaders)...),
		"MaxHeaders headers":                       withHeaders(manyPairs(impl.MaxHeaders)...),
		"names of query of 1 and of 100 bytes":     withQuery(pairsOf("a", "", times("a", 100), "", "\n", "\n", times("\xff", 100), "\x00")...),
		"values of query of 0 and of 1000 bytes":   withQuery(pairsOf("a", "", "b", times("v", 1000), "c", times(" ", 1000))...),
		"names of query that look alike":           withQuery(pairsOf("a", "1", "A", "1", "a ", "1", " a", "1", "a\x00", "1", "length", "1", "a=b", "c&d=e", "?", "?", "x-id", "1", "x-sum", "")...),
		"names of headers of 1 and of 60 bytes":    withHeaders(pairsOf("a", "", "-", "", "0", "", times("z", 60), "", times("-9", 30), "")...),
		"names of headers that look like length":   withHeaders(pairsOf("lengt", "1", "lengths", "2", "length-", "3", "-length", "4", "x-length", "5")...),
		"values of headers of 0 and of 1000 bytes": withHeaders(pairsOf("a", "", "b", times("v", 1000), "c", "v"+times(" ", 998)+"v", "d", times("~", 1000))...),
		"values of headers with bytes 32 and 126":  withHeaders(pairsOf("a", "~ ~", "b", "a  b", "c", "~", "d", "f: g")...),
		"values of headers that are like lines":    withHeaders(pairsOf("a", "length: 3", "b", ":", "c", ": x", "d", "GET /", "e", "%20")...),
		"empty lists":                              {Method: "GET", Path: "/", Query: []impl.Pair{}, Headers: []impl.Pair{}},
		"the longest body":                         {Method: "PUT", Path: "/a", Body: times("\xff", impl.MaxBytes)},
		"a body that is like a request":            {Method: "PUT", Path: "/a", Body: "GET / \nlength: 0\n\n"},
		"a body of line ends":                      {Method: "PUT", Path: "/a", Body: "\n\n"},
		"all of it":                                {Method: "PUT", Path: "/a b", Query: pairsOf("z", "1", "a", "&"), Headers: pairsOf("h", "v: w"), Body: "xy"},
		"the greatest one":                         greatest(),
	}
}

func TestP11RightRequestsAreWrittenAndReadAgain(t *testing.T) {
	for name, r := range rightRequests() {
		text := impl.WriteRequest(r)
		if !plainRight(r) || impl.RequestFault(r) != impl.OK || text != plainRequestText(r) {
			t.Errorf("%s: %d, %.200q", name, impl.RequestFault(r), text)
		}
		for _, around := range [][2]string{{"", ""}, {"", "x"}, {"?", "\n"}, {"\n\n", text}, {text, ""}, {text, text}, {times("-", 4*impl.MaxBytes), times("-", 4*impl.MaxBytes)}} {
			got := impl.ReadRequest(around[0]+text+around[1], int64(len(around[0])))
			if !sameRequestRead(got, impl.RequestRead{Request: r, Next: int64(len(around[0]) + len(text))}) {
				t.Errorf("%s behind %d and ahead of %d bytes: %d, %d, %d", name, len(around[0]), len(around[1]), got.Code, got.Line, got.Next)
			}
		}
	}
}

func wrongRequests() map[string]impl.Request {
	a := func(n int) string { return times("a", n) }
	return map[string]impl.Request{
		"the zero value":                      {},
		"an empty method":                     {Path: "/"},
		"a method of 11 letters":              {Method: times("A", 11), Path: "/"},
		"a method of small letters":           {Method: "get", Path: "/"},
		"a method with one small letter":      {Method: "GEt", Path: "/"},
		"a method with a space":               {Method: "G T", Path: "/"},
		"a method with a digit":               {Method: "GET2", Path: "/"},
		"a method with the sign ahead of A":   {Method: "GET@", Path: "/"},
		"a method with the sign behind Z":     {Method: "GET[", Path: "/"},
		"a method with a line end":            {Method: "GET\n", Path: "/"},
		"a method with a letter of two bytes": {Method: "GÉT", Path: "/"},
		"a method of broken signs":            {Method: "GET\xff", Path: "/"},
		"a method that is far too long":       {Method: times("A", impl.MaxBytes+1), Path: "/"},
		"an empty path":                       {Method: "GET"},
		"a path without a slash":              {Method: "GET", Path: "a"},
		"a path with a slash further on":      {Method: "GET", Path: "a/"},
		"a path of MaxPath + 1 bytes":         {Method: "GET", Path: "/" + a(impl.MaxPath)},
		"a path that is far too long":         {Method: "GET", Path: "/" + a(impl.MaxBytes)},
		"MaxHeaders + 1 pairs of query":       withQuery(manyPairs(impl.MaxHeaders + 1)...),
		"a name of query twice":               withQuery(pairsOf("a", "1", "b", "2", "a", "3")...),
		"a name of query twice, one value":    withQuery(pairsOf("a", "1", "a", "1")...),
		"an empty name of query":              withQuery(pairsOf("", "1")...),
		"a name of query of 101 bytes":        withQuery(pairsOf(a(101), "1")...),
		"a value of query of 1001 bytes":      withQuery(pairsOf("a", a(1001))...),
		"a last pair of query that is wrong":  withQuery(append(manyPairs(29), pairsOf("", "")...)...),
		"a value that is far too long":        withQuery(pairsOf("a", a(impl.MaxBytes+1))...),
		"MaxHeaders + 1 headers":              withHeaders(manyPairs(impl.MaxHeaders + 1)...),
		"a header twice":                      withHeaders(pairsOf("a", "1", "b", "2", "a", "3")...),
		"an empty name of a header":           withHeaders(pairsOf("", "1")...),
		"a header's name of 61 bytes":         withHeaders(pairsOf(a(61), "1")...),
		"a header's name with a capital":      withHeaders(pairsOf("Host", "1")...),
		"a header's name with a colon":        withHeaders(pairsOf("a:", "1")...),
		"a header's name with a space":        withHeaders(pairsOf("a b", "1")...),
		"a header's name with _":              withHeaders(pairsOf("a_b", "1")...),
		"a header's name with .":              withHeaders(pairsOf("a.b", "1")...),
		"a header's name with `":              withHeaders(pairsOf("a`", "1")...),
		"a header's name with {":              withHeaders(pairsOf("a{", "1")...),
		"a header's name with a line end":     withHeaders(pairsOf("a\n", "1")...),
		"a header's name of two bytes":        withHeaders(pairsOf("é", "1")...),
		"a header named length":               withHeaders(pairsOf("length", "0")...),
		"a last header named length":          withHeaders(pairsOf("a", "1", "length", "")...),
		"a value of a header of 1001 bytes":   withHeaders(pairsOf("a", a(1001))...),
		"a value with a space in front":       withHeaders(pairsOf("a", " x")...),
		"a value with a space at its end":     withHeaders(pairsOf("a", "x ")...),
		"a value of one space":                withHeaders(pairsOf("a", " ")...),
		"a value of a header with byte 31":    withHeaders(pairsOf("a", "x\x1fx")...),
		"a value of a header with byte 127":   withHeaders(pairsOf("a", "x\x7fx")...),
		"a value of a header with a line end": withHeaders(pairsOf("a", "x\nx")...),
		"a value of a header with a tab":      withHeaders(pairsOf("a", "\t")...),
		"a value of a header with byte 128":   withHeaders(pairsOf("a", "x\x80")...),
		"a value of a header with é":          withHeaders(pairsOf("a", "é")...),
		"a body of MaxBytes + 1 bytes":        {Method: "GET", Path: "/", Body: a(impl.MaxBytes + 1)},
	}
}

func TestP11WrongRequests(t *testing.T) {
	key := impl.AccessKey{Id: "ann", Secret: "s"}
	for name, r := range wrongRequests() {
		if plainRight(r) || impl.RequestFault(r) != impl.ErrForm || impl.WriteRequest(r) != "" || impl.Canonical(r, nil) != "" {
			t.Errorf("%s: %d", name, impl.RequestFault(r))
		}
		if !isNoRequest(impl.SignRequest(r, key, nil, 5, 5)) {
			t.Errorf("%s is signed", name)
		}
		r.Query = append(slices.Clone(r.Query), impl.SignRequest(get(), key, nil, 5, 5).Query...)
		if got := impl.CheckSigned(r, []impl.AccessKey{key}, 5); got != (impl.SignCheck{Code: impl.ErrForm}) {
			t.Errorf("%s, signed: %v", name, got)
		}
		// Written all the same, it is read as no request that is wrong.
		if got := impl.ReadRequest(plainRequestText(r), 0); got.Code == impl.OK && sameRequest(got.Request, r) {
			t.Errorf("%s is read", name)
		}
	}
}

func TestP11RequestsAsKnown(t *testing.T) {
	for _, known := range []struct {
		r    impl.Request
		text string
	}{
		{get(), "GET /\nlength: 0\n\n"},
		{impl.Request{Method: "PUT", Path: "/a b", Body: "xy\n"}, "PUT /a%20b\nlength: 3\n\nxy\n"},
		{withQuery(pairsOf("a", "")...), "GET /?a=\nlength: 0\n\n"},
		{withQuery(pairsOf("z", "1", "a&b", "c=d", "?", "/")...), "GET /?z=1&a%26b=c%3Dd&%3F=/\nlength: 0\n\n"},
		{withHeaders(pairsOf("z", "", "a", "b: c")...), "GET /\nz: \na: b: c\nlength: 0\n\n"},
		{impl.Request{Method: "POST", Path: "/\xe9", Query: pairsOf("q", "é"), Headers: pairsOf("x-y", "~", "0", "1"), Body: times("b", 12)}, "POST /%E9?q=%C3%A9\nx-y: ~\n0: 1\nlength: 12\n\nbbbbbbbbbbbb"},
	} {
		if got := impl.WriteRequest(known.r); got != known.text || plainRequestText(known.r) != known.text {
			t.Errorf("%q, not %q", got, known.text)
		}
		want := impl.RequestRead{Request: known.r, Next: int64(len(known.text))}
		if got := impl.ReadRequest(known.text, 0); !sameRequestRead(got, want) || !sameRequestRead(plainRequestRead(known.text, 0), want) {
			t.Errorf("%q: %v", known.text, got)
		}
	}
}

func TestP11WhatIsWrittenIsReadBack(t *testing.T) {
	x := newRequests()
	for range 4000 {
		var list []impl.Request
		data := x.bytes(5)
		at := int64(len(data))
		for range 1 + x.chance.Intn(3) {
			list = append(list, x.request(4))
			data += impl.WriteRequest(list[len(list)-1])
		}
		end := int64(len(data))
		data += x.bytes(5)
		for i, r := range list {
			got := impl.ReadRequest(data, at)
			if !sameRequestRead(got, impl.RequestRead{Request: r, Next: at + int64(len(plainRequestText(r)))}) {
				t.Fatalf("%d of %v at %d of %q: %v", i, list, at, data, got)
			}
			at = got.Next
		}
		if at != end {
			t.Fatalf("%v ends at %d, not %d", list, at, end)
		}
	}
}

func TestP11FaultsByTheWords(t *testing.T) {
	x := newRequests()
	wrong := 0
	for range 20000 {
		r := x.request(4)
		switch x.chance.Intn(6) {
		case 0:
			r.Method = x.of("AZaz@[", 0, 4)
		case 1:
			r.Path = x.bytes(3)
		case 2:
			r.Query = append(r.Query, impl.Pair{Name: x.of("ab", 0, 1)})
		case 3:
			r.Headers = append(r.Headers, impl.Pair{Name: x.of("abL", 0, 1), Value: x.of(" a~\x1f\x7f", 0, 3)})
		case 4:
			r.Query, r.Headers = manyPairs(29+x.chance.Intn(3)), manyPairs(29+x.chance.Intn(3))
		}
		got := impl.RequestFault(r)
		if (got == impl.OK) != plainRight(r) || got != impl.OK && got != impl.ErrForm {
			t.Fatalf("%v: %d", r, got)
		}
		if got != impl.OK {
			wrong++
		}
		if text := impl.WriteRequest(r); (text == "") != (got != impl.OK) || got == impl.OK && text != plainRequestText(r) {
			t.Fatalf("%v: %q", r, text)
		}
	}
	if wrong < 3000 || wrong > 17000 {
		t.Errorf("%d wrong of 20000: the draw tells little", wrong)
	}
}

func TestP11DataThatEndAtEveryPlace(t *testing.T) {
	for _, name := range []string{"all of it", "a small one", "a body of line ends", "values of headers that are like lines", "names of query that look alike"} {
		text := impl.WriteRequest(rightRequests()[name])
		for end := range len(text) {
			for _, ahead := range []string{"", "ahead", text} {
				got := impl.ReadRequest(ahead+text[:end], int64(len(ahead)))
				if !isOnlyReadCode(got, impl.ErrSize, 0) {
					t.Errorf("%s, %d of %d bytes: %v", name, end, len(text), got)
				}
			}
		}
	}
	text := impl.WriteRequest(greatest())
	for end := 0; end < len(text); end += 997 {
		if got := impl.ReadRequest(text[:end], 0); !isOnlyReadCode(got, impl.ErrSize, 0) {
			t.Errorf("the greatest, %d bytes: %d, %d", end, got.Code, got.Line)
		}
	}
}

func TestP11PlacesOfData(t *testing.T) {
	text := impl.WriteRequest(get())
	for _, data := range []string{"", "x", text, text + text} {
		for _, at := range []int64{-1, -2, math.MinInt64, int64(len(data)) + 1, int64(len(data)) + 2, math.MaxInt64, math.MaxInt64 - 4*impl.MaxBytes + 1} {
			if got := impl.ReadRequest(data, at); !isOnlyReadCode(got, impl.ErrSyntax, 1) {
				t.Errorf("%q at %d: %v", data, at, got)
			}
		}
		if got := impl.ReadRequest(data, int64(len(data))); !isOnlyReadCode(got, impl.ErrSize, 0) {
			t.Errorf("%q at its end: %v", data, got)
		}
	}
	if got := impl.ReadRequest(text+text, int64(len(text))); !sameRequestRead(got, impl.RequestRead{Request: get(), Next: 2 * int64(len(text))}) {
		t.Errorf("at the end of another one: %v", got)
	}
	if got := impl.ReadRequest("x\ny\n"+text, 2); !isOnlyReadCode(got, impl.ErrSyntax, 1) {
		t.Errorf("lines are not counted from the place on: %v", got)
	}
}

// wrongFirstLines cannot stand first, whatever follows.
func wrongFirstLines() []string {
	a := func(n int) string { return times("a", n) }
	return []string{
		"", " ", "GET", "GET ", "/", " /", "get /", "Get /", "GET2 /", "ABCDEFGHIJK /", "GET  /", " GET /", "GET / ", "GET /a b", "GET /\r", "GET\t/", "GET a", "GET a/", "GET %2F", "GET ?a=b", "GET /%", "GET /%2", "GET /%61", "GET /%2f",
		"GET /%e9", "GET /~", "GET /é", "GET /\xff", "GET /\x00", "GET /" + a(1000), "GET /" + times("%20", 1000), "GET /" + a(200000), "GET /?", "GET /??", "GET /?a", "GET /?=", "GET /?=b", "GET /?a=b&", "GET /?&a=b", "GET /?a=b&&c=d",
		"GET /?a=b&c", "GET /?a=b=c", "GET /?a=b?c=d", "GET /?a==b", "GET /?a=b;c=d", "GET /?a=b c", "GET /?a =b", "GET /?a+=b", "GET /?%61=b", "GET /?a=%62", "GET /?a=%c3", "GET /?%=b", "GET /?a=%", "GET /?a=%4", "GET /?a=b&a=c",
		"GET /?a=b&b=c&a=b", "GET /?" + a(101) + "=b", "GET /?a=" + a(1001), "GET /?a=" + times("%20", 1001), "GET /?a=" + a(200000), "GET /#a", "GET /a=b", "GET /a&b", "GET /?" + plainQuery(manyPairs(31)), "GET /: b", "length: 0", "h: v",
		"GET /?" + times("a=b&", 50000) + "c=d", "GET / HTTP/1.1", "G\x00T /", "ÉT /",
	}
}

// wrongNextLines cannot stand behind a first line and the header a.
func wrongNextLines() []string {
	a := func(n int) string { return times("a", n) }
	return []string{
		"", " ", ":", ": ", ": v", "h", "h:", "h:v", "h :v", "h : v", " h: v", "h:  v", "h: v ", "h: ~ ", "h:  ", "h\t: v", "h:\tv", "h: \tv", "h: v\r", "h: v\x1fv", "h: v\x7f", "h: \x80", "h: é", "h: v\x00", "H: v", "h_: v", "h.: v", "h/: v",
		"h`: v", "h{: v", "h@: v", "%68: v", "é: v", "h:: v", "h;: v", "a: w", "a: v", "a: ", a(61) + ": v", "h: " + a(1001), "h: " + a(200000), a(200000), "GET /", "length", "length:", "length:0", "length: ", "length:  0", "length: 0 ", " length: 0",
		"length : 0", "Length: 0", "LENGTH: 0", "length: 00", "length: 01", "length: +1", "length: -0", "length: -1", "length: 0x0", "length: 1e1", "length: 1.0", "length: 1_0", "length: a", "length: 0\r", "length: 100001", "length: 1000000", "length: 4294967296",
		"length: 18446744073709551616", "length: 9223372036854775808", "length: " + times("9", 1000), "length: " + times("0", 200000), "length: 0 0", "length: ٣",
	}
}

func TestP11WrongLines(t *testing.T) {
	for _, behind := range []string{"", "x", "length: 0\n\n", "\n"} {
		for _, line := range wrongFirstLines() {
			if got := impl.ReadRequest(line+"\n"+behind, 0); !isOnlyReadCode(got, impl.ErrSyntax, 1) {
				t.Errorf("%.99q: %v", line, got)
			}
		}
		for _, line := range wrongNextLines() {
			got, later := impl.ReadRequest("GET /\na: v\n"+line+"\n"+behind, 0), impl.ReadRequest("..GET /\nb: v\na: v\nc: v\n"+line+"\n"+behind, 2)
			if !isOnlyReadCode(got, impl.ErrSyntax, 3) || !isOnlyReadCode(later, impl.ErrSyntax, 5) {
				t.Errorf("%.99q: %v, %v", line, got, later)
			}
		}
	}
	for _, line := range wrongFirstLines() {
		if got := impl.ReadRequest(line, 0); !isOnlyReadCode(got, impl.ErrSize, 0) {
			t.Errorf("%.99q without its end: %v", line, got)
		}
	}
	for _, line := range wrongNextLines() {
		if got := impl.ReadRequest("GET /\na: v\n"+line, 0); !isOnlyReadCode(got, impl.ErrSize, 0) {
			t.Errorf("%.99q without its end: %v", line, got)
		}
	}
}

// headerLines are lines of the first so many headers.
func headerLines(n int) string {
	text := ""
	for _, p := range manyPairs(n) {
		text += p.Name + ": " + p.Value + "\n"
	}
	return text
}

func TestP11LinesInTheirOrder(t *testing.T) {
	for i, known := range []struct {
		text string
		code int64
		line int64
	}{
		{"get /\nH: v\n", impl.ErrSyntax, 1}, {"GET /\nH: v\nlength: x\n", impl.ErrSyntax, 2}, {"GET /\nh: v\nlength: x\n", impl.ErrSyntax, 3}, {"GET /\n\n", impl.ErrSyntax, 2}, {"\nGET /\nlength: 0\n\n", impl.ErrSyntax, 1},
		{"GET /\nh: v\n\n", impl.ErrSyntax, 3}, {"GET /\nh: v\n\nlength: 0\n\n", impl.ErrSyntax, 3}, {"h: v\nGET /\nlength: 0\n\n", impl.ErrSyntax, 1}, {"length: 0\nGET /\n\n", impl.ErrSyntax, 1}, {"GET /\nGET /\nlength: 0\n\n", impl.ErrSyntax, 2},
		{"GET /\nlength: 0\nh: v\n\n", impl.ErrSyntax, 3}, {"GET /\nlength: 0\nlength: 0\n\n", impl.ErrSyntax, 3}, {"GET /\nlength: 0\n", impl.ErrSize, 0}, {"GET /\nlength: 0\n ", impl.ErrSyntax, 3}, {"GET /\nlength: 0\n\r\n", impl.ErrSyntax, 3},
		{"GET /\nh: v\nlength: 5\nx", impl.ErrSyntax, 4}, {"GET /\nlength: 1\n\n", impl.ErrSize, 0}, {"GET /\nlength: 2\n\n\n", impl.ErrSize, 0}, {"GET /\nlength: 1\nx", impl.ErrSyntax, 3}, {"GET /\nlength: 100000\n\n", impl.ErrSize, 0},
		{"GET /\nlength: 100001\n\n" + times("x", 100001), impl.ErrSyntax, 2}, {"GET /\nlength: 100001", impl.ErrSize, 0}, {"GET /\r\nlength: 0\r\n\r\n", impl.ErrSyntax, 1}, {"GET /\nh: v\nh: v\nlength: 0\n\n", impl.ErrSyntax, 3},
		{"GET /\n" + headerLines(31) + "length: 0\n\n", impl.ErrSyntax, 32}, {"GET /\n" + headerLines(31), impl.ErrSyntax, 32}, {"GET /\n" + headerLines(30) + "h: v", impl.ErrSize, 0}, {"GET /\n" + headerLines(30) + "\n", impl.ErrSyntax, 32},
		{"GET /\n" + headerLines(30) + "length: 0\nx", impl.ErrSyntax, 33}, {"GET /\n" + headerLines(30), impl.ErrSize, 0}, {"GET /?" + plainQuery(manyPairs(31)) + "\n", impl.ErrSyntax, 1}, {"GET /?" + plainQuery(manyPairs(30)) + "\n", impl.ErrSize, 0},
	} {
		got := impl.ReadRequest(known.text, 0)
		if !isOnlyReadCode(got, known.code, known.line) || !sameRequestRead(got, plainRequestRead(known.text, 0)) {
			t.Errorf("%d: %.99q: %v", i, known.text, got)
		}
	}
	// A length that is less than the bytes which follow is another request, with those behind it.
	if got := impl.ReadRequest("PUT /\nlength: 2\n\nxyz", 0); !sameRequestRead(got, impl.RequestRead{Request: impl.Request{Method: "PUT", Path: "/", Body: "xy"}, Next: 19}) {
		t.Errorf("%v", got)
	}
	if got := impl.ReadRequest("GET /\n"+headerLines(30)+"length: 0\n\n", 0); !sameRequest(got.Request, withHeaders(manyPairs(30)...)) {
		t.Errorf("%v", got)
	}
}

func TestP11OnlySoManyBytesAreLookedAt(t *testing.T) {
	most := 4 * impl.MaxBytes
	for _, ahead := range []string{"", "ahead\n", times("a\n", impl.MaxBytes)} {
		at := int64(len(ahead))
		if got := impl.ReadRequest(ahead+times("A", most-1)+"\n"+impl.WriteRequest(get()), at); !isOnlyReadCode(got, impl.ErrSyntax, 1) {
			t.Errorf("a line that ends just in time: %v", got)
		}
		if got := impl.ReadRequest(ahead+times("A", most)+"\n"+impl.WriteRequest(get()), at); !isOnlyReadCode(got, impl.ErrSize, 0) {
			t.Errorf("a line that ends too late: %v", got)
		}
		first := "GET /\nh: "
		if got := impl.ReadRequest(ahead+first+times("v", most-len(first)-1)+"\n", at); !isOnlyReadCode(got, impl.ErrSyntax, 2) {
			t.Errorf("a header that ends just in time: %v", got)
		}
		if got := impl.ReadRequest(ahead+first+times("v", most-len(first))+"\n", at); !isOnlyReadCode(got, impl.ErrSize, 0) {
			t.Errorf("a header that ends too late: %v", got)
		}
	}
}

// bent turns, puts in, takes out or doubles something of a text.
func (x *requests) bent(text string) string {
	bits := []string{"\n", " ", ": ", "length: 0\n", "%", "?", "&", "=", "a", "A", "0", "/", "a: b\n", "\r", "\xff", ""}
	at := x.chance.Intn(len(text) + 1)
	to := min(len(text), at+x.chance.Intn(3))
	if x.chance.Intn(4) == 0 {
		return text[:to] + text[at:]
	}
	return text[:at] + bits[x.chance.Intn(len(bits))] + text[to:]
}

func TestP11ReadByTheWords(t *testing.T) {
	x := newRequests()
	codes := map[int64]int{}
	for range 30000 {
		data := x.of("a\n", 0, 2)
		at := int64(len(data)) + int64(x.chance.Intn(20)/19)
		data += x.bent(plainRequestText(x.request(3)))
		if x.chance.Intn(2) == 0 {
			data = x.bent(data)
		}
		if x.chance.Intn(5) == 0 {
			data = data[:x.chance.Intn(len(data)+1)]
		} else {
			data += x.bytes(3)
		}
		got, want := impl.ReadRequest(data, at), plainRequestRead(data, at)
		if !sameRequestRead(got, want) {
			t.Fatalf("%q at %d: %v, not %v", data, at, got, want)
		}
		if got.Code == impl.OK && data[at:got.Next] != impl.WriteRequest(got.Request) {
			t.Fatalf("%q at %d is not what is written of %v", data, at, got)
		}
		codes[got.Code]++
	}
	if codes[impl.OK] < 3000 || codes[impl.ErrSyntax] < 3000 || codes[impl.ErrSize] < 1000 {
		t.Errorf("%v: the draw tells little", codes)
	}
}

func TestP12CanonicalAsKnown(t *testing.T) {
	r := impl.Request{Method: "PUT", Path: "/a b/\xe9", Query: pairsOf("z", "1", "~", "=", "a", "&"), Headers: pairsOf("host", "a: b", "x", ""), Body: "hello"}
	for _, known := range []struct {
		r      impl.Request
		signed []string
		want   string
	}{
		{get(), nil, "GET\n/\n\n4"}, {get(), []string{"a"}, "GET\n/\n\na:\n4"}, {r, nil, "PUT\n/a%20b/%E9\na=%26&z=1&%7E=%3D\n1306621097"},
		{r, []string{"x", "none", "host"}, "PUT\n/a%20b/%E9\na=%26&z=1&%7E=%3D\nx:\nnone:\nhost:a: b\n1306621097"},
		{r, []string{"host", "host", "", "Host", "\n\xff:"}, "PUT\n/a%20b/%E9\na=%26&z=1&%7E=%3D\nhost:a: b\nhost:a: b\n:\nHost:\n\n\xff::\n1306621097"},
	} {
		if got := impl.Canonical(known.r, known.signed); got != known.want || plainCanonical(known.r, known.signed) != known.want {
			t.Errorf("%q, not %q", got, known.want)
		}
	}
}

func TestP12CanonicalSortsByName(t *testing.T) {
	for _, known := range [][2]string{
		{"b a", "a= &b= "}, {"b B", "B= &b= "}, {"a- a!", "a%21= &a-= "}, {"~ z", "z= &~= "}, {"aa a", "a= &aa= "}, {"10 9 2", "10= &2= &9= "}, {"\xff é a", "a= &%C3%A9= &%FF= "}, {"a. a a/", "a= &a.= &a/= "}, {"a: a0", "a0= &a%3A= "},
	} {
		var pairs []impl.Pair
		for _, name := range strings.Split(known[0], " ") {
			pairs = append(pairs, impl.Pair{Name: name, Value: " "})
		}
		want := "GET\n/\n" + strings.ReplaceAll(strings.ReplaceAll(known[1], "~", "%7E"), " ", "%20") + "\n4"
		if got := impl.Canonical(withQuery(pairs...), nil); got != want {
			t.Errorf("%q: %q, not %q", known[0], got, want)
		}
		slices.Reverse(pairs)
		if got := impl.Canonical(withQuery(pairs...), nil); got != want {
			t.Errorf("%q, turned round: %q, not %q", known[0], got, want)
		}
	}
}

func TestP12CanonicalAtTheEdges(t *testing.T) {
	r := withHeaders(manyPairs(impl.MaxHeaders)...)
	names := namesOf(r.Headers, impl.MaxHeaders)
	if got := impl.Canonical(r, names); got == "" || got != plainCanonical(r, names) {
		t.Errorf("MaxHeaders signed: %q", got)
	}
	if got := impl.Canonical(r, append(slices.Clone(names), "n0")); got != "" {
		t.Errorf("MaxHeaders + 1 signed: %q", got)
	}
	if got := impl.Canonical(get(), slices.Repeat([]string{""}, impl.MaxHeaders)); got != "GET\n/\n\n"+times(":\n", impl.MaxHeaders)+"4" {
		t.Errorf("MaxHeaders empty names: %q", got)
	}
	if got := impl.Canonical(get(), []string{times("a", impl.MaxBytes)}); got != "GET\n/\n\n"+times("a", impl.MaxBytes)+":\n4" {
		t.Errorf("the longest name: %.99q", got)
	}
	if got := impl.Canonical(get(), []string{"a", times("a", impl.MaxBytes+1)}); got != "" {
		t.Errorf("a name that is too long: %.99q", got)
	}
	if got := impl.Canonical(greatest(), []string{"h"}); got != plainCanonical(greatest(), []string{"h"}) {
		t.Error("the greatest request")
	}
}

func TestP12CanonicalByTheWords(t *testing.T) {
	x := newRequests()
	for range 10000 {
		r := x.request(5)
		signed := x.signed(r)
		if x.chance.Intn(2) == 0 {
			signed = append(signed, x.of("ab-0A", 0, 2))
		}
		if got, want := impl.Canonical(r, signed), plainCanonical(r, signed); got != want {
			t.Fatalf("%v, %q: %q, not %q", r, signed, got, want)
		}
	}
}

func TestP12SignedAsKnown(t *testing.T) {
	r := impl.Request{Method: "PUT", Path: "/a b/\xe9", Query: pairsOf("z", "1", "~", "=", "a", "&"), Headers: pairsOf("host", "a: b", "x", ""), Body: "hello"}
	got := impl.SignRequest(r, impl.AccessKey{Id: "ann", Secret: "secret"}, []string{"x", "host"}, 1000, 60)
	want := r
	want.Query = pairsOf("z", "1", "~", "=", "a", "&", "x-id", "ann", "x-from", "1000", "x-lasts", "60", "x-signed", "x,host", "x-sum", "637253001")
	if !sameRequest(got, want) {
		t.Errorf("%v", got)
	}
	got = impl.SignRequest(get(), impl.AccessKey{Id: "a", Secret: "s"}, nil, 0, 0)
	if !sameRequest(got, withQuery(pairsOf("x-id", "a", "x-from", "0", "x-lasts", "0", "x-signed", "", "x-sum", "1423571917")...)) {
		t.Errorf("%v", got)
	}
}

func TestP12SignedByTheWords(t *testing.T) {
	x := newRequests()
	for range 10000 {
		r, k := x.request(5), x.key()
		signed := x.signed(r)
		now, lasts := x.chance.Int63n(50), x.chance.Int63n(9)
		switch x.chance.Intn(8) {
		case 0:
			signed = append(signed, x.of("ab-0", 0, 1))
		case 1:
			k = impl.AccessKey{Id: x.of("a0A", 0, 2), Secret: x.of("s", 0, 1)}
		case 2:
			now, lasts = now-5, lasts-2
		}
		got, want := impl.SignRequest(r, k, signed, now, lasts), plainSign(r, k, signed, now, lasts)
		if !sameRequest(got, want) {
			t.Fatalf("%v, %v, %q, %d, %d: %v, not %v", r, k, signed, now, lasts, got, want)
		}
	}
}

// signing is all that SignRequest takes.
type signing struct {
	r      impl.Request
	k      impl.AccessKey
	signed []string
	now    int64
	lasts  int64
}

func (s signing) sign() impl.Request {
	return impl.SignRequest(s.r, s.k, s.signed, s.now, s.lasts)
}

// signings are those at the edges.
func signings() map[string]signing {
	ann := impl.AccessKey{Id: "ann", Secret: "s"}
	all := rightRequests()["all of it"]
	ten := withHeaders(manyPairs(12)...)
	long := get()
	for i := range 10 {
		long.Headers = append(long.Headers, impl.Pair{Name: fmt.Sprint(i) + times("n", 59), Value: times("v", 1000)})
	}
	most := withQuery(manyPairs(25)...)
	most.Headers = manyPairs(30)
	wide := greatest()
	wide.Query = wide.Query[:25]
	return map[string]signing{
		"a small one":                  {get(), ann, nil, 5, 5},
		"with no headers signed":       {all, ann, nil, 5, 5},
		"with all headers signed":      {all, ann, []string{"h"}, 5, 5},
		"an Id of 1 sign":              {all, impl.AccessKey{Id: "a", Secret: "s"}, nil, 5, 5},
		"an Id of 40 signs":            {all, impl.AccessKey{Id: times("z0a9", 10), Secret: "s"}, nil, 5, 5},
		"an Id of digits":              {all, impl.AccessKey{Id: "007", Secret: "s"}, nil, 5, 5},
		"a Secret of 100 bytes":        {all, impl.AccessKey{Id: "ann", Secret: times("\xff\x00", 50)}, nil, 5, 5},
		"a Secret of a line end":       {all, impl.AccessKey{Id: "ann", Secret: "\n"}, nil, 5, 5},
		"at 0 for 0":                   {all, ann, nil, 0, 0},
		"at 0 for MaxTime":             {all, ann, nil, 0, impl.MaxTime},
		"at MaxTime for 0":             {all, ann, nil, impl.MaxTime, 0},
		"at MaxTime for MaxTime":       {all, ann, nil, impl.MaxTime, impl.MaxTime},
		"10 headers signed":            {ten, ann, namesOf(ten.Headers, 10), 5, 5},
		"10 long headers signed":       {long, ann, namesOf(long.Headers, 10), 5, 5},
		"as many pairs as can be":      {most, ann, []string{"n29", "n0"}, 5, 5},
		"names close to those kept":    {withQuery(pairsOf("x", "1", "X-id", "2", "y-id", "3", "-x-", "4", "xx-", "5")...), ann, nil, 5, 5},
		"a header x-id":                {withHeaders(pairsOf("x-id", "bob", "x-sum", "7")...), ann, []string{"x-sum"}, 5, 5},
		"the greatest one":             {wide, ann, namesOf(wide.Headers, 10), 5, 5},
		"a header that is signed, '-'": {withHeaders(pairsOf("-", "")...), ann, []string{"-"}, 5, 5},
	}
}

// checkTimes holds a signed request to the promise: it passes from its time on for as long as it lasts.
func checkTimes(t *testing.T, name string, r impl.Request, k impl.AccessKey, now, lasts int64) {
	t.Helper()
	keys := []impl.AccessKey{{Id: "bob", Secret: "t"}, k, {Id: k.Id, Secret: "other"}}
	for _, at := range []int64{now, now + lasts, now + lasts/2, min(now+1, now+lasts), max(now, now+lasts-1)} {
		if got := impl.CheckSigned(r, keys, at); got != (impl.SignCheck{Id: k.Id}) {
			t.Errorf("%s at %d, of %d for %d: %v", name, at, now, lasts, got)
		}
	}
	for _, at := range []int64{now - 1, now + lasts + 1, -1, math.MinInt64, math.MaxInt64, 2*impl.MaxTime + 1, now - impl.MaxTime - 1} {
		if got := impl.CheckSigned(r, keys, at); got != (impl.SignCheck{Code: impl.ErrLate}) {
			t.Errorf("%s at %d, of %d for %d: %v", name, at, now, lasts, got)
		}
	}
}

func TestP12WhatIsSignedPassesInItsTimeAlone(t *testing.T) {
	for name, s := range signings() {
		r := s.sign()
		if !sameRequest(r, plainSign(s.r, s.k, s.signed, s.now, s.lasts)) || isNoRequest(r) || impl.RequestFault(r) != impl.OK {
			t.Errorf("%s: %v", name, r)
			continue
		}
		checkTimes(t, name, r, s.k, s.now, s.lasts)
		// So it does when it has gone over the line.
		checkTimes(t, name+", read", impl.ReadRequest(impl.WriteRequest(r), 0).Request, s.k, s.now, s.lasts)
	}
	x := newRequests()
	for range 2000 {
		r, k := x.unsigned(), x.key()
		now, lasts := x.chance.Int63n(impl.MaxTime+1), x.chance.Int63n(impl.MaxTime+1)
		checkTimes(t, "drawn", impl.SignRequest(r, k, x.signed(r), now, lasts), k, now, lasts)
	}
	s := signings()["a small one"]
	for at := int64(-20); at < 30; at++ {
		want := impl.SignCheck{Code: impl.ErrLate}
		if at >= 5 && at <= 10 {
			want = impl.SignCheck{Id: "ann"}
		}
		if got := impl.CheckSigned(s.sign(), []impl.AccessKey{s.k}, at); got != want {
			t.Errorf("at %d: %v", at, got)
		}
	}
}

// eachLetter calls with every text that has one letter turned into another one.
func eachLetter(text string, letters string, call func(turned string)) {
	for i := range len(text) {
		for k := range len(letters) {
			if letters[k] != text[i] && strings.IndexByte(letters, text[i]) >= 0 {
				call(text[:i] + letters[k:k+1] + text[i+1:])
			}
		}
	}
}

func TestP12OneLetterTurnedDoesNotPass(t *testing.T) {
	letters := "ABCDEFGHIJKLMNOPQRSTUVWXYZabcdefghijklmnopqrstuvwxyz"
	k := impl.AccessKey{Id: "ann", Secret: "The secret of ann, 1"}
	r := impl.SignRequest(impl.Request{Method: "PUT", Path: "/path/To a thing", Query: pairsOf("b", "1", "a", "2"), Headers: pairsOf("h", "value", "i", "other"), Body: "Body"}, k, []string{"h"}, 5, 5)
	sum := impl.SignCheck{Code: impl.ErrSum}
	if got := impl.CheckSigned(r, []impl.AccessKey{k}, 5); got != (impl.SignCheck{Id: "ann"}) {
		t.Fatalf("%v", got)
	}
	count := 0
	eachLetter(r.Path, letters, func(turned string) {
		other := r
		other.Path = turned
		if got := impl.CheckSigned(other, []impl.AccessKey{k}, 5); got != sum {
			t.Errorf("path %q: %v", turned, got)
		}
		count++
	})
	eachLetter(k.Secret, letters, func(turned string) {
		if got := impl.CheckSigned(r, []impl.AccessKey{{Id: "ann", Secret: turned}}, 5); got != sum {
			t.Errorf("secret %q: %v", turned, got)
		}
		count++
	})
	checkTurnedBody(t, r, k)
	eachLetter(r.Method, "ABCDEFGHIJKLMNOPQRSTUVWXYZ", func(turned string) {
		other := r
		other.Method = turned
		if got := impl.CheckSigned(other, []impl.AccessKey{k}, 5); got != sum {
			t.Errorf("method %q: %v", turned, got)
		}
	})
	if count < 500 {
		t.Errorf("only %d letters turned", count)
	}
}

// checkTurnedBody turns each byte of a signed body. The sum of the body stands in what is signed as digits, several of which
// change at once: that the sum of these is another one is not promised, and of few bodies it is not.
func checkTurnedBody(t *testing.T, r impl.Request, k impl.AccessKey) {
	t.Helper()
	passed := 0
	for i := range len(r.Body) {
		for b := range 256 {
			other := r
			other.Body = r.Body[:i] + string([]byte{byte(b)}) + r.Body[i+1:]
			got := impl.CheckSigned(other, []impl.AccessKey{k}, 5)
			if got != plainCheck(other, []impl.AccessKey{k}, 5) || got != (impl.SignCheck{Code: impl.ErrSum}) && got != (impl.SignCheck{Id: k.Id}) {
				t.Errorf("body %q: %v", other.Body, got)
			}
			if got.Code == impl.OK && other.Body != r.Body {
				passed++
			}
		}
	}
	if passed*100 > len(r.Body)*255 {
		t.Errorf("%d of %d bodies with a byte turned pass", passed, len(r.Body)*255)
	}
}

func TestP12OneLetterTurnedOfTheLongest(t *testing.T) {
	k := impl.AccessKey{Id: "ann", Secret: times("aZ", 50)}
	r := greatest()
	r.Query, r.Path = r.Query[:25], "/"+times("aZ", 499)
	r = impl.SignRequest(r, k, namesOf(r.Headers, 10), 5, 5)
	if got := impl.CheckSigned(r, []impl.AccessKey{k}, 5); got != (impl.SignCheck{Id: "ann"}) {
		t.Fatalf("%v", got)
	}
	for _, i := range []int{1, 2, 500, len(r.Path) - 1} {
		other := r
		other.Path = r.Path[:i] + "q" + r.Path[i+1:]
		if got := impl.CheckSigned(other, []impl.AccessKey{k}, 5); got != (impl.SignCheck{Code: impl.ErrSum}) {
			t.Errorf("letter %d of the path: %v", i, got)
		}
	}
	for i := range len(k.Secret) {
		other := impl.AccessKey{Id: "ann", Secret: k.Secret[:i] + "q" + k.Secret[i+1:]}
		if got := impl.CheckSigned(r, []impl.AccessKey{other}, 5); got != (impl.SignCheck{Code: impl.ErrSum}) {
			t.Errorf("letter %d of the secret: %v", i, got)
		}
	}
	for _, i := range []int{0, 50000, len(r.Body) - 1} {
		other := r
		other.Body = r.Body[:i] + "q" + r.Body[i+1:]
		if got := impl.CheckSigned(other, []impl.AccessKey{k}, 5); got != (impl.SignCheck{Code: impl.ErrSum}) {
			t.Errorf("byte %d of the body: %v", i, got)
		}
	}
}

// What is signed are the signed headers and all of the query, but not its order, and no other header.
func TestP12WhatTheSumIsOf(t *testing.T) {
	k := impl.AccessKey{Id: "ann", Secret: "s"}
	r := impl.Request{Method: "PUT", Path: "/a", Query: pairsOf("b", "1", "a", "2"), Headers: pairsOf("h", "v", "i", "w", "j", "u"), Body: "xy"}
	signed := impl.SignRequest(r, k, []string{"j", "h"}, 5, 5)
	for i, known := range []struct {
		change func(r *impl.Request)
		want   int64
	}{
		{func(r *impl.Request) {}, impl.OK},
		{func(r *impl.Request) { r.Headers[0].Value = "V" }, impl.ErrSum},
		{func(r *impl.Request) { r.Headers[2].Value = "" }, impl.ErrSum},
		{func(r *impl.Request) { r.Headers[1].Value = "" }, impl.OK},
		{func(r *impl.Request) { r.Headers[1].Name = "k" }, impl.OK},
		{func(r *impl.Request) { r.Headers = append(r.Headers, pairsOf("new", "1")...) }, impl.OK},
		{func(r *impl.Request) { slices.Reverse(r.Headers) }, impl.OK},
		{func(r *impl.Request) { r.Headers = slices.Delete(r.Headers, 1, 2) }, impl.OK},
		{func(r *impl.Request) { r.Headers = slices.Delete(r.Headers, 0, 1) }, impl.ErrForm},
		{func(r *impl.Request) { r.Query[0], r.Query[1] = r.Query[1], r.Query[0] }, impl.OK},
		{func(r *impl.Request) { r.Query[0].Value = "3" }, impl.ErrSum},
		{func(r *impl.Request) { r.Query[0].Name = "c" }, impl.ErrSum},
		{func(r *impl.Request) { r.Query = r.Query[1:] }, impl.ErrSum},
		{func(r *impl.Request) { r.Query = append(pairsOf("c", ""), r.Query...) }, impl.ErrSum},
		{func(r *impl.Request) { r.Query[2].Value = "bob" }, impl.ErrNone},
		{func(r *impl.Request) { r.Query[3].Value = "4" }, impl.ErrSum},
		{func(r *impl.Request) { r.Query[4].Value = "6" }, impl.ErrSum},
		{func(r *impl.Request) { r.Query[5].Value = "h,j" }, impl.ErrSum},
		{func(r *impl.Request) { r.Query[5].Value = "j,h,i" }, impl.ErrSum},
		{func(r *impl.Request) { r.Query[5].Value = "" }, impl.ErrSum},
		{func(r *impl.Request) { r.Query[6].Value = "0" }, impl.ErrSum},
		{func(r *impl.Request) { r.Query[6].Value = "2147483646" }, impl.ErrSum},
		{func(r *impl.Request) { r.Body = "" }, impl.ErrSum},
	} {
		other := signed
		other.Query, other.Headers = slices.Clone(signed.Query), slices.Clone(signed.Headers)
		known.change(&other)
		got := impl.CheckSigned(other, []impl.AccessKey{k}, 7)
		if got.Code != known.want || (got.Id == "ann") != (known.want == impl.OK) || got != plainCheck(other, []impl.AccessKey{k}, 7) {
			t.Errorf("%d: %v", i, got)
		}
	}
}

func TestP12WrongSignings(t *testing.T) {
	ann := impl.AccessKey{Id: "ann", Secret: "s"}
	h := withHeaders(pairsOf("h", "v", "i", "w")...)
	eleven := withHeaders(manyPairs(11)...)
	for name, s := range map[string]signing{
		"a request that is signed":     {signing{h, ann, nil, 5, 5}.sign(), ann, nil, 5, 5},
		"a query named x-":             {withQuery(pairsOf("x-", "")...), ann, nil, 5, 5},
		"a query named x-id":           {withQuery(pairsOf("x-id", "ann")...), ann, nil, 5, 5},
		"a query named x-other, last":  {withQuery(pairsOf("a", "", "x-other", "")...), ann, nil, 5, 5},
		"an empty Id":                  {h, impl.AccessKey{Secret: "s"}, nil, 5, 5},
		"an Id of 41 signs":            {h, impl.AccessKey{Id: times("a", 41), Secret: "s"}, nil, 5, 5},
		"an Id with a capital":         {h, impl.AccessKey{Id: "Ann", Secret: "s"}, nil, 5, 5},
		"an Id with -":                 {h, impl.AccessKey{Id: "a-b", Secret: "s"}, nil, 5, 5},
		"an Id with a space":           {h, impl.AccessKey{Id: "a ", Secret: "s"}, nil, 5, 5},
		"an Id with `":                 {h, impl.AccessKey{Id: "a`", Secret: "s"}, nil, 5, 5},
		"an Id with {":                 {h, impl.AccessKey{Id: "a{", Secret: "s"}, nil, 5, 5},
		"an Id with :":                 {h, impl.AccessKey{Id: "a:", Secret: "s"}, nil, 5, 5},
		"an Id with é":                 {h, impl.AccessKey{Id: "é", Secret: "s"}, nil, 5, 5},
		"an Id that is far too long":   {h, impl.AccessKey{Id: times("a", impl.MaxBytes+1), Secret: "s"}, nil, 5, 5},
		"an empty Secret":              {h, impl.AccessKey{Id: "ann"}, nil, 5, 5},
		"a Secret of 101 bytes":        {h, impl.AccessKey{Id: "ann", Secret: times("s", 101)}, nil, 5, 5},
		"a Secret far too long":        {h, impl.AccessKey{Id: "ann", Secret: times("s", impl.MaxBytes+1)}, nil, 5, 5},
		"now below 0":                  {h, ann, nil, -1, 5},
		"now above MaxTime":            {h, ann, nil, impl.MaxTime + 1, 5},
		"lasts below 0":                {h, ann, nil, 5, -1},
		"lasts above MaxTime":          {h, ann, nil, 5, impl.MaxTime + 1},
		"now and lasts at their least": {h, ann, nil, math.MinInt64, math.MinInt64},
		"now and lasts at their most":  {h, ann, nil, math.MaxInt64, math.MaxInt64},
		"a signed name of no header":   {h, ann, []string{"h", "j"}, 5, 5},
		"a signed name that is empty":  {h, ann, []string{""}, 5, 5},
		"a signed name of two":         {h, ann, []string{"h,i"}, 5, 5},
		"a signed name twice":          {h, ann, []string{"h", "i", "h"}, 5, 5},
		"the length signed":            {h, ann, []string{"length"}, 5, 5},
		"a signed name of query":       {withQuery(pairsOf("h", "")...), ann, []string{"h"}, 5, 5},
		"a signed name with a capital": {h, ann, []string{"H"}, 5, 5},
		"11 headers signed":            {eleven, ann, namesOf(eleven.Headers, 11), 5, 5},
		"31 names signed":              {eleven, ann, slices.Repeat([]string{"n0"}, 31), 5, 5},
		"a signed name too long":       {h, ann, []string{times("h", impl.MaxBytes+1)}, 5, 5},
		"26 pairs of query":            {withQuery(manyPairs(26)...), ann, nil, 5, 5},
		"30 pairs of query":            {withQuery(manyPairs(30)...), ann, nil, 5, 5},
		"a request that is not right":  {impl.Request{}, ann, nil, 5, 5},
	} {
		if got := s.sign(); !isNoRequest(got) || !isNoRequest(plainSign(s.r, s.k, s.signed, s.now, s.lasts)) {
			t.Errorf("%s: %v", name, got)
		}
	}
}

// wrongTails are ends of the query of a request with the headers h and i that no signing gives.
func wrongTails() map[string][]impl.Pair {
	right := func(change ...string) []impl.Pair {
		pairs := pairsOf("x-id", "ann", "x-from", "5", "x-lasts", "5", "x-signed", "h", "x-sum", "7")
		for i := 0; i < len(change); i += 2 {
			for k := range pairs {
				if pairs[k].Name == change[i] {
					pairs[k].Value = change[i+1]
				}
			}
		}
		return pairs
	}
	tails := map[string][]impl.Pair{
		"none of them":         nil,
		"one name is capital":  append(right()[:4], pairsOf("X-sum", "7")...),
		"another name":         append(right()[:4], pairsOf("x-sums", "7")...),
		"a pair behind":        append(right(), pairsOf("z", "")...),
		"a pair within":        append(right()[:2:2], append(pairsOf("z", ""), right()[2:]...)...),
		"a name kept, ahead":   append(pairsOf("x-other", ""), right()...),
		"a short name, ahead":  append(pairsOf("x-", ""), right()...),
		"one doubled":          append(right(), right()[4]),
		"one doubled, ahead":   append(right()[:1:1], right()...),
		"all doubled":          append(right(), right()...),
		"all doubled, renamed": append(pairsOf("x-a", "", "x-b", "", "x-c", "", "x-d", "", "x-e", ""), right()...),
	}
	for i := range 5 {
		tails["lacking "+fmt.Sprint(i)] = slices.Delete(right(), i, i+1)
		for k := range i {
			turned := right()
			turned[i], turned[k] = turned[k], turned[i]
			tails[fmt.Sprint("in another order ", i, k)] = turned
		}
	}
	for _, number := range []string{"", "00", "05", "+5", "-1", "-0", " 5", "5 ", "5.", "0x5", "5e0", "5_0", "a", "٥", "\x005", "18446744073709551621", times("5", 1000)} {
		for _, name := range []string{"x-from", "x-lasts", "x-sum"} {
			tails[name+" "+strconv.Quote(number)] = right(name, number)
		}
	}
	for _, number := range []string{"4102444801", "9223372036854775807"} {
		tails["x-from "+number], tails["x-lasts "+number] = right("x-from", number), right("x-lasts", number)
	}
	for _, number := range []string{"2147483647", "2147483648", "4102444800"} {
		tails["x-sum "+number] = right("x-sum", number)
	}
	for _, id := range []string{"", "Ann", "a-b", "a b", "a_", "é", "\xff", "a\n", times("a", 41)} {
		tails["x-id "+strconv.Quote(id)] = right("x-id", id)
	}
	for _, list := range []string{",", "h,", ",h", "h,,i", "j", "h,j", "h,h", "h,i,h", "h, i", "h;i", "H", "length", " ", "x-id", "h\n", times("h,", 400) + "h"} {
		tails["x-signed "+strconv.Quote(list)] = right("x-signed", list)
	}
	return tails
}

func TestP12WrongSignedRequests(t *testing.T) {
	keys := []impl.AccessKey{{Id: "ann", Secret: "s"}, {Id: "", Secret: "s"}, {Id: "Ann", Secret: "s"}, {Id: "a-b", Secret: "s"}}
	for name, tail := range wrongTails() {
		for _, own := range [][]impl.Pair{nil, pairsOf("a", "1"), manyPairs(5), manyPairs(25)} {
			r := withHeaders(pairsOf("h", "v", "i", "w")...)
			r.Query = append(slices.Clone(own), tail...)
			if got := impl.CheckSigned(r, keys, 5); got != (impl.SignCheck{Code: impl.ErrForm}) || got != plainCheck(r, keys, 5) {
				t.Errorf("%s behind %d: %v", name, len(own), got)
			}
			if got := impl.CheckSigned(r, nil, -5); got != (impl.SignCheck{Code: impl.ErrForm}) {
				t.Errorf("%s behind %d, without keys: %v", name, len(own), got)
			}
		}
	}
	eleven := withHeaders(manyPairs(11)...)
	eleven.Query = pairsOf("x-id", "ann", "x-from", "5", "x-lasts", "5", "x-signed", strings.Join(namesOf(eleven.Headers, 11), ","), "x-sum", "7")
	if got := impl.CheckSigned(eleven, keys, 5); got != (impl.SignCheck{Code: impl.ErrForm}) {
		t.Errorf("11 headers signed: %v", got)
	}
}

func TestP12Keys(t *testing.T) {
	k, other := impl.AccessKey{Id: "ann", Secret: "s"}, impl.AccessKey{Id: "ann", Secret: "t"}
	r := impl.SignRequest(get(), k, nil, 5, 5)
	others := func(n int) []impl.AccessKey {
		var keys []impl.AccessKey
		for i := range n {
			keys = append(keys, impl.AccessKey{Id: "b" + fmt.Sprint(i), Secret: "s"})
		}
		return keys
	}
	with := func(keys ...impl.AccessKey) []impl.AccessKey { return keys }
	secret := func(text string) impl.AccessKey { return impl.AccessKey{Id: "ann", Secret: text} }
	for name, known := range map[string]struct {
		keys []impl.AccessKey
		want int64
	}{
		"no keys":                        {nil, impl.ErrNone},
		"its key alone":                  {with(k), impl.OK},
		"its key first of two":           {with(k, other), impl.OK},
		"its key second of two":          {with(other, k), impl.ErrSum},
		"its key twice":                  {with(k, k), impl.OK},
		"99 other keys":                  {others(99), impl.ErrNone},
		"100 keys, its own last":         {append(others(99), k), impl.OK},
		"100 keys, its own first":        {append(with(k), others(99)...), impl.OK},
		"100 other keys":                 {others(100), impl.ErrNone},
		"101 keys, its own last":         {append(others(100), k), impl.ErrForm},
		"101 keys, its own first":        {append(with(k), others(100)...), impl.ErrForm},
		"101 keys without its own":       {others(101), impl.ErrForm},
		"keys with ids alike":            {with(impl.AccessKey{Id: "an", Secret: "s"}, impl.AccessKey{Id: "anna", Secret: "s"}, impl.AccessKey{Id: "Ann", Secret: "s"}, impl.AccessKey{Id: " ann", Secret: "s"}, impl.AccessKey{Id: "ann\n", Secret: "s"}, impl.AccessKey{Secret: "s"}), impl.ErrNone},
		"other keys that are not valid":  {with(impl.AccessKey{}, impl.AccessKey{Id: "B"}, impl.AccessKey{Id: times("b", impl.MaxBytes+1), Secret: times("s", impl.MaxBytes+1)}, impl.AccessKey{Id: "bob"}, k), impl.OK},
		"an empty secret":                {with(secret("")), impl.ErrSum},
		"an empty secret, then its own":  {with(secret(""), k), impl.ErrSum},
		"a secret of 101 bytes":          {with(secret(times("s", 101))), impl.ErrSum},
		"a secret that is far too long":  {with(secret(times("s", impl.MaxBytes+1))), impl.ErrSum},
		"a secret with a line end":       {with(secret("s\n")), impl.ErrSum},
		"a secret with more":             {with(secret("ss")), impl.ErrSum},
		"its key, then one of no secret": {with(k, secret("")), impl.OK},
	} {
		got := impl.CheckSigned(r, known.keys, 5)
		if got.Code != known.want || (got.Id == "ann") != (known.want == impl.OK) || known.want != impl.OK && got.Id != "" || got != plainCheck(r, known.keys, 5) {
			t.Errorf("%s: %v", name, got)
		}
	}
}

// A key whose Secret is not valid does not pass, though the sum is made with that Secret.
func TestP12ASecretThatIsNotValidSignsNothing(t *testing.T) {
	for _, secret := range []string{"", times("s", 101)} {
		r := impl.SignRequest(get(), impl.AccessKey{Id: "ann", Secret: "s"}, nil, 5, 5)
		unsummed := r
		unsummed.Query = r.Query[:4:4]
		r.Query[4].Value = fmt.Sprint(impl.SumOf(secret+"\n"+impl.Canonical(unsummed, nil), 9))
		if got := impl.CheckSigned(r, []impl.AccessKey{{Id: "ann", Secret: secret}}, 5); got != (impl.SignCheck{Code: impl.ErrSum}) {
			t.Errorf("%d bytes: %v", len(secret), got)
		}
	}
	secret := times("s", 100)
	r := impl.SignRequest(get(), impl.AccessKey{Id: "ann", Secret: secret}, nil, 5, 5)
	if got := impl.CheckSigned(r, []impl.AccessKey{{Id: "ann", Secret: secret}}, 5); got != (impl.SignCheck{Id: "ann"}) {
		t.Errorf("100 bytes: %v", got)
	}
}

func TestP12TheFirstOfItsCodes(t *testing.T) {
	k := impl.AccessKey{Id: "ann", Secret: "s"}
	good := impl.SignRequest(get(), k, nil, 5, 5)
	bent, ill := good, good
	bent.Path, ill.Method = "/a", "get"
	many := slices.Repeat([]impl.AccessKey{{Id: "bob", Secret: "s"}}, 101)
	for i, known := range []struct {
		r    impl.Request
		keys []impl.AccessKey
		now  int64
		want int64
	}{
		{ill, nil, 99, impl.ErrForm}, {ill, []impl.AccessKey{k}, 5, impl.ErrForm}, {good, many, 99, impl.ErrForm}, {bent, many, 99, impl.ErrForm}, {bent, nil, 99, impl.ErrNone}, {good, nil, 99, impl.ErrNone}, {good, many[:100], 99, impl.ErrNone},
		{bent, []impl.AccessKey{k}, 99, impl.ErrSum}, {bent, []impl.AccessKey{k}, 4, impl.ErrSum}, {good, []impl.AccessKey{{Id: "ann"}}, 99, impl.ErrSum}, {good, []impl.AccessKey{k}, 99, impl.ErrLate}, {good, []impl.AccessKey{k}, 5, impl.OK},
	} {
		if got := impl.CheckSigned(known.r, known.keys, known.now); got.Code != known.want || got != plainCheck(known.r, known.keys, known.now) {
			t.Errorf("%d: %v", i, got)
		}
	}
}

func TestP12CheckedByTheWords(t *testing.T) {
	x := newRequests()
	codes := map[int64]int{}
	for range 30000 {
		r, k := x.unsigned(), x.key()
		r = impl.SignRequest(r, k, x.signed(r), x.chance.Int63n(20), x.chance.Int63n(20))
		keys := []impl.AccessKey{k}
		for range x.chance.Intn(3) {
			keys = append(keys, x.key())
		}
		x.chance.Shuffle(len(keys), func(i, k int) { keys[i], keys[k] = keys[k], keys[i] })
		if x.chance.Intn(8) == 0 {
			keys = keys[1:]
		}
		if x.chance.Intn(3) == 0 {
			x.change(&r)
		}
		now := x.chance.Int63n(40)
		got, want := impl.CheckSigned(r, keys, now), plainCheck(r, keys, now)
		if got != want {
			t.Fatalf("%v, %v, %d: %v, not %v", r, keys, now, got, want)
		}
		codes[got.Code]++
	}
	for _, code := range []int64{impl.OK, impl.ErrForm, impl.ErrNone, impl.ErrSum, impl.ErrLate} {
		if codes[code] < 1000 {
			t.Errorf("%v: the draw tells little", codes)
		}
	}
}

// change turns something of a signed request.
func (x *requests) change(r *impl.Request) {
	r.Query = slices.Clone(r.Query)
	i, k := x.chance.Intn(len(r.Query)), x.chance.Intn(len(r.Query))
	switch x.chance.Intn(6) {
	case 0:
		r.Query[i], r.Query[k] = r.Query[k], r.Query[i]
	case 1:
		r.Query[i].Value = x.of("01ab,", 0, 2)
	case 2:
		r.Query[i].Name = x.of("ab", 1, 2)
	case 3:
		r.Query = slices.Delete(r.Query, i, i+1)
	case 4:
		r.Headers = append(slices.Clone(r.Headers), impl.Pair{Name: x.of("ab-0", 1, 2), Value: "new"})
	case 5:
		r.Body += "a"
	}
}

// lentRequest is a request, all of whose texts and lists the test can look into.
type lentRequest struct {
	r     impl.Request
	texts []*loan
	rooms [][]impl.Pair
	held  [][]impl.Pair
}

func (l *lentRequest) text(text string) string {
	lent := newLoan(text)
	l.texts = append(l.texts, lent)
	return lent.text()
}

func (l *lentRequest) pairs(pairs []impl.Pair) []impl.Pair {
	var room []impl.Pair
	for _, p := range pairs {
		room = append(room, impl.Pair{Name: l.text(p.Name), Value: l.text(p.Value)})
	}
	// As much room as a signature takes, and more.
	for i := range 9 {
		room = append(room, impl.Pair{Name: "room", Value: fmt.Sprint(i)})
	}
	l.rooms = append(l.rooms, room)
	l.held = append(l.held, slices.Clone(room))
	return room[:len(pairs)]
}

func lendRequest(r impl.Request) *lentRequest {
	l := &lentRequest{}
	l.r = impl.Request{Method: l.text(r.Method), Path: l.text(r.Path), Query: l.pairs(r.Query), Headers: l.pairs(r.Headers), Body: l.text(r.Body)}
	return l
}

func (l *lentRequest) kept() bool {
	for _, text := range l.texts {
		if !text.kept() {
			return false
		}
	}
	return slices.EqualFunc(l.rooms, l.held, slices.Equal)
}

// spoil changes all that was lent.
func (l *lentRequest) spoil() {
	for _, text := range l.texts {
		text.spoil()
	}
	for _, room := range l.rooms {
		spoilPairs(room)
	}
}

// spoilPairs changes all of a list, the room behind it included.
func spoilPairs(pairs []impl.Pair) {
	pairs = pairs[:cap(pairs)]
	for i := range pairs {
		pairs[i] = impl.Pair{Name: "spoiled", Value: "too"}
	}
}

func TestP11AnswersOfEscapingAreNewMemory(t *testing.T) {
	for _, text := range []string{"plain", "a b", "%", "a%20b", "", times("a", 1000)} {
		lent := newLoan(text)
		escaped, back := impl.Escape(lent.text()), impl.UnEscape(lent.text())
		if !lent.kept() {
			t.Errorf("%q: written into", text)
		}
		lent.spoil()
		if escaped != plainEscape(text) || back != plainUnEscape(text) {
			t.Errorf("%q: shared", text)
		}
	}
}

func TestP11AnswersOfReadingAndWritingAreNewMemory(t *testing.T) {
	x := newRequests()
	for i := range 1000 {
		r := x.request(4)
		want := plainRequestText(r)
		lent := lendRequest(r)
		text := impl.WriteRequest(lent.r)
		if impl.RequestFault(lent.r) != impl.OK || !lent.kept() {
			t.Fatalf("%d: a call wrote into its argument", i)
		}
		lent.spoil()
		if text != want {
			t.Fatalf("%d: what is written shares memory", i)
		}
		data := newLoan("ahead" + want + "behind")
		got := impl.ReadRequest(data.text(), 5)
		if !data.kept() {
			t.Fatalf("%d: ReadRequest wrote into its argument", i)
		}
		data.spoil()
		if !sameRequest(got.Request, r) {
			t.Fatalf("%d: what is read shares memory", i)
		}
		spoilPairs(got.Request.Query)
		if !slices.Equal(got.Request.Headers, r.Headers) {
			t.Fatalf("%d: lists that are read share memory", i)
		}
	}
	for _, line := range append(wrongFirstLines(), wrongNextLines()...) {
		data := newLoan("GET /\n" + line + "\n")
		impl.ReadRequest(data.text(), 0)
		impl.ReadRequest(data.text(), 6)
		if !data.kept() {
			t.Errorf("%.99q is written into", line)
		}
	}
}

func TestP12AnswersOfSigningAreNewMemory(t *testing.T) {
	x := newRequests()
	for i := range 1000 {
		r, k := x.unsigned(), x.key()
		signed := x.signed(r)
		want, canonical := plainSign(r, k, signed, 5, 5), plainCanonical(r, signed)
		lent := lendRequest(r)
		id, secret := newLoan(k.Id), newLoan(k.Secret)
		var names []string
		for _, name := range signed {
			names = append(names, lent.text(name))
		}
		names = append(names, "room", "behind")
		was := slices.Clone(names)
		text := impl.Canonical(lent.r, names[:len(signed)])
		got := impl.SignRequest(lent.r, impl.AccessKey{Id: id.text(), Secret: secret.text()}, names[:len(signed)], 5, 5)
		if !lent.kept() || !id.kept() || !secret.kept() || !slices.Equal(names, was) {
			t.Fatalf("%d: a call wrote into an argument", i)
		}
		lent.spoil()
		id.spoil()
		secret.spoil()
		if text != canonical || !sameRequest(got, want) {
			t.Fatalf("%d: what is signed shares memory", i)
		}
		spoilPairs(got.Query)
		if !slices.Equal(got.Headers, want.Headers) {
			t.Fatalf("%d: lists that are signed share memory", i)
		}
		checkLentCheck(t, want, k)
	}
}

// checkLentCheck checks a signed request, of which all is lent.
func checkLentCheck(t *testing.T, r impl.Request, k impl.AccessKey) {
	t.Helper()
	lent := lendRequest(r)
	keys := []impl.AccessKey{{Id: lent.text("other"), Secret: lent.text("o")}, {Id: lent.text(k.Id), Secret: lent.text(k.Secret)}, {Id: "room", Secret: "behind"}}
	was := slices.Clone(keys)
	good, late, none := impl.CheckSigned(lent.r, keys[:2], 5), impl.CheckSigned(lent.r, keys[:2], 99), impl.CheckSigned(lent.r, keys[:1], 5)
	if !lent.kept() || !slices.Equal(keys, was) {
		t.Fatal("CheckSigned wrote into an argument")
	}
	lent.spoil()
	if good != (impl.SignCheck{Id: k.Id}) || late != (impl.SignCheck{Code: impl.ErrLate}) || none != (impl.SignCheck{Code: impl.ErrNone}) {
		t.Fatalf("%v, %v, %v", good, late, none)
	}
}

func TestP11NoCallOfRequestsPanics(t *testing.T) {
	x := newRequests()
	numbers := []int64{math.MinInt64, -1, 0, 1, 5, impl.MaxTime, impl.MaxTime + 1, math.MaxInt64}
	number := func() int64 { return numbers[x.chance.Intn(len(numbers))] }
	long := times("a", impl.MaxBytes+1)
	words := []string{"", "a", "/", "GET", "length", "x-id", "x-from", "x-sum", "x-signed", "x-lasts", "0", "5", ",", "%", "%2", "%20", "\xff", "\n", " ", "é", times("a", 1001), "ann"}
	word := func() string {
		if x.chance.Intn(500) == 0 {
			return long
		}
		return words[x.chance.Intn(len(words))]
	}
	pairs := func() []impl.Pair {
		var pairs []impl.Pair
		for range x.chance.Intn(8) {
			pairs = append(pairs, impl.Pair{Name: word(), Value: word()})
		}
		return pairs
	}
	list := func() []string { return namesOf(append(pairs(), impl.Pair{}), 1) }
	for range 20000 {
		r := impl.Request{Method: word(), Path: word(), Query: pairs(), Headers: pairs(), Body: word()}
		if x.chance.Intn(2) == 0 {
			r = x.request(3)
			r.Query = append(r.Query, pairs()...)
		}
		keys := []impl.AccessKey{{Id: word(), Secret: word()}, {Id: "ann", Secret: word()}}
		data := word() + word() + word() + plainFirstLine(r) + word()
		noPanic(t, "Escape", func() { impl.Escape(word()) })
		noPanic(t, "UnEscape", func() { impl.UnEscape(word() + word() + word()) })
		noPanic(t, "RequestFault", func() { impl.RequestFault(r) })
		noPanic(t, "WriteRequest", func() { impl.WriteRequest(r) })
		noPanic(t, "ReadRequest", func() { impl.ReadRequest(data, number()) })
		noPanic(t, "ReadRequest", func() { impl.ReadRequest(data, int64(x.chance.Intn(len(data)+2))) })
		noPanic(t, "Canonical", func() { impl.Canonical(r, list()) })
		noPanic(t, "SignRequest", func() { impl.SignRequest(r, keys[0], list(), number(), number()) })
		noPanic(t, "CheckSigned", func() { impl.CheckSigned(r, keys, number()) })
	}
}

// The longest of all that can be handed in, and far more than is taken.
func TestP11TheGreatestCallsOfRequestsEnd(t *testing.T) {
	huge := times("a=b&", 2000000)
	for _, data := range []string{huge, "GET /?" + huge, "GET /?" + huge[:300000] + "\n", times("\n", 8000000), "GET /\n" + times("a: b\n", 100000), "GET /\n" + times("%", 390000) + "\n", "GET /\nlength: " + times("0", 390000) + "\n"} {
		got := impl.ReadRequest(data, 0)
		if got.Code != impl.ErrSyntax && got.Code != impl.ErrSize || got.Next != 0 {
			t.Errorf("%.20q: %v", data, got)
		}
	}
	many := slices.Repeat(pairsOf("a", "b"), 1000000)
	r := impl.Request{Method: huge, Path: "/" + huge, Query: many, Headers: many, Body: huge}
	if impl.RequestFault(r) != impl.ErrForm || impl.WriteRequest(r) != "" || impl.Canonical(r, []string{huge}) != "" || impl.Escape(huge) != "" || impl.UnEscape(huge).Good {
		t.Error("a huge request")
	}
	keys := slices.Repeat([]impl.AccessKey{{Id: huge, Secret: huge}}, 1000000)
	if got := impl.CheckSigned(impl.SignRequest(get(), impl.AccessKey{Id: "ann", Secret: "s"}, nil, 5, 5), keys, 5); got.Code != impl.ErrForm {
		t.Errorf("many keys: %v", got)
	}
	if got := impl.CheckSigned(impl.SignRequest(get(), impl.AccessKey{Id: "ann", Secret: "s"}, nil, 5, 5), keys[:100], 5); got.Code != impl.ErrNone {
		t.Errorf("huge keys: %v", got)
	}
}
