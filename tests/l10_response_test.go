package tests

import (
	"fmt"
	"math"
	"math/rand/v2"
	"slices"
	"strings"
	"testing"

	"loop.example/g00586/impl"
)

// kindsOfResponses has the kinds that the contents of a response may have.
var kindsOfResponses = []int{1, 2, 3, 4, 5}

var allKinds = slices.Concat(kindsOfResponses, otherKinds)

var (
	statuses    = []int{100, 101, 199, 200, 204, 301, 403, 404, 500, 598, 599}
	notStatuses = []int{99, 600, 0, -1, -99, -100, -200, -599, 1, 20, 601, 999, 2000, 40400, impl.MaxValue, math.MaxInt, math.MinInt, math.MinInt + 200, 1<<32 + 200, -1<<32 + 404}
	ages        = []int{0, 1, 5, 20, 999, 1000}
	notAges     = []int{-1, -2, -1000, 1001, 1002, 10000, impl.MaxValue, math.MaxInt, math.MinInt, math.MinInt + 5, 1<<32 + 5, -1<<32 + 5}
)

// The limit of a body is in bytes: an é is one character of two.
var (
	longestBody = strings.Repeat("x", 400)
	tooLongBody = strings.Repeat("x", 401)
)

var (
	bodies    = []string{"", "a", "b", "ab", "ba", "say a", "say b", "say a;", " ", "\x00", "\x00\x00", "0", "818760670", "<p>hello</p>", "<p>hello</b>", "p:7;i:9", "p:7;i:8", "add b;count b", "é", "\xe9", "\xff", "\xff\xff", "a\x80\xc3", "日本", strings.Repeat("x", 399), longestBody, strings.Repeat("\x00", 400), strings.Repeat("\xff", 400), strings.Repeat("é", 200), strings.Repeat("é", 199) + "ab"}
	notBodies = []string{tooLongBody, strings.Repeat("x", 402), strings.Repeat("\x00", 401), strings.Repeat("\xff", 401), strings.Repeat("é", 201), strings.Repeat("é", 200) + "a", strings.Repeat("日", 134), strings.Repeat("x", 656), strings.Repeat("x", 800), strings.Repeat("x", 100000), strings.Repeat("say a;", 20000)}
)

var allBodies = slices.Concat(bodies, notBodies)

// notForms has texts that are the form of no policy.
var notForms = []string{" ", "x", ";", ";;", "script", "script home", "script;style", "script;style;", "Script;style;img", "script;img;style", "script;style;img;", "script;style;img ", " script;style;img", "script home ;style;img", "script  home;style;img", "script Home;style;img", "script abcdefghi;style;img", "script a b c d e;style;img", "script;style a b c d e;img", "script;style;img;nonce", "script;style;img;nonce ", "script;style;img;nonce n 7", "script;style;img;nonce N7", "script;style;img;nonce abcdefghij/123456789a", "nonce n7", "é", "\xff", "\x00", strings.Repeat("x", 1000)}

func response(status int, kind int, body string, age int, shares bool, policy string) impl.Response {
	return impl.Response{Status: status, Kind: kind, Body: body, Age: age, Shares: shares, Policy: policy}
}

// plainResponse is valid; tests change it.
func plainResponse() impl.Response {
	return response(200, 2, "say a", 5, false, "")
}

// formsOfPolicies has the texts that a response may have as its Policy, all of them different.
func formsOfPolicies() []string {
	forms := []string{""}
	for _, p := range somePolicies() {
		if p.Set {
			forms = append(forms, formByWords(p))
		}
	}
	return forms
}

// someResponses has valid responses of each kind, all of them different.
func someResponses() []impl.Response {
	l := []impl.Response{response(404, 1, "", 0, false, "")}
	forms := formsOfPolicies()
	for i, body := range bodies {
		for j, kind := range kindsOfResponses {
			status, age, form := statuses[(i+j)%len(statuses)], ages[(i+2*j)%len(ages)], forms[1+(5*i+j)%(len(forms)-1)]
			l = append(l, response(status, kind, body, age, i%2 == 0, ""), response(status, kind, body, age, i%2 == 0, form))
		}
	}
	return l
}

// oddResponses has responses that are not valid in one field or in all of them, all of them different; functions are called on them all the same.
func oddResponses() []impl.Response {
	l := []impl.Response{{}, {Status: 200}, {Kind: 1}, {Body: "a"}, {Age: 5}, {Shares: true}, {Policy: "script;style;img"}}
	x := plainResponse()
	for _, status := range notStatuses {
		x.Status = status
		l = append(l, x)
	}
	x = plainResponse()
	for _, kind := range otherKinds {
		x.Kind = kind
		l = append(l, x)
	}
	x = plainResponse()
	for _, body := range notBodies {
		x.Body = body
		l = append(l, x)
	}
	x = plainResponse()
	for _, age := range notAges {
		x.Age = age
		l = append(l, x)
	}
	x = plainResponse()
	for _, form := range notForms {
		x.Policy = form
		l = append(l, x)
	}
	for i, status := range notStatuses {
		l = append(l, response(status, otherKinds[i%len(otherKinds)], notBodies[i%len(notBodies)], notAges[i%len(notAges)], i%2 == 0, notForms[i%len(notForms)]))
	}
	return l
}

func allResponses() []impl.Response {
	return slices.Concat(someResponses(), oddResponses())
}

// shown cuts long bodies.
func shown(x impl.Response) string {
	return fmt.Sprintf("{%d %d %.50q (%d bytes) %d %t %.200q}", x.Status, x.Kind, x.Body, len(x.Body), x.Age, x.Shares, x.Policy)
}

// The checks of responses end a test at the first failure: they are called very often.

func checkValidResponse(t *testing.T, x impl.Response, want bool) {
	t.Helper()
	if got := impl.IsResponse(x); got != want {
		t.Fatalf("IsResponse(%s) is %t", shown(x), got)
	}
}

func checkBodyDigest(t *testing.T, body string, want int) {
	t.Helper()
	if got := impl.DigestOf(body); got != want {
		t.Fatalf("DigestOf(%.50q (%d bytes)) is %d, not %d", body, len(body), got, want)
	}
}

func checkFits(t *testing.T, x impl.Response, kind int, want bool) {
	t.Helper()
	if got := impl.FitsKind(x, kind); got != want {
		t.Fatalf("FitsKind(%s, %d) is %t", shown(x), kind, got)
	}
}

func checkDigestValue(t *testing.T, body string, value string, want bool) {
	t.Helper()
	if got := impl.CheckDigest(body, value); got != want {
		t.Fatalf("CheckDigest(%.50q (%d bytes), %.50q) is %t", body, len(body), value, got)
	}
}

func checkSize(t *testing.T, x impl.Response, want int) {
	t.Helper()
	if got := impl.SizeResponse(x); got != want {
		t.Fatalf("SizeResponse(%s) is %d, not %d", shown(x), got, want)
	}
}

func checkEqualResponses(t *testing.T, what string, a impl.Response, b impl.Response, want bool) {
	t.Helper()
	if impl.EqualResponses(a, b) != want || impl.EqualResponses(b, a) != want {
		t.Fatalf("%s: EqualResponses(%s, %s) is %t, the other way round %t", what, shown(a), shown(b), impl.EqualResponses(a, b), impl.EqualResponses(b, a))
	}
}

// digestByFold does not use what it checks.
func digestByFold(body string) int {
	values := []int{151, len(body)}
	for i := range len(body) {
		values = append(values, int(body[i]))
	}
	return foldedHash(values)
}

func validByLimits(x impl.Response) bool {
	_, ok := policyByForm(x.Policy)
	return x.Status >= 100 && x.Status < 600 && slices.Contains(kindsOfResponses, x.Kind) && len([]byte(x.Body)) <= 400 && x.Age >= 0 && x.Age <= 1000 && ok
}

func sameResponse(a impl.Response, b impl.Response) bool {
	return a.Status == b.Status && a.Kind == b.Kind && a.Body == b.Body && a.Age == b.Age && a.Shares == b.Shares && a.Policy == b.Policy
}

func TestResponseConstants(t *testing.T) {
	if impl.MaxBody != 400 || impl.MaxAge != 1000 {
		t.Error(impl.MaxBody, impl.MaxAge)
	}
}

func TestIsResponse(t *testing.T) {
	for _, x := range someResponses() {
		checkValidResponse(t, x, true)
	}
	for _, x := range oddResponses() {
		checkValidResponse(t, x, false)
	}
	checkValidResponse(t, plainResponse(), true)
	checkValidResponse(t, impl.Response{}, false)
	checkValidResponse(t, response(100, 1, "", 0, false, ""), true)
	checkValidResponse(t, response(599, 5, longestBody, 1000, true, "script a b c d;style e f g h;img i j k l;nonce abcdefghij/123456789"), true)
	// Nothing asks for a status that suits the contents, and nothing reserves policies for pages, although only these use them.
	checkValidResponse(t, response(404, 3, "p:7", 1000, true, "script;style;img"), true)
	checkValidResponse(t, response(500, 4, "", 5, true, "script home;style;img;nonce n7"), true)
	// The contents are not looked into.
	checkValidResponse(t, response(200, 2, "no script", 0, false, ""), true)
	checkValidResponse(t, response(200, 3, "\xff\x00", 0, false, ""), true)
}

func TestIsResponseOfStatuses(t *testing.T) {
	for _, kind := range kindsOfResponses {
		x := response(0, kind, "a", 5, true, "")
		for status := -700; status <= 1500; status++ {
			x.Status = status
			checkValidResponse(t, x, status >= 100 && status <= 599)
		}
	}
}

func TestIsResponseOfKinds(t *testing.T) {
	for _, body := range bodies {
		x := response(200, 0, body, 5, false, "")
		for kind := -300; kind <= 300; kind++ {
			x.Kind = kind
			checkValidResponse(t, x, kind >= 1 && kind <= 5)
		}
		for _, kind := range otherKinds {
			x.Kind = kind
			checkValidResponse(t, x, false)
		}
	}
	for kind := range 7 {
		checkValidResponse(t, response(404, kind, "", 0, false, ""), impl.KindName(kind) != "")
	}
}

func TestIsResponseOfBodies(t *testing.T) {
	for _, kind := range kindsOfResponses {
		for _, unit := range []string{"x", " ", "\x00", "\xff", "é", "日", "<p>", "say a;"} {
			x := response(200, kind, "", 5, false, "")
			for len(x.Body) < 1000 {
				checkValidResponse(t, x, len(x.Body) <= 400)
				x.Body += unit
			}
		}
	}
	// The limit is for the body alone.
	checkValidResponse(t, response(200, 1, longestBody, 1000, true, "script home cdn;style home cdn;img home cdn;nonce n7"), true)
	checkValidResponse(t, response(200, 1, tooLongBody, 0, false, ""), false)
}

func TestIsResponseOfAges(t *testing.T) {
	for _, status := range statuses {
		x := response(status, 1, "a", 0, false, "")
		for age := -1500; age <= 2500; age++ {
			x.Age = age
			checkValidResponse(t, x, age >= 0 && age <= 1000)
		}
	}
}

func TestIsResponseOfPolicies(t *testing.T) {
	for _, kind := range kindsOfResponses {
		x := plainResponse()
		x.Kind = kind
		for _, form := range formsOfPolicies() {
			x.Policy = form
			checkValidResponse(t, x, true)
			for _, more := range []string{" ", ";", "\n", "\x00", ";nonce"} {
				x.Policy = form + more
				checkValidResponse(t, x, false)
				x.Policy = more + form
				checkValidResponse(t, x, false)
			}
			if form != "" {
				x.Policy = strings.ToUpper(form)
				checkValidResponse(t, x, false)
			}
		}
		for _, form := range notForms {
			x.Policy = form
			checkValidResponse(t, x, false)
			if _, ok := impl.ParsePolicy(form); ok {
				t.Fatalf("ParsePolicy accepts %q", form)
			}
		}
		for _, p := range allPolicies() {
			x.Policy = formByWords(p)
			checkValidResponse(t, x, true)
		}
	}
}

// Each field is right or not, independently of the others.
func TestIsResponseOfAllFields(t *testing.T) {
	for _, status := range []int{99, 100, 200, 404, 599, 600, 0, -200} {
		for _, kind := range allKinds {
			for _, body := range []string{"", "a", longestBody, tooLongBody, strings.Repeat("é", 201)} {
				for _, age := range []int{-1, 0, 5, 1000, 1001} {
					for _, form := range []string{"", "script;style;img", "script home cdn;style;img home;nonce n7", "x", "script;style;img;nonce "} {
						for _, shares := range []bool{false, true} {
							x := response(status, kind, body, age, shares, form)
							checkValidResponse(t, x, validByLimits(x))
						}
					}
				}
			}
		}
	}
}

func TestNotFound(t *testing.T) {
	x := impl.NotFound()
	if x.Status != 404 || x.Kind != 1 || x.Body != "" || x.Age != 0 || x.Shares || x.Policy != "" {
		t.Fatal(shown(x))
	}
	checkValidResponse(t, x, true)
	checkEqualResponses(t, "NotFound twice", x, impl.NotFound(), true)
	checkEqualResponses(t, "NotFound", x, response(404, impl.KindPage, "", 0, false, ""), true)
	checkEqualResponses(t, "NotFound and the zero Response", x, impl.Response{}, false)
	for _, kind := range allKinds {
		checkFits(t, x, kind, kind == 1)
	}
	checkSize(t, x, 20)
	// What a caller makes of one is not seen in the next.
	x.Status, x.Kind, x.Body, x.Age, x.Shares, x.Policy = 200, 2, "say a", 5, true, "script;style;img"
	checkEqualResponses(t, "NotFound after a change", impl.NotFound(), response(404, 1, "", 0, false, ""), true)
}

// knownDigests has digests that were computed outside the program.
var knownDigests = []struct {
	body   string
	digest int
}{
	{"", 818760670},
	{"a", 627125021},
	{"b", 627125022},
	{"say a", 1117511959},
	{"say b", 1117511960},
	{"hi", 833529593},
	{" ", 627124956},
	{"0", 627124972},
	{"\x00", 627124924},
	{"\x00\x00", 729529176},
	{"\xff", 627125179},
	{"é", 924529930},
	{"p:7;i:9", 20546997}, // of eight digits
	{"<p>hello</p>", 1522619842},
	{"abcdefghijklmnopqrstuvwxyz", 961413604},
	{strings.Repeat("x", 399), 252745631},
	{longestBody, 563555982},
	{tooLongBody, 115344873},
	{strings.Repeat("é", 200), 64833422},
	{strings.Repeat("é", 201), 1530458125},
	{strings.Repeat("x", 100000), 397492768},
	// The first and the last digests there are, short ones, and the first of ten digits.
	{"gcencml", 0},
	{"gcencmm", 1},
	{"gcencmu", 9},
	{"gcencmv", 10},
	{"xmevapl", 99},
	{"xmevapm", 100},
	{"ftdfvpk", 1000000000},
	{"gcencmk", 2147483646},
}

func TestDigestOf(t *testing.T) {
	for _, c := range knownDigests {
		checkBodyDigest(t, c.body, c.digest)
		checkBodyDigest(t, strings.Clone(c.body), c.digest)
	}
	for _, body := range allBodies {
		checkBodyDigest(t, body, digestByFold(body))
		checkBodyDigest(t, body, impl.Hash(slices.Concat([]int{151}, impl.BytesToInts([]byte(body)))))
	}
}

func TestDigestOfEveryLength(t *testing.T) {
	for _, unit := range []string{"x", "\x00", "\xff", "é", "say a;"} {
		body := ""
		for len(body) < 1000 {
			checkBodyDigest(t, body, digestByFold(body))
			body += unit
		}
	}
}

func TestDigestOfEveryByte(t *testing.T) {
	for c := range 256 {
		body := string([]byte{byte(c)})
		checkBodyDigest(t, body, foldedHash([]int{151, 1, c}))
		checkBodyDigest(t, "a"+body+"\xc3", foldedHash([]int{151, 3, 97, c, 195}))
		checkBodyDigest(t, strings.Repeat(body, 400), digestByFold(strings.Repeat(body, 400)))
	}
}

// Lists of numbers that a digest might take for those of the chapter.
func TestDigestOfIsOfTheNamedNumbers(t *testing.T) {
	for _, body := range allBodies {
		numbers := impl.BytesToInts([]byte(body))
		for i, list := range [][]int{numbers, numbers[1:], slices.Concat([]int{151}, numbers[1:]), slices.Concat([]int{150}, numbers), slices.Concat([]int{152}, numbers), slices.Concat(numbers, []int{151}), slices.Concat([]int{151}, numbers, []int{151}), slices.Concat([]int{len(body) + 1, 151}, numbers[1:])} {
			if got := impl.DigestOf(body); got == foldedHash(list) {
				t.Errorf("DigestOf(%.50q) is the hash of another list (%d)", body, i)
			}
		}
	}
}

func randomBody(random *rand.Rand, size int) string {
	body := make([]byte, size)
	for i := range body {
		body[i] = byte(random.IntN(256))
	}
	return string(body)
}

// P10: every body passes with its own digest, and none of these with that of another one.
func TestBodiesHaveTheirOwnDigests(t *testing.T) {
	for i, body := range allBodies {
		for j, other := range allBodies {
			if (impl.DigestOf(body) == impl.DigestOf(other)) != (i == j) {
				t.Fatalf("the digests of %.50q and %.50q are %d and %d", body, other, impl.DigestOf(body), impl.DigestOf(other))
			}
			checkDigestValue(t, body, impl.FormatInt(impl.DigestOf(other)), i == j)
		}
	}
}

// P10: whatever one changes in a body, it does not pass any more.
func TestChangedBodiesHaveOtherDigests(t *testing.T) {
	for _, body := range bodies {
		value := impl.FormatInt(impl.DigestOf(body))
		checkDigestValue(t, body, value, true)
		step := 1 + len(body)/20
		for i := 0; i < len(body); i += step {
			for change := 1; change < 256; change += 1 + len(body)/100 {
				changed := []byte(body)
				changed[i] += byte(change)
				checkDigestValue(t, string(changed), value, false)
			}
			checkDigestValue(t, body[:i], value, false)
			checkDigestValue(t, body[i+1:], value, false)
			checkDigestValue(t, body[:i]+body[i+1:], value, false)
		}
		for _, more := range []string{"\x00", " ", "a", "\n", "\xff", "\x00\x00", body + "x"} {
			checkDigestValue(t, body+more, value, false)
			checkDigestValue(t, more+body, value, false)
		}
	}
}

func TestDigestsOfRandomBodies(t *testing.T) {
	random := rand.New(rand.NewPCG(10, 1))
	for size := range 450 {
		body, other := randomBody(random, size), randomBody(random, size+random.IntN(2))
		checkBodyDigest(t, body, digestByFold(body))
		checkDigestValue(t, body, "", true)
		checkDigestValue(t, body, impl.FormatInt(digestByFold(body)), true)
		checkDigestValue(t, body, impl.FormatInt(digestByFold(other)), body == other)
	}
}

// These were searched for: different bodies may have the same digest, and are not told apart then.
func TestBodiesWithTheSameDigest(t *testing.T) {
	for _, same := range [][]string{{"say a", "grfomkq", "nnjwgtb"}, {"", "skvvosm", "tbkyxyb", "zriiuhv"}, {"a", "gyintqe", "kpqytbb", "mdpfknh"}, {"gcencml", "mclhxev", "oqsbiwu"}} {
		for _, body := range same {
			for _, other := range same {
				checkBodyDigest(t, body, impl.DigestOf(other))
				checkDigestValue(t, body, impl.FormatInt(impl.DigestOf(other)), true)
			}
		}
	}
}

func TestCheckDigest(t *testing.T) {
	for _, c := range knownDigests {
		checkDigestValue(t, c.body, fmt.Sprint(c.digest), true)
		checkDigestValue(t, c.body, "", true)
		checkDigestValue(t, c.body, fmt.Sprint(c.digest+1), false)
		checkDigestValue(t, c.body, fmt.Sprint(c.digest-1), false)
		checkDigestValue(t, c.body+"x", fmt.Sprint(c.digest), false)
	}
	for _, body := range allBodies {
		digest := digestByFold(body)
		for _, near := range []int{-1000, -100, -10, -2, -1, 0, 1, 2, 10, 100, 1000, impl.Modulus, -impl.Modulus, 2 * impl.Modulus, 1 << 31, 1 << 32, -1 << 32, 1 << 40} {
			checkDigestValue(t, body, fmt.Sprint(digest+near), near == 0)
		}
		checkDigestValue(t, body, fmt.Sprint(-digest), false)
		checkDigestValue(t, body, "", true)
	}
	checkDigestValue(t, "", "", true)
	checkDigestValue(t, "", "818760670", true)
	checkDigestValue(t, "818760670", "818760670", false)
	checkDigestValue(t, "", "0", false)
	checkDigestValue(t, "gcencml", "0", true) // the digest itself, which is not the same as no value
	checkDigestValue(t, "gcencml", "-0", false)
	checkDigestValue(t, "gcencml", "00", false)
}

// otherForms has texts that are near d, a digest in its own form, or that stand for the same number in another form.
func otherForms(d string) []string {
	l := []string{"0" + d, "00" + d, "+" + d, "-" + d, "--" + d, " " + d, d + " ", " " + d + " ", "\t" + d, d + "\t", "\n" + d, d + "\n", d + "\r\n", "\u00a0" + d, "\x00" + d, d + "\x00", d + "\xff", d + "0", d + "1", "1" + d, "9" + d, d + "00", d + d, d + "," + d, d + " " + d, "," + d,
		d + ".", d + ".0", d + "e0", "0x" + d, "0b" + d, "0o" + d, "0d" + d, "#" + d, "=" + d, "\"" + d + "\"", "'" + d + "'", "(" + d + ")", "sha-" + d, "d" + d, d + "n", d + "/", "/" + d, d[:1] + "_" + d[1:], d[:1] + "," + d[1:], d[:1] + " " + d[1:], "１" + d[1:]}
	for i := range len(d) {
		l = append(l, d[:i]+d[i+1:], d[:i], d[i+1:])
		for c := byte('0'); c <= '9'; c++ {
			l = append(l, d[:i]+string(c)+d[i+1:], d[:i]+string(c)+d[i:])
		}
		l = append(l, d[:i]+"x"+d[i+1:], d[:i]+"٣"+d[i+1:], d[:i]+strings.Repeat(d[i:i+1], 2)+d[i+1:])
	}
	return l
}

func TestCheckDigestOfOtherForms(t *testing.T) {
	for _, c := range knownDigests {
		d := fmt.Sprint(c.digest)
		for _, value := range otherForms(d) {
			checkDigestValue(t, c.body, value, value == d || value == "") // some leave nothing of a short digest
		}
		digest := int64(c.digest)
		for _, format := range []string{"%x", "%X", "%#x", "%o", "%#o", "%b", "%e", "%+d", "%20d", "%020d", "%q", "%c", "%U"} {
			if value := fmt.Sprintf(format, digest); value != d {
				checkDigestValue(t, c.body, value, false)
			}
		}
	}
}

func TestCheckDigestOfNoNumbers(t *testing.T) {
	for _, body := range allBodies {
		for _, value := range slices.Concat([]string{"-", "+", ".", "x", "n7", "/", "any", "none", "null", "nil", "true", "NaN", "é", "\xff", "\x00", "٣", "1e3", "0x1f", "9223372036854775807", "9223372036854775808", "-9223372036854775808", "99999999999999999999999999", strings.Repeat("0", 1000), strings.Repeat("9", 100000)}, notNonces) {
			checkDigestValue(t, body, value, false)
		}
		if body != "" {
			checkDigestValue(t, body, body, false) // a body is not its own digest
		}
	}
}

func TestFitsKind(t *testing.T) {
	script, module := plainResponse(), plainResponse()
	module.Kind = impl.KindModule
	checkFits(t, script, impl.KindModule, true)
	checkFits(t, module, impl.KindScript, false)
	checkFits(t, module, impl.KindModule, true)
	checkFits(t, script, impl.KindScript, true)
	for i, name := range kindNames {
		for j, other := range kindNames {
			x := plainResponse()
			x.Kind = i + 1
			checkFits(t, x, j+1, name == other || name == "script" && other == "module")
		}
	}
}

// A Kind that is none is still itself.
func TestFitsKindsThatAreNone(t *testing.T) {
	for _, kind := range allKinds {
		x := plainResponse()
		x.Kind = kind
		for _, asked := range allKinds {
			checkFits(t, x, asked, kind == asked || kind == 2 && asked == 5)
		}
		for asked := -300; asked <= 300; asked++ {
			checkFits(t, x, asked, kind == asked || kind == 2 && asked == 5)
		}
	}
	checkFits(t, impl.Response{}, 0, true)
	checkFits(t, impl.Response{}, 1, false)
	checkFits(t, impl.Response{Kind: -1}, -1, true)
	checkFits(t, impl.Response{Kind: 6}, 6, true)
	checkFits(t, impl.Response{Kind: 6}, 5, false)
	checkFits(t, impl.Response{Kind: 0}, 5, false)
}

// Only the Kind counts: a response fits whatever else is wrong with it.
func TestFitsKindOfOddResponses(t *testing.T) {
	for _, x := range allResponses() {
		for _, kind := range allKinds {
			checkFits(t, x, kind, x.Kind == kind || x.Kind == 2 && kind == 5)
		}
	}
}

func TestSizeResponse(t *testing.T) {
	checkSize(t, plainResponse(), 25)
	checkSize(t, impl.Response{}, 20)
	checkSize(t, impl.Response{Body: "é"}, 22)
	checkSize(t, impl.Response{Body: "日本"}, 26)
	checkSize(t, impl.Response{Body: "\xff"}, 21)
	checkSize(t, impl.Response{Body: longestBody}, 420)
	checkSize(t, impl.Response{Body: tooLongBody}, 421)
	checkSize(t, impl.Response{Body: strings.Repeat("é", 201)}, 422)
	checkSize(t, impl.Response{Body: strings.Repeat("x", 100000)}, 100020)
	for size := range 1000 {
		checkSize(t, response(200, 1, strings.Repeat("x", size), 5, false, ""), size+20)
	}
}

// Nothing but the Body counts.
func TestSizeOfAllResponses(t *testing.T) {
	for _, x := range allResponses() {
		checkSize(t, x, len(x.Body)+20)
		for _, body := range []string{"", "a", "é", longestBody, tooLongBody} {
			x.Body = body
			checkSize(t, x, len(body)+20)
		}
	}
}

func TestEqualResponses(t *testing.T) {
	l := allResponses()
	for i, a := range l {
		for j, b := range l {
			checkEqualResponses(t, "two responses", a, b, i == j)
		}
		copied := a
		copied.Body, copied.Policy = strings.Clone(a.Body), strings.Clone(a.Policy)
		checkEqualResponses(t, "its copy", a, copied, true)
	}
	checkEqualResponses(t, "zero", impl.Response{}, impl.Response{}, true)
	checkEqualResponses(t, "the same fields", plainResponse(), response(200, 2, "say a", 5, false, ""), true)
}

// responseChanges change one field each, to a value that it does not have.
var responseChanges = []func(*impl.Response){
	func(x *impl.Response) { x.Status++ },
	func(x *impl.Response) { x.Status-- },
	func(x *impl.Response) { x.Status = ^x.Status },
	func(x *impl.Response) { x.Status ^= 1 << 32 },
	func(x *impl.Response) { x.Kind++ },
	func(x *impl.Response) { x.Kind-- },
	func(x *impl.Response) { x.Kind = ^x.Kind },
	func(x *impl.Response) { x.Kind += 256 },
	func(x *impl.Response) { x.Body += "x" },
	func(x *impl.Response) { x.Body += "\x00" },
	func(x *impl.Response) { x.Body = " " + x.Body },
	func(x *impl.Response) { x.Age++ },
	func(x *impl.Response) { x.Age-- },
	func(x *impl.Response) { x.Age = ^x.Age },
	func(x *impl.Response) { x.Age ^= 1 << 32 },
	func(x *impl.Response) { x.Shares = !x.Shares },
	func(x *impl.Response) { x.Policy += "x" },
	func(x *impl.Response) { x.Policy += ";nonce n7" },
	func(x *impl.Response) { x.Policy = ";" + x.Policy },
}

func TestResponsesThatDifferInOneField(t *testing.T) {
	for _, x := range allResponses() {
		for i, change := range responseChanges {
			changed := x
			change(&changed)
			checkEqualResponses(t, fmt.Sprintf("change %d", i), x, changed, false)
		}
		for i := range x.Body[:min(len(x.Body), 20)] {
			changed := x
			changed.Body = x.Body[:i] + "#" + x.Body[i+1:]
			checkEqualResponses(t, "another byte in the Body", x, changed, false)
			changed.Body = x.Body[:i]
			checkEqualResponses(t, "a shorter Body", x, changed, false)
		}
		for i := range x.Policy {
			changed := x
			changed.Policy = x.Policy[:i] + "#" + x.Policy[i+1:]
			checkEqualResponses(t, "another byte in the Policy", x, changed, false)
			changed.Policy = x.Policy[:i]
			checkEqualResponses(t, "a shorter Policy", x, changed, false)
		}
	}
}

func TestResponsesThatAreAlike(t *testing.T) {
	checkEqualResponses(t, "Status and Kind exchanged", response(2, 4, "", 0, false, ""), response(4, 2, "", 0, false, ""), false)
	checkEqualResponses(t, "Status and Age exchanged", response(200, 1, "", 404, false, ""), response(404, 1, "", 200, false, ""), false)
	checkEqualResponses(t, "Kind and Age exchanged", response(200, 1, "", 5, false, ""), response(200, 5, "", 1, false, ""), false)
	checkEqualResponses(t, "Body and Policy exchanged", response(200, 1, "a", 0, false, "b"), response(200, 1, "b", 0, false, "a"), false)
	checkEqualResponses(t, "Body and Policy joined", response(200, 1, "ab", 0, false, "c"), response(200, 1, "a", 0, false, "bc"), false)
	checkEqualResponses(t, "a module and a script that fits", response(200, 2, "say a", 0, false, ""), response(200, 5, "say a", 0, false, ""), false)
	checkEqualResponses(t, "the same digest", response(200, 2, "say a", 0, false, ""), response(200, 2, "grfomkq", 0, false, ""), false)
	checkEqualResponses(t, "the same characters in other bytes", response(200, 2, "é", 0, false, ""), response(200, 2, "e\u0301", 0, false, ""), false)
	checkEqualResponses(t, "two bytes that are no characters", response(200, 2, "\xff", 0, false, ""), response(200, 2, "\xfe", 0, false, ""), false)
	checkEqualResponses(t, "policies that allow the same", response(200, 1, "", 0, false, "script a b;style;img"), response(200, 1, "", 0, false, "script b a;style;img"), false)
	checkEqualResponses(t, "policies without hosts and not Set", response(200, 1, "", 0, false, "script;style;img"), response(200, 1, "", 0, false, ""), false)
	checkEqualResponses(t, "no policies", response(200, 1, "", 0, false, "x"), response(200, 1, "", 0, false, "y"), false)
	checkEqualResponses(t, "the same length beyond the limit", response(200, 1, tooLongBody+"a", 0, false, ""), response(200, 1, tooLongBody+"b", 0, false, ""), false)
	checkEqualResponses(t, "the same beginning up to the limit", response(200, 1, tooLongBody, 0, false, ""), response(200, 1, tooLongBody+"x", 0, false, ""), false)
	checkEqualResponses(t, "not valid, and the same", response(-1, 6, tooLongBody, 1001, true, "x"), response(-1, 6, strings.Clone(tooLongBody), 1001, true, "x"), true)
}

func randomResponse(random *rand.Rand) impl.Response {
	pick := func(l []int) int { return l[random.IntN(len(l))] }
	return response(pick([]int{200, 404, 99, 600}), pick([]int{1, 2, 5, 6}), []string{"", "a", "b", longestBody, tooLongBody}[random.IntN(5)], pick([]int{0, 1, 1000, 1001}), random.IntN(2) == 0, []string{"", "script;style;img", "x"}[random.IntN(3)])
}

func TestRandomResponses(t *testing.T) {
	random := rand.New(rand.NewPCG(10, 2))
	for range 20000 {
		a, b := randomResponse(random), randomResponse(random)
		checkEqualResponses(t, "random responses", a, b, sameResponse(a, b))
		checkValidResponse(t, a, validByLimits(a))
		checkSize(t, a, len(a.Body)+20)
		checkFits(t, a, b.Kind, a.Kind == b.Kind || a.Kind == 2 && b.Kind == 5)
		checkDigestValue(t, a.Body, impl.FormatInt(impl.DigestOf(b.Body)), a.Body == b.Body)
	}
}
