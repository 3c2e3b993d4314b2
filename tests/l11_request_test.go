package tests

import (
	"fmt"
	"math"
	"math/big"
	"math/rand/v2"
	"slices"
	"strconv"
	"strings"
	"testing"

	"loop.example/g00586/impl"
)

// verdictNames has the names of the codes in the order of their numbers, which begin with 1.
var verdictNames = []string{"ok", "policy", "status", "kind", "share", "digest"}

// digestOfSayA is the digest of the body "say a", computed outside the program.
const digestOfSayA = "1117511959"

// digestValues has values that a request may have as its Digest: digests in their form and in others, and what is no number.
var digestValues = []string{digestOfSayA, "1117511960", "0" + digestOfSayA, "00000000001117511959", "0", "00", "5", "x", "/", "n7", "sha/abc", "1e9", "0x429bf997", "818760670", "18446744074827063575", "99999999999999999999", "abcdefghij/123456789"}

// notDigestValues has what is no value, some of it a digest in another form.
var notDigestValues = slices.Concat(notNonces, []string{"-" + digestOfSayA, "+" + digestOfSayA, " " + digestOfSayA, digestOfSayA + " ", digestOfSayA + "\n", digestOfSayA + ".0", "000000000001117511959", "1_117_511_959", "-0", "-5", "0X429BF997", "\x00", "１117511959"})

func request(kind int, host string, path string, from string, digest string) impl.Request {
	return impl.Request{Kind: kind, To: addr(host, path), From: from, Digest: digest}
}

// plainRequest is valid, and asks another host; tests change it.
func plainRequest() impl.Request {
	return request(2, "cdn", "lib", "home", "")
}

// someRequests has valid requests of each kind to the page's own host and to another one, all of them different.
func someRequests() []impl.Request {
	l := []impl.Request{}
	for i, kind := range kindsOfResponses {
		for _, host := range []string{"home", "cdn", "evil"} {
			for _, digest := range []string{"", digestOfSayA, "0" + digestOfSayA, "x"} {
				l = append(l, request(kind, host, "lib", "home", digest))
			}
		}
		l = append(l, request(kind, names[2*i], names[2*i+1], names[3*i], digestValues[i]), request(kind, "abcdefgh", "zzzzzzzz", "zzzzzzzz", ""), request(kind, "a", "b", "c", ""))
	}
	return l
}

// oddRequests has requests that are not valid in one field or in all of them, all of them different; functions are called on them all the same.
func oddRequests() []impl.Request {
	l := []impl.Request{{}, {Kind: 2}, {To: addr("cdn", "lib")}, {From: "home"}, {Digest: "5"}}
	for _, kind := range otherKinds {
		l = append(l, request(kind, "cdn", "lib", "home", ""), request(kind, "home", "lib", "home", digestOfSayA))
	}
	for i, name := range notNames {
		kind := kindsOfResponses[i%5]
		l = append(l, request(kind, name, "lib", "home", ""), request(kind, "cdn", name, "home", ""), request(kind, "cdn", "lib", name, ""), request(kind, name, "lib", name, ""), request(kind, name, name, name, name+" "))
	}
	for i, value := range notDigestValues {
		l = append(l, request(kindsOfResponses[i%5], "cdn", "lib", "home", value), request(otherKinds[i%len(otherKinds)], "", "Lib", "home ", value+value))
	}
	return l
}

func allRequests() []impl.Request {
	return slices.Concat(someRequests(), oddRequests())
}

// requestPolicies has policies to check the requests by: unset, with nothing, with hosts of the requests for each kind, and not valid.
func requestPolicies() []impl.Policy {
	return []impl.Policy{{}, withNonce(""), withNonce("n7"), withList(0, "cdn"), withList(1, "cdn"), withList(2, "cdn"), withList(0, "home"), policy("home cdn", "home cdn", "home cdn", ""), policy("evil", "home", "cdn", "n8"),
		withList(0, "Cdn", "", "abcdefghi"), withList(1, "", "A"), withList(2, "Cdn", "cdn ", " "), {Scripts: []string{"home"}}, withList(0, "a", "b", "home", "evil", "abcdefgh", "cdn")}
}

// The checks of requests end a test at the first failure: they are called very often.

func checkValidRequest(t *testing.T, r impl.Request, want bool) {
	t.Helper()
	if got := impl.IsRequest(r); got != want {
		t.Fatalf("IsRequest(%#v) is %t", r, got)
	}
}

func checkRequest(t *testing.T, p impl.Policy, r impl.Request, want int) {
	t.Helper()
	if got := impl.CheckRequest(p, r); got != want {
		t.Fatalf("CheckRequest(%s, %#v) is %d, not %d", quoted(p), r, got, want)
	}
}

// checkVerdict looks at UsableBody too, which has to go with CheckResponse.
func checkVerdict(t *testing.T, p impl.Policy, r impl.Request, x impl.Response, want int) {
	t.Helper()
	if got := impl.CheckResponse(p, r, x); got != want {
		t.Fatalf("CheckResponse(%s, %#v, %s) is %d, not %d", quoted(p), r, shown(x), got, want)
	}
	usable := ""
	if want == 1 {
		usable = x.Body
	}
	if body, ok := impl.UsableBody(p, r, x); body != usable || ok != (want == 1) {
		t.Fatalf("UsableBody(%s, %#v, %s) is %.50q, %t, but the verdict is %d", quoted(p), r, shown(x), body, ok, want)
	}
}

func checkGuess(t *testing.T, r impl.Request, want bool) {
	t.Helper()
	if got := impl.CanGuess(r); got != want {
		t.Fatalf("CanGuess(%#v) is %t", r, got)
	}
}

func checkSame(t *testing.T, a impl.Request, b impl.Request, want bool) {
	t.Helper()
	if impl.SameRequest(a, b) != want || impl.SameRequest(b, a) != want {
		t.Fatalf("SameRequest(%#v, %#v) is %t, the other way round %t", a, b, impl.SameRequest(a, b), impl.SameRequest(b, a))
	}
}

func validRequestByForms(r impl.Request) bool {
	return slices.Contains(kindsOfResponses, r.Kind) && nameForm.MatchString(r.To.Host) && nameForm.MatchString(r.To.Path) && nameForm.MatchString(r.From) && (r.Digest == "" || valueForm.MatchString(r.Digest))
}

func requestByLists(p impl.Policy, r impl.Request) int {
	if validRequestByForms(r) && (r.Kind == 1 || allowsByLists(p, r.Kind, r.To.Host)) {
		return 1
	}
	return 2
}

// failing makes every check alone, whatever the others say, and has the codes of those that fail.
func failing(p impl.Policy, r impl.Request, x impl.Response) []int {
	elsewhere, secret := r.From != r.To.Host, r.Kind == 5 || len(r.Digest) > 0
	fails := []bool{
		2: requestByLists(p, r) == 2,
		3: x.Status != 200 || !validByLimits(x),
		4: !(r.Kind == x.Kind || r.Kind == 5 && x.Kind == 2),
		5: elsewhere && secret && !x.Shares,
		6: len(r.Digest) > 0 && r.Digest != strconv.Itoa(digestByFold(x.Body)),
	}
	codes := []int{}
	for code, fail := range fails {
		if fail {
			codes = append(codes, code)
		}
	}
	return codes
}

// firstOf has the verdict where the checks with these codes fail.
func firstOf(codes []int) int {
	if len(codes) == 0 {
		return 1
	}
	return slices.Min(codes)
}

func TestVerdictConstants(t *testing.T) {
	if impl.VdOk != 1 || impl.VdPolicy != 2 || impl.VdStatus != 3 || impl.VdKind != 4 || impl.VdShare != 5 || impl.VdDigest != 6 {
		t.Error(impl.VdOk, impl.VdPolicy, impl.VdStatus, impl.VdKind, impl.VdShare, impl.VdDigest)
	}
}

func TestIsRequest(t *testing.T) {
	for _, r := range someRequests() {
		checkValidRequest(t, r, true)
	}
	for _, r := range oddRequests() {
		checkValidRequest(t, r, false)
	}
	checkValidRequest(t, impl.Request{}, false)
	checkValidRequest(t, request(1, "home", "main", "home", ""), true)
	checkValidRequest(t, request(1, "home", "main", "home", "5"), true) // pages may have a digest like others
	checkValidRequest(t, request(5, "abcdefgh", "zzzzzzzz", "aaaaaaaa", "abcdefghij/123456789"), true)
}

func TestIsRequestOfKinds(t *testing.T) {
	for _, digest := range []string{"", "5"} {
		for _, from := range []string{"home", "cdn"} {
			for kind := -300; kind <= 300; kind++ {
				checkValidRequest(t, request(kind, "cdn", "lib", from, digest), kind >= 1 && kind <= 5)
			}
			for _, kind := range allKinds {
				checkValidRequest(t, request(kind, "cdn", "lib", from, digest), impl.KindName(kind) != "")
			}
		}
	}
}

func TestIsRequestOfNames(t *testing.T) {
	for _, kind := range kindsOfResponses {
		for _, name := range slices.Concat(names, notNames) {
			is := slices.Contains(names, name)
			checkValidRequest(t, request(kind, name, "lib", "home", ""), is)
			checkValidRequest(t, request(kind, "cdn", name, "home", ""), is)
			checkValidRequest(t, request(kind, "cdn", "lib", name, ""), is)
			checkValidRequest(t, request(kind, name, name, name, "5"), is)
		}
	}
	checkValidRequest(t, request(2, "home/app", "lib", "home", ""), false)
	checkValidRequest(t, request(2, "cdn", "cdn/lib", "home", ""), false)
	checkValidRequest(t, request(2, "cdn", "lib", "home/app", ""), false)
}

func TestIsRequestOfDigests(t *testing.T) {
	for _, kind := range kindsOfResponses {
		r := request(kind, "cdn", "lib", "home", "")
		checkValidRequest(t, r, true)
		for _, r.Digest = range digestValues {
			checkValidRequest(t, r, true)
		}
		for _, r.Digest = range notDigestValues {
			checkValidRequest(t, r, false)
		}
		for c := range 256 {
			r.Digest = string([]byte{byte(c)})
			checkValidRequest(t, r, valueForm.MatchString(r.Digest) && c != '\n')
		}
		for size := range 50 {
			r.Digest = strings.Repeat("5", size)
			checkValidRequest(t, r, size <= 20)
		}
	}
}

// Each field is right or not, independently of the others.
func TestIsRequestOfAllFields(t *testing.T) {
	for _, kind := range allKinds {
		for _, host := range []string{"home", "abcdefgh", "", "Home", "abcdefghi"} {
			for _, path := range []string{"app", "zzzzzzzz", "", "app ", "aaaaaaaaa"} {
				for _, from := range []string{"home", "cdn", "", "home/app", "abcdefghi"} {
					for _, digest := range []string{"", "5", "05", "-5", strings.Repeat("5", 21)} {
						r := request(kind, host, path, from, digest)
						checkValidRequest(t, r, validRequestByForms(r))
					}
				}
			}
		}
	}
}

func TestCheckRequest(t *testing.T) {
	lists := map[int]int{2: 0, 3: 1, 4: 2, 5: 0}
	for _, kind := range kindsOfResponses {
		for _, host := range []string{"home", "cdn"} {
			for _, digest := range []string{"", digestOfSayA, "0" + digestOfSayA, "x"} {
				r := request(kind, host, "lib", "home", digest)
				checkRequest(t, impl.Policy{}, r, impl.VdOk)
				checkRequest(t, policy("home cdn", "home cdn", "home cdn", ""), r, impl.VdOk)
				if kind == impl.KindPage {
					continue
				}
				// The page's own host needs to be named like others.
				checkRequest(t, policy("", "", "", ""), r, impl.VdPolicy)
				checkRequest(t, policy("evil", "evil other", "evil", "n7"), r, impl.VdPolicy)
				for n := range partWords {
					want := impl.VdPolicy
					if n == lists[kind] {
						want = impl.VdOk
					}
					checkRequest(t, withList(n, host), r, want)
					checkRequest(t, withList(n, "evil", host, "other"), r, want)
					checkRequest(t, withList(n, "lib", host+"x", host[1:]), r, impl.VdPolicy)
				}
			}
		}
	}
}

// What asks for a page is not asked for by a page's contents, so no policy counts.
func TestCheckRequestOfPages(t *testing.T) {
	for _, p := range allPolicies() {
		for _, r := range allRequests() {
			r.Kind = impl.KindPage
			want := impl.VdPolicy
			if validRequestByForms(r) {
				want = impl.VdOk
			}
			checkRequest(t, p, r, want)
		}
	}
}

func TestCheckRequestOfOddRequests(t *testing.T) {
	for _, r := range oddRequests() {
		for _, p := range requestPolicies() {
			checkRequest(t, p, r, impl.VdPolicy)
		}
		// Not even a policy that names what is no name makes the request valid.
		named := []string{r.To.Host, r.From, "cdn", ""}
		checkRequest(t, impl.Policy{Set: true, Scripts: named, Styles: named, Images: named}, r, impl.VdPolicy)
		checkRequest(t, impl.Policy{Scripts: named, Styles: named, Images: named}, r, impl.VdPolicy)
	}
}

func TestCheckRequestOfAllPolicies(t *testing.T) {
	for _, p := range slices.Concat(allPolicies(), requestPolicies()) {
		for _, kind := range allKinds {
			for _, host := range askedHosts {
				for _, from := range []string{"home", host} {
					r := request(kind, host, "lib", from, "")
					checkRequest(t, p, r, requestByLists(p, r))
				}
			}
		}
		for _, r := range allRequests() {
			checkRequest(t, p, r, requestByLists(p, r))
		}
	}
}

// usage is what a verdict is about: a page with the policy asked for r and got x.
type usage struct {
	policy impl.Policy
	r      impl.Request
	x      impl.Response
}

// passing passes every check, with a request that needs the response's permission and digest.
func passing(kind int) usage {
	return usage{policy("home cdn", "cdn home", "cdn", "n7"), request(kind, "cdn", "lib", "home", digestOfSayA), response(200, kind, "say a", 5, true, "")}
}

// waysToFail has changes to what passes, by the code of the check that each of them makes fail alone.
func waysToFail(kind int) map[int][]func(*usage) {
	ways := map[int][]func(*usage){
		2: {
			func(u *usage) { u.r.From = "" },
			func(u *usage) { u.r.From = "homepages" },
			func(u *usage) { u.r.To.Path = "Lib" },
			func(u *usage) { u.r.To.Host = "cdn " },
		},
		3: {
			func(u *usage) { u.x.Status = 404 },
			func(u *usage) { u.x.Status = 199 },
			func(u *usage) { u.x.Status = 201 },
			func(u *usage) { u.x.Status = 0 },
			func(u *usage) { u.x.Age = -1 },
			func(u *usage) { u.x.Age = 1001 },
			func(u *usage) { u.x.Policy = "script;style" },
		},
		4: {
			func(u *usage) { u.x.Kind = 1 + (kind+2)%5 }, // for a script a module, for a module a style
		},
		5: {
			func(u *usage) { u.x.Shares = false },
		},
		6: {
			func(u *usage) { u.r.Digest = "0" + digestOfSayA },
			func(u *usage) { u.r.Digest = "818760670" },
			func(u *usage) { u.r.Digest = "x" },
			func(u *usage) { u.x.Body = "say b" },
			func(u *usage) { u.x.Body = "" },
		},
	}
	if kind != impl.KindPage {
		ways[2] = append(ways[2],
			func(u *usage) { u.policy = policy("", "", "", "") },
			func(u *usage) { u.policy = policy("home", "home", "home", "n7") },
			func(u *usage) { u.r.To.Host = "evil" })
	}
	return ways
}

// setsOfWays has every choice of at most one way for each check from the code on; each choice is a list of codes and one of changes.
func setsOfWays(ways map[int][]func(*usage), code int) (sets [][]int, changes [][]func(*usage)) {
	if code > 6 {
		return [][]int{nil}, [][]func(*usage){nil}
	}
	laterSets, laterChanges := setsOfWays(ways, code+1)
	sets, changes = slices.Clone(laterSets), slices.Clone(laterChanges)
	for _, way := range ways[code] {
		for i, later := range laterSets {
			sets = append(sets, append([]int{code}, later...))
			changes = append(changes, append([]func(*usage){way}, laterChanges[i]...))
		}
	}
	return sets, changes
}

// P11: with every set of checks that fail, in every way of each of them, the first code of the chapter's order is the verdict.
func TestVerdictsOfAllSetsOfFailingChecks(t *testing.T) {
	for _, kind := range kindsOfResponses {
		sets, changes := setsOfWays(waysToFail(kind), 2)
		if len(sets) < 5*8*2*2*6 {
			t.Fatalf("%d sets of ways", len(sets))
		}
		for i, codes := range sets {
			u := passing(kind)
			for _, change := range changes[i] {
				change(&u)
			}
			if got := failing(u.policy, u.r, u.x); !slices.Equal(got, codes) {
				t.Fatalf("%s, %#v, %s fails the checks %d, not %d", quoted(u.policy), u.r, shown(u.x), got, codes)
			}
			checkVerdict(t, u.policy, u.r, u.x, firstOf(codes))
		}
	}
}

// P11: a page may use what passes all checks.
func TestPassingResponses(t *testing.T) {
	for _, kind := range kindsOfResponses {
		u := passing(kind)
		p, r, x := u.policy, u.r, u.x
		checkVerdict(t, p, r, x, impl.VdOk)
		checkVerdict(t, impl.Policy{}, r, x, impl.VdOk)
		r.Digest = ""
		checkVerdict(t, p, r, x, impl.VdOk)
		x.Shares = kind == impl.KindModule
		checkVerdict(t, p, r, x, impl.VdOk)
		r.From, x.Shares, r.Digest = "cdn", false, digestOfSayA
		checkVerdict(t, p, r, x, impl.VdOk)
		// An empty body is usable too.
		x.Body, r.Digest = "", ""
		checkVerdict(t, p, r, x, impl.VdOk)
		r.Digest = "818760670"
		checkVerdict(t, p, r, x, impl.VdOk)
		// The response's own Policy is for the page that it is, not for its use.
		for _, x.Policy = range formsOfPolicies() {
			checkVerdict(t, p, r, x, impl.VdOk)
		}
		for _, x.Age = range ages {
			checkVerdict(t, p, r, x, impl.VdOk)
		}
	}
}

func TestVerdictsOfStatuses(t *testing.T) {
	for _, kind := range kindsOfResponses {
		u := passing(kind)
		for u.x.Status = -300; u.x.Status <= 1000; u.x.Status++ {
			want := impl.VdStatus
			if u.x.Status == 200 {
				want = impl.VdOk
			}
			checkVerdict(t, u.policy, u.r, u.x, want)
		}
		for _, u.x.Status = range notStatuses {
			checkVerdict(t, u.policy, u.r, u.x, impl.VdStatus)
		}
		checkVerdict(t, u.policy, u.r, impl.Response{}, impl.VdStatus)
		checkVerdict(t, u.policy, u.r, impl.NotFound(), impl.VdStatus)
	}
}

// A response that is not valid in one field alone has the verdict of its status, although that is 200.
func TestVerdictsOfOddResponses(t *testing.T) {
	for _, kind := range kindsOfResponses {
		u := passing(kind)
		for _, u.x.Age = range notAges {
			checkVerdict(t, u.policy, u.r, u.x, impl.VdStatus)
		}
		u = passing(kind)
		for _, u.x.Policy = range notForms {
			checkVerdict(t, u.policy, u.r, u.x, impl.VdStatus)
		}
		u = passing(kind)
		for _, u.x.Kind = range otherKinds {
			checkVerdict(t, u.policy, u.r, u.x, impl.VdStatus)
		}
		u = passing(kind)
		for _, x := range oddResponses() {
			checkVerdict(t, u.policy, u.r, x, impl.VdStatus)
			checkVerdict(t, u.policy, request(kind, "cdn", "lib", "", ""), x, impl.VdPolicy)
		}
		for _, u.x.Body = range allBodies {
			u.r.Digest = impl.FormatInt(digestByFold(u.x.Body))
			want := impl.VdOk
			if len(u.x.Body) > 400 {
				want = impl.VdStatus
			}
			checkVerdict(t, u.policy, u.r, u.x, want)
		}
	}
}

func TestVerdictsOfKinds(t *testing.T) {
	for i, name := range kindNames {
		for j, given := range kindNames {
			for _, from := range []string{"home", "cdn"} {
				for _, digest := range []string{"", digestOfSayA} {
					want := impl.VdKind
					if name == given || name == "module" && given == "script" {
						want = impl.VdOk
					}
					checkVerdict(t, impl.Policy{}, request(i+1, "cdn", "lib", from, digest), response(200, j+1, "say a", 5, true, ""), want)
				}
			}
		}
	}
	for _, kind := range otherKinds {
		// There is no kind that both could be.
		checkVerdict(t, impl.Policy{}, request(kind, "home", "lib", "home", ""), response(200, kind, "say a", 5, true, ""), impl.VdPolicy)
	}
}

func TestVerdictsOfSharing(t *testing.T) {
	for _, kind := range kindsOfResponses {
		for _, from := range []string{"home", "cdn", "cdns", "cd", "lib"} {
			for _, digest := range []string{"", digestOfSayA} {
				for _, shares := range []bool{false, true} {
					want := impl.VdOk
					if from != "cdn" && !shares && (kind == impl.KindModule || digest != "") {
						want = impl.VdShare
					}
					checkVerdict(t, impl.Policy{}, request(kind, "cdn", "lib", from, digest), response(200, kind, "say a", 5, shares, ""), want)
				}
				// A digest that does not fit needs the permission all the same.
				checkVerdict(t, impl.Policy{}, request(kind, "cdn", "lib", "home", "5"), response(200, kind, "say a", 5, false, ""), impl.VdShare)
				checkVerdict(t, impl.Policy{}, request(kind, "cdn", "lib", "cdn", "5"), response(200, kind, "say a", 5, false, ""), impl.VdDigest)
			}
		}
	}
	// A script that serves as a module is asked for as a module.
	module := request(impl.KindModule, "cdn", "lib", "home", "")
	checkVerdict(t, impl.Policy{}, module, response(200, impl.KindScript, "say a", 5, false, ""), impl.VdShare)
	checkVerdict(t, impl.Policy{}, module, response(200, impl.KindScript, "say a", 5, true, ""), impl.VdOk)
	checkVerdict(t, impl.Policy{}, plainRequest(), response(200, impl.KindScript, "say a", 5, false, ""), impl.VdOk)
	checkVerdict(t, impl.Policy{}, plainRequest(), response(200, impl.KindModule, "say a", 5, false, ""), impl.VdKind)
}

func TestVerdictsOfDigests(t *testing.T) {
	for _, kind := range kindsOfResponses {
		for _, from := range []string{"home", "cdn"} {
			r, x := request(kind, "cdn", "lib", from, ""), response(200, kind, "", 5, true, "")
			for _, c := range knownDigests {
				if len(c.body) > 400 {
					continue
				}
				x.Body = c.body
				r.Digest = ""
				checkVerdict(t, impl.Policy{}, r, x, impl.VdOk)
				d := fmt.Sprint(c.digest)
				r.Digest = d
				checkVerdict(t, impl.Policy{}, r, x, impl.VdOk)
				for zeros := len(d) + 1; zeros <= 30; zeros++ {
					r.Digest = fmt.Sprintf("%0*d", zeros, c.digest)
					want := impl.VdDigest
					if zeros > 20 { // this is no value any more
						want = impl.VdPolicy
					}
					checkVerdict(t, impl.Policy{}, r, x, want)
				}
				for _, r.Digest = range otherForms(d) {
					checkVerdict(t, impl.Policy{}, r, x, verdictOfDigest(r.Digest, d))
				}
				for _, r.Digest = range slices.Concat(digestValues, notDigestValues) {
					checkVerdict(t, impl.Policy{}, r, x, verdictOfDigest(r.Digest, d))
				}
			}
		}
	}
}

// verdictOfDigest has the verdict where nothing but the digest can be wrong.
func verdictOfDigest(value string, digest string) int {
	if value == "" || value == digest {
		return 1
	}
	if valueForm.MatchString(value) {
		return 6
	}
	return 2
}

// Numbers that have the digest as their last bits or as their remainder are other values.
func TestVerdictsOfLargeDigests(t *testing.T) {
	for _, body := range bodies {
		x, digest := response(200, 4, body, 5, true, ""), big.NewInt(int64(digestByFold(body)))
		for _, bits := range []uint{8, 16, 31, 32, 52, 53, 62, 63, 64} {
			large := new(big.Int).Add(digest, new(big.Int).Lsh(big.NewInt(1), bits))
			checkVerdict(t, impl.Policy{}, request(4, "cdn", "logo", "home", large.String()), x, impl.VdDigest)
		}
		again := new(big.Int).Add(digest, big.NewInt(impl.Modulus))
		checkVerdict(t, impl.Policy{}, request(4, "cdn", "logo", "home", again.String()), x, impl.VdDigest)
		checkVerdict(t, impl.Policy{}, request(4, "cdn", "logo", "home", digest.String()), x, impl.VdOk)
	}
}

// P11: a body passes with its own digest, and none of these with that of another one.
func TestBodiesAreUsableWithTheirOwnDigests(t *testing.T) {
	for i, body := range bodies {
		for j, other := range bodies {
			want := impl.VdDigest
			if i == j {
				want = impl.VdOk
			}
			kind := kindsOfResponses[(i+j)%5]
			checkVerdict(t, impl.Policy{}, request(kind, "home", "lib", "home", impl.FormatInt(impl.DigestOf(other))), response(200, kind, body, 5, false, ""), want)
		}
	}
	// These have the same digest, so one passes with that of the other.
	for _, body := range []string{"say a", "grfomkq", "nnjwgtb"} {
		checkVerdict(t, impl.Policy{}, request(2, "home", "lib", "home", digestOfSayA), response(200, 2, body, 5, false, ""), impl.VdOk)
	}
}

// requestResponses has a few responses of each kind, that requests can be checked with.
func requestResponses() []impl.Response {
	l := []impl.Response{{}, impl.NotFound(), response(200, 0, "say a", 5, true, ""), response(200, 6, "say a", 5, true, ""), response(200, 2, "say a", 1001, true, ""), response(200, 3, tooLongBody, 5, true, ""), response(200, 1, "say a", 5, true, "x")}
	for _, kind := range kindsOfResponses {
		for _, shares := range []bool{false, true} {
			l = append(l, response(200, kind, "say a", 5, shares, ""), response(200, kind, "", 5, shares, "script;style;img"), response(201, kind, "say a", 5, shares, ""))
		}
	}
	return l
}

// P11: the verdict is that of the checks made one by one, whether or not the arguments are valid.
func TestVerdictsOfAllArguments(t *testing.T) {
	verdicts := map[int]int{}
	for _, p := range requestPolicies() {
		for _, r := range allRequests() {
			for _, x := range requestResponses() {
				want := firstOf(failing(p, r, x))
				verdicts[want]++
				checkVerdict(t, p, r, x, want)
			}
		}
	}
	for code := 1; code <= 6; code++ {
		if verdicts[code] < 100 {
			t.Errorf("%d verdicts are %d", verdicts[code], code)
		}
	}
}

func randomRequest(random *rand.Rand) impl.Request {
	hosts := []string{"home", "home", "cdn", "cdn", "evil", "evil", "other", "Home", ""}
	r := request(1+random.IntN(5), hosts[random.IntN(6)], names[random.IntN(len(names))], hosts[random.IntN(6)], "")
	if random.IntN(3) == 0 {
		r.Digest = []string{digestOfSayA, digestOfSayA, "0" + digestOfSayA, "818760670", "x", "N7"}[random.IntN(6)]
	}
	switch random.IntN(20) {
	case 0:
		r.Kind = otherKinds[random.IntN(len(otherKinds))]
	case 1:
		r.To.Host = hosts[random.IntN(len(hosts))]
	case 2:
		r.From = hosts[random.IntN(len(hosts))]
	case 3:
		r.To.Path = notNames[random.IntN(len(notNames))]
	}
	return r
}

func TestVerdictsOfRandomArguments(t *testing.T) {
	random := rand.New(rand.NewPCG(11, 1))
	policies := slices.Concat(requestPolicies(), []impl.Policy{{}, {}, {}, {}, {}})
	verdicts := map[int]int{}
	for range 40000 {
		p, r := policies[random.IntN(len(policies))], randomRequest(random)
		x := response(200, r.Kind, []string{"say a", "say a", "", "say b", "grfomkq", tooLongBody}[random.IntN(6)], random.IntN(1010), random.IntN(2) == 0, "")
		if random.IntN(4) == 0 {
			x.Kind = random.IntN(7)
		}
		if random.IntN(6) == 0 {
			x.Status = statuses[random.IntN(len(statuses))]
		}
		want := firstOf(failing(p, r, x))
		verdicts[want]++
		checkVerdict(t, p, r, x, want)
		checkRequest(t, p, r, requestByLists(p, r))
		checkGuess(t, r, validRequestByForms(r) && r.Kind > 1 && r.From == r.To.Host)
	}
	for code := 1; code <= 6; code++ {
		if verdicts[code] < 300 {
			t.Errorf("%d random verdicts are %d", verdicts[code], code)
		}
	}
}

// The policy of a page is read, not changed.
func TestVerdictsChangeNoPolicy(t *testing.T) {
	for _, p := range slices.Concat(allPolicies(), requestPolicies()) {
		before := copyPolicy(p)
		for _, r := range []impl.Request{plainRequest(), request(5, "home", "lib", "home", "5"), {}} {
			first := impl.CheckResponse(p, r, plainResponse())
			impl.CheckRequest(p, r)
			impl.UsableBody(p, r, plainResponse())
			impl.CheckResponse(before, impl.Request{}, impl.Response{})
			checkVerdict(t, p, r, plainResponse(), first)
		}
		checkPolicy(t, "after the checks", p, before)
	}
}

func TestVerdictName(t *testing.T) {
	for code := -300; code <= 300; code++ {
		want := ""
		if code >= 1 && code <= 6 {
			want = verdictNames[code-1]
		}
		if got := impl.VerdictName(code); got != want {
			t.Errorf("VerdictName(%d) is %q, not %q", code, got, want)
		}
	}
	for _, code := range []int{math.MinInt, math.MinInt + 1, math.MinInt + 2, math.MaxInt, 1<<32 + 2, -1<<32 + 3, 1 << 8, 1<<8 + 1, impl.MaxValue} {
		if got := impl.VerdictName(code); got != "" {
			t.Errorf("VerdictName(%d) is %q", code, got)
		}
	}
	if impl.VerdictName(impl.VdOk) != "ok" || impl.VerdictName(impl.VdPolicy) != "policy" || impl.VerdictName(impl.VdDigest) != "digest" {
		t.Error("names of codes")
	}
}

func TestSameRequest(t *testing.T) {
	r := plainRequest()
	checkSame(t, r, r, true)
	checkSame(t, r, request(5, "cdn", "lib", "home", ""), true)
	checkSame(t, r, request(2, "cdn", "lib", "home", "5"), true)
	checkSame(t, r, request(3, "cdn", "lib", "home", "5"), true)
	checkSame(t, r, request(2, "evil", "lib", "home", ""), false)
	checkSame(t, r, request(2, "cdn", "libs", "home", ""), false)
	checkSame(t, r, request(2, "cdn", "lib", "evil", ""), false)
	checkSame(t, r, request(2, "lib", "cdn", "home", ""), false)
	checkSame(t, r, request(2, "home", "lib", "cdn", ""), false)
	checkSame(t, r, request(2, "cdn", "home", "lib", ""), false)
	// Where one name ends and the next one begins matters.
	checkSame(t, request(2, "ab", "c", "d", ""), request(2, "a", "bc", "d", ""), false)
	checkSame(t, request(2, "a", "bc", "d", ""), request(2, "a", "b", "cd", ""), false)
	checkSame(t, request(2, "a", "b/c", "d", ""), request(2, "a/b", "c", "d", ""), false)
	checkSame(t, impl.Request{}, impl.Request{}, true)
	checkSame(t, impl.Request{}, impl.Request{Kind: 2, Digest: "x"}, true)
	checkSame(t, impl.Request{}, impl.Request{From: "home"}, false)
	checkSame(t, impl.Request{}, impl.Request{To: addr("", "a")}, false)
}

// Whether requests are valid does not count.
func TestSameRequestOfAllRequests(t *testing.T) {
	l := allRequests()
	for _, a := range l {
		for _, b := range l {
			checkSame(t, a, b, a.To.Host == b.To.Host && a.To.Path == b.To.Path && a.From == b.From)
		}
		for _, kind := range allKinds {
			b := a
			b.Kind = kind
			checkSame(t, a, b, true)
			b.Digest += "x"
			checkSame(t, a, b, true)
			b.Digest = ""
			checkSame(t, a, b, true)
		}
		for _, more := range []string{"x", " ", "\x00"} {
			for _, b := range []impl.Request{request(a.Kind, a.To.Host+more, a.To.Path, a.From, a.Digest), request(a.Kind, a.To.Host, a.To.Path+more, a.From, a.Digest), request(a.Kind, a.To.Host, a.To.Path, a.From+more, a.Digest)} {
				checkSame(t, a, b, false)
			}
		}
		b := request(a.Kind, strings.Clone(a.To.Host), strings.Clone(a.To.Path), strings.Clone(a.From), "")
		checkSame(t, a, b, true)
	}
}

func TestCanGuess(t *testing.T) {
	for _, kind := range kindsOfResponses {
		for _, digest := range []string{"", digestOfSayA, "0" + digestOfSayA, "x"} {
			checkGuess(t, request(kind, "home", "lib", "home", digest), kind != impl.KindPage)
			checkGuess(t, request(kind, "cdn", "lib", "home", digest), false)
			checkGuess(t, request(kind, "home", "lib", "cdn", digest), false)
			checkGuess(t, request(kind, "homes", "lib", "home", digest), false)
			checkGuess(t, request(kind, "cdn", "home", "home", digest), false)
			checkGuess(t, request(kind, "home", "home", "home", digest), kind != impl.KindPage)
		}
		for _, value := range notDigestValues {
			checkGuess(t, request(kind, "home", "lib", "home", value), false)
		}
		for _, name := range names {
			checkGuess(t, request(kind, name, "lib", name, ""), kind != impl.KindPage)
		}
		for _, name := range notNames {
			checkGuess(t, request(kind, name, "lib", name, ""), false)
			checkGuess(t, request(kind, "home", name, "home", ""), false)
		}
	}
	for kind := -300; kind <= 300; kind++ {
		checkGuess(t, request(kind, "home", "lib", "home", ""), kind >= 2 && kind <= 5)
	}
	for _, r := range oddRequests() {
		checkGuess(t, r, false)
	}
	for _, r := range someRequests() {
		checkGuess(t, r, r.Kind != 1 && r.To.Host == r.From)
	}
	checkGuess(t, impl.Request{}, false)
}
