package tests

import (
	"fmt"
	"math"
	"math/rand/v2"
	"regexp"
	"slices"
	"strings"
	"testing"

	"loop.example/g00586/impl"
)

var (
	policyForm = regexp.MustCompile(`^script((?: [a-z]{1,8}){0,4});style((?: [a-z]{1,8}){0,4});img((?: [a-z]{1,8}){0,4})(?:;nonce ([a-z0-9/]{1,20}))?$`)
	valueForm  = regexp.MustCompile(`^[a-z0-9/]{1,20}$`)
)

// kindNames has the kinds in the order of their numbers, which begin with 1.
var kindNames = []string{"page", "script", "style", "image", "module"}

// otherKinds has numbers that are no kind.
var otherKinds = []int{0, -1, -2, -3, -4, -5, 6, 7, 10, 255, 256, 257, 258, math.MinInt, math.MinInt + 2, math.MaxInt, 1<<32 + 2, -1<<32 + 3}

// partWords has the words of the three lists in a form, in their order, and kindsOfLists the kinds that each list is for.
var (
	partWords    = []string{"script", "style", "img"}
	kindsOfLists = [][]int{{2, 5}, {3}, {4}}
)

// hostLists has lists that a valid policy may have: of each number of hosts, in different orders, with the same host twice, and with the longest names.
var hostLists = [][]string{nil, {"home"}, {"cdn"}, {"home", "cdn"}, {"cdn", "home"}, {"home", "home"}, {"evil", "cdn", "evil"}, {"a", "b", "c", "d"}, {"abcdefgh", "home", "evil", "cdn"}, {"zzzzzzzz", "zzzzzzzz", "zzzzzzzz", "zzzzzzzz"}, {"script", "style", "img", "nonce"}}

// notHostLists has lists of too many hosts, and lists with something that is no name.
var notHostLists = [][]string{{"a", "b", "c", "d", "e"}, {"home", "home", "home", "home", "home"}, {"a", "b", "c", "d", "e", "f", "g", "h", "home"}, {""}, {"home", ""}, {"", "home"}, {"", ""}, {"Home"}, {"cdn", "abcdefghi"}, {"home cdn"}, {"home", "cdn;style"}, {"home "}, {" home"}, {"home/app", "cdn"}, {"cdn", "home", "evil", "\xff"}, {"é"}, {"7"}, {"", "Home", "a b", "home", "cdn", "evil"}}

var (
	nonces    = []string{"n7", "n8", "n", "7", "/", "home", "nonce", "abcdefghij/123456789"}
	notNonces = []string{" ", "N7", "n 7", "n7 ", " n7", "n;7", ";", "n7;nonce n8", "nonce n7", "n=7", "n-7", "é", "\xff", "\x00", "n7\n", "abcdefghij/123456789a", strings.Repeat("n", 1000)}
)

// askedHosts has hosts to ask policies for: those of the lists, others, and what is no name.
var askedHosts = []string{"home", "cdn", "evil", "a", "b", "d", "e", "h", "abcdefgh", "abcdefghi", "zzzzzzzz", "script", "other", "hom", "homes", "", " ", "Home", "HOME", "home ", " home", "home cdn", "home;cdn", "cdn;style", "home/app", "é", "\xff", "7"}

var askedNonces = slices.Concat(nonces, notNonces, []string{"", "n77", "n7n", "other"})

// policy has lists of hosts that are separated by spaces.
func policy(scripts string, styles string, images string, nonce string) impl.Policy {
	return impl.Policy{Set: true, Scripts: strings.Fields(scripts), Styles: strings.Fields(styles), Images: strings.Fields(images), Nonce: nonce}
}

// listsOf has the three lists of p, to read and to change.
func listsOf(p *impl.Policy) []*[]string {
	return []*[]string{&p.Scripts, &p.Styles, &p.Images}
}

// withList has these hosts in one list alone.
func withList(n int, hosts ...string) impl.Policy {
	p := impl.Policy{Set: true}
	*listsOf(&p)[n] = hosts
	return p
}

func withNonce(nonce string) impl.Policy {
	return impl.Policy{Set: true, Nonce: nonce}
}

// somePolicies has valid policies, all of them different.
func somePolicies() []impl.Policy {
	l := []impl.Policy{{}, withNonce("")}
	for _, nonce := range nonces {
		l = append(l, withNonce(nonce))
	}
	for i, hosts := range hostLists {
		if i > 0 {
			l = append(l, withList(0, hosts...), withList(1, hosts...), withList(2, hosts...))
		}
		next, last := hostLists[(i+1)%len(hostLists)], hostLists[(i+3)%len(hostLists)]
		l = append(l, impl.Policy{Set: true, Scripts: hosts, Styles: next, Images: last}, impl.Policy{Set: true, Scripts: last, Styles: hosts, Images: hosts, Nonce: nonces[i%3]})
	}
	return l
}

// oddPolicies has policies that are not valid; functions are called on them all the same.
func oddPolicies() []impl.Policy {
	l := []impl.Policy{{Scripts: []string{"home"}}, {Styles: []string{"home"}}, {Images: []string{"home"}}, {Nonce: "n7"}, {Nonce: " "}, {Scripts: []string{""}, Styles: []string{"a b"}, Images: []string{"Home"}, Nonce: "N"}, {Scripts: []string{"cdn", "home"}, Styles: []string{"cdn"}, Images: []string{"cdn"}, Nonce: "n8"}}
	for i, hosts := range notHostLists {
		l = append(l, withList(0, hosts...), withList(1, hosts...), withList(2, hosts...))
		l = append(l, impl.Policy{Set: true, Scripts: hosts, Styles: notHostLists[(i+5)%len(notHostLists)], Images: []string{"home"}, Nonce: "n7"})
	}
	for _, nonce := range notNonces {
		p := policy("home", "home cdn", "", nonce)
		l = append(l, withNonce(nonce), p)
	}
	return l
}

func allPolicies() []impl.Policy {
	return slices.Concat(somePolicies(), oddPolicies())
}

func copyPolicy(p impl.Policy) impl.Policy {
	for _, l := range listsOf(&p) {
		*l = slices.Clone(*l)
	}
	return p
}

// The checks of policies end a test at the first failure: they are called very often.

// samePolicy does not use what it checks; nil and empty lists are the same.
func samePolicy(a impl.Policy, b impl.Policy) bool {
	for n, l := range listsOf(&a) {
		if !slices.Equal(*l, *listsOf(&b)[n]) {
			return false
		}
	}
	return a.Set == b.Set && a.Nonce == b.Nonce
}

// quoted shows a policy without ambiguity: hosts may have spaces in them, and be bytes that are no character.
func quoted(p impl.Policy) string {
	return fmt.Sprintf("{%t %q %q %q %q}", p.Set, p.Scripts, p.Styles, p.Images, p.Nonce)
}

func checkPolicy(t *testing.T, what string, got impl.Policy, want impl.Policy) {
	t.Helper()
	if !samePolicy(got, want) {
		t.Fatalf("%s: %s, not %s", what, quoted(got), quoted(want))
	}
}

func checkValidPolicy(t *testing.T, p impl.Policy, want bool) {
	t.Helper()
	if got := impl.IsPolicy(p); got != want {
		t.Fatalf("IsPolicy(%s) is %t", quoted(p), got)
	}
}

func checkAllows(t *testing.T, p impl.Policy, kind int, host string, want bool) {
	t.Helper()
	if got := impl.Allows(p, kind, host); got != want {
		t.Fatalf("Allows(%s, %d, %q) is %t", quoted(p), kind, host, got)
	}
}

func checkInline(t *testing.T, p impl.Policy, nonce string, want bool) {
	t.Helper()
	if got := impl.AllowsInline(p, nonce); got != want {
		t.Fatalf("AllowsInline(%s, %q) is %t", quoted(p), nonce, got)
	}
}

func checkPolicyForm(t *testing.T, p impl.Policy, want string) {
	t.Helper()
	if got := impl.FormatPolicy(p); got != want {
		t.Fatalf("FormatPolicy(%s) is %q, not %q", quoted(p), got, want)
	}
}

func checkParsedPolicy(t *testing.T, s string, want impl.Policy) {
	t.Helper()
	if got, ok := impl.ParsePolicy(s); !ok || !samePolicy(got, want) {
		t.Fatalf("ParsePolicy(%q) is %s, %t, not %s, true", s, quoted(got), ok, quoted(want))
	}
}

func checkNoPolicy(t *testing.T, s string) {
	t.Helper()
	if got, ok := impl.ParsePolicy(s); ok || !samePolicy(got, impl.Policy{}) {
		t.Fatalf("ParsePolicy(%q) is %s, %t", s, quoted(got), ok)
	}
}

func checkNarrowed(t *testing.T, a impl.Policy, b impl.Policy, want impl.Policy) {
	t.Helper()
	checkPolicy(t, "NarrowPolicy("+quoted(a)+", "+quoted(b)+")", impl.NarrowPolicy(a, b), want)
}

// policyByForm takes a policy by the form that the document gives.
func policyByForm(s string) (impl.Policy, bool) {
	if s == "" {
		return impl.Policy{}, true
	}
	words := policyForm.FindStringSubmatch(s)
	if words == nil {
		return impl.Policy{}, false
	}
	return policy(words[1], words[2], words[3], words[4]), true
}

func checkPolicyByForm(t *testing.T, s string) {
	t.Helper()
	p, ok := policyByForm(s)
	if !ok {
		checkNoPolicy(t, s)
		return
	}
	checkParsedPolicy(t, s, p)
	checkValidPolicy(t, p, true)
	checkPolicyForm(t, p, s)
}

// validByForm looks at each word alone.
func validByForm(p impl.Policy) bool {
	if !p.Set {
		return len(p.Scripts)+len(p.Styles)+len(p.Images)+len(p.Nonce) == 0
	}
	for _, l := range listsOf(&p) {
		if len(*l) > 4 {
			return false
		}
		for _, host := range *l {
			if !nameForm.MatchString(host) {
				return false
			}
		}
	}
	return p.Nonce == "" || valueForm.MatchString(p.Nonce)
}

// formByWords writes one word after the other.
func formByWords(p impl.Policy) string {
	if !p.Set || !validByForm(p) {
		return ""
	}
	form := ""
	for n, l := range listsOf(&p) {
		form += ";" + partWords[n]
		for _, host := range *l {
			form += " " + host
		}
	}
	if p.Nonce != "" {
		form += ";nonce " + p.Nonce
	}
	return form[1:]
}

// allowsByLists looks for the kind among those of each list.
func allowsByLists(p impl.Policy, kind int, host string) bool {
	allowed := !p.Set
	for n, l := range listsOf(&p) {
		if slices.Contains(kindsOfLists[n], kind) && slices.Index(*l, host) >= 0 {
			allowed = true
		}
	}
	return allowed
}

func allowsInlineByNonce(p impl.Policy, nonce string) bool {
	return !p.Set || nonce != "" && p.Nonce == nonce
}

func TestPolicyConstants(t *testing.T) {
	if impl.KindPage != 1 || impl.KindScript != 2 || impl.KindStyle != 3 || impl.KindImage != 4 || impl.KindModule != 5 || impl.MaxHosts != 4 {
		t.Error(impl.KindPage, impl.KindScript, impl.KindStyle, impl.KindImage, impl.KindModule, impl.MaxHosts)
	}
}

func TestKindName(t *testing.T) {
	for i, name := range kindNames {
		if got := impl.KindName(i + 1); got != name {
			t.Errorf("KindName(%d) is %q, not %q", i+1, got, name)
		}
	}
	for _, kind := range otherKinds {
		if got := impl.KindName(kind); got != "" {
			t.Errorf("KindName(%d) is %q", kind, got)
		}
	}
	for kind := -1000; kind < 1000; kind++ {
		if got := impl.KindName(kind); (got == "") != (kind < 1 || kind > 5) {
			t.Errorf("KindName(%d) is %q", kind, got)
		}
	}
}

func TestIsPolicy(t *testing.T) {
	for _, p := range somePolicies() {
		checkValidPolicy(t, p, true)
	}
	for _, p := range oddPolicies() {
		checkValidPolicy(t, p, false)
	}
	checkValidPolicy(t, impl.Policy{}, true)
	checkValidPolicy(t, impl.Policy{Set: true}, true)
	checkValidPolicy(t, policy("a b c d", "e f g h", "i j k l", "n7"), true)
	checkValidPolicy(t, policy("home home home home", "home home", "home", ""), true) // nothing asks for different hosts
	// Nil and empty lists are the same.
	checkValidPolicy(t, impl.Policy{Scripts: []string{}, Styles: []string{}, Images: []string{}}, true)
	checkValidPolicy(t, impl.Policy{Set: true, Scripts: []string{}, Styles: []string{}, Images: []string{}}, true)
}

// Without Set, each field alone makes a policy invalid that would be valid with it.
func TestIsPolicyThatIsNotSet(t *testing.T) {
	for _, p := range somePolicies() {
		p.Set = false
		checkValidPolicy(t, p, len(p.Scripts)+len(p.Styles)+len(p.Images) == 0 && p.Nonce == "")
	}
	for n := range 3 {
		for _, hosts := range slices.Concat(hostLists, notHostLists) {
			p := withList(n, hosts...)
			p.Set = false
			checkValidPolicy(t, p, len(hosts) == 0)
		}
	}
	for _, nonce := range slices.Concat(nonces, notNonces) {
		checkValidPolicy(t, impl.Policy{Nonce: nonce}, false)
	}
}

func TestIsPolicyOfEachList(t *testing.T) {
	for n := range 3 {
		for count := range 20 {
			hosts := slices.Repeat([]string{"home"}, count)
			checkValidPolicy(t, withList(n, hosts...), count <= 4)
			// The limit is for each list alone.
			full := policy("a b c d", "a b c d", "a b c d", "n7")
			*listsOf(&full)[n] = hosts
			checkValidPolicy(t, full, count <= 4)
			for place := range count {
				for _, bad := range notNames {
					hosts[place] = bad
					checkValidPolicy(t, withList(n, hosts...), false)
				}
				for _, name := range names {
					hosts[place] = name
					checkValidPolicy(t, withList(n, hosts...), count <= 4)
				}
			}
		}
		checkValidPolicy(t, withList(n, slices.Repeat([]string{"home"}, 100000)...), false)
	}
}

func TestIsPolicyOfNonces(t *testing.T) {
	for _, nonce := range nonces {
		checkValidPolicy(t, withNonce(nonce), true)
	}
	for _, nonce := range notNonces {
		checkValidPolicy(t, withNonce(nonce), false)
	}
	for size := range 50 {
		checkValidPolicy(t, withNonce(strings.Repeat("n", size)), size <= 20)
	}
	for c := range 256 {
		s := string([]byte{byte(c)})
		checkValidPolicy(t, withNonce(s), valueForm.MatchString(s))
		checkValidPolicy(t, withNonce("n"+s+"7"), valueForm.MatchString(s))
	}
}

func TestAllows(t *testing.T) {
	p := policy("home cdn", "cdn", "home", "n7")
	for _, c := range []struct {
		kind int
		host string
		want bool
	}{
		{2, "home", true}, {2, "cdn", true}, {2, "evil", false}, {5, "home", true}, {5, "cdn", true}, {5, "evil", false}, {3, "home", false}, {3, "cdn", true}, {3, "evil", false}, {4, "home", true}, {4, "cdn", false}, {4, "evil", false},
		{1, "home", false}, {1, "cdn", false}, {1, "", false}, {0, "home", false}, {6, "home", false}, {-2, "home", false}, {2, "", false}, {2, "hom", false}, {2, "homes", false}, {2, "Home", false}, {2, "home cdn", false}, {2, "n7", false},
	} {
		checkAllows(t, p, c.kind, c.host, c.want)
	}
	for _, p := range allPolicies() {
		for _, host := range askedHosts {
			for _, kind := range slices.Concat([]int{1, 2, 3, 4, 5}, otherKinds) {
				checkAllows(t, p, kind, host, allowsByLists(p, kind, host))
			}
		}
	}
}

// Each list is for its kinds alone, and each host of it counts, wherever it is.
func TestAllowsOfEachList(t *testing.T) {
	for n, kinds := range kindsOfLists {
		for _, hosts := range slices.Concat(hostLists, notHostLists) {
			p := withList(n, hosts...)
			for kind := -1; kind <= 7; kind++ {
				for _, host := range hosts {
					checkAllows(t, p, kind, host, slices.Contains(kinds, kind)) // also of a policy that is not valid
				}
				checkAllows(t, p, kind, "other", false)
			}
		}
	}
	long := withList(1, slices.Concat(slices.Repeat([]string{"home"}, 100000), []string{"cdn"})...)
	checkAllows(t, long, 3, "cdn", true)
	checkAllows(t, long, 3, "evil", false)
}

// A policy without hosts that is Set allows nothing; one that is not Set allows everything, whatever else it has.
func TestAllowsWithoutHosts(t *testing.T) {
	for _, host := range append(askedHosts, notNames...) {
		for _, kind := range slices.Concat([]int{1, 2, 3, 4, 5}, otherKinds) {
			for _, nonce := range append(nonces, "") {
				checkAllows(t, withNonce(nonce), kind, host, false)
			}
			checkAllows(t, impl.Policy{Set: true, Scripts: []string{}, Styles: []string{}, Images: []string{}}, kind, host, false)
			checkAllows(t, impl.Policy{}, kind, host, true)
			for _, p := range allPolicies() {
				p.Set = false
				checkAllows(t, p, kind, host, true)
			}
		}
	}
}

func TestAllowsInline(t *testing.T) {
	p := policy("home", "home", "home", "n7")
	checkInline(t, p, "n7", true)
	for _, nonce := range []string{"", "n", "7", "n8", "N7", "n77", " n7", "n7 ", "home", "nonce n7"} {
		checkInline(t, p, nonce, false)
	}
	for _, p := range allPolicies() {
		for _, nonce := range append(askedNonces, p.Nonce) {
			checkInline(t, p, nonce, allowsInlineByNonce(p, nonce))
		}
	}
	// The Nonce counts, whether or not it can be one; the empty one allows nothing.
	for _, nonce := range askedNonces {
		checkInline(t, withNonce(nonce), nonce, nonce != "")
		checkInline(t, withNonce(""), nonce, false)
		checkInline(t, impl.Policy{}, nonce, true)
		checkInline(t, impl.Policy{Nonce: nonce}, "", true)
		checkInline(t, impl.Policy{Nonce: nonce}, "n7", true)
		checkInline(t, impl.Policy{Scripts: []string{"home"}}, nonce, true)
	}
}

func TestFormatPolicy(t *testing.T) {
	checkPolicyForm(t, policy("home cdn", "", "home", "n7"), "script home cdn;style;img home;nonce n7")
	checkPolicyForm(t, policy("home", "home", "home", ""), "script home;style home;img home")
	checkPolicyForm(t, policy("", "", "", ""), "script;style;img")
	checkPolicyForm(t, policy("", "", "", "n7"), "script;style;img;nonce n7")
	checkPolicyForm(t, policy("a b c d", "e f g h", "i j k l", "/"), "script a b c d;style e f g h;img i j k l;nonce /")
	checkPolicyForm(t, policy("cdn home cdn", "home home", "", ""), "script cdn home cdn;style home home;img") // neither sorted nor made different
	checkPolicyForm(t, policy("script", "style", "img", "nonce"), "script script;style style;img img;nonce nonce")
	checkPolicyForm(t, impl.Policy{Set: true, Scripts: []string{}, Styles: []string{"cdn"}, Images: []string{}}, "script;style cdn;img")
	for _, p := range somePolicies() {
		checkPolicyForm(t, p, formByWords(p))
	}
}

func TestFormatPoliciesThatHaveNoForm(t *testing.T) {
	checkPolicyForm(t, impl.Policy{}, "")
	checkPolicyForm(t, impl.Policy{Scripts: []string{}, Styles: []string{}, Images: []string{}}, "")
	for _, p := range oddPolicies() {
		checkPolicyForm(t, p, "")
	}
	for _, p := range somePolicies() {
		p.Set = false
		checkPolicyForm(t, p, "")
	}
	for n := range 3 {
		for _, bad := range slices.Concat(notNames, []string{"home cdn", "home;style", ";", "home;img", "cdn "}) {
			checkPolicyForm(t, withList(n, bad), "")
			checkPolicyForm(t, withList(n, "home", bad), "")
			checkPolicyForm(t, withList(n, bad, "home", "cdn"), "")
		}
	}
}

func TestParsePolicy(t *testing.T) {
	checkParsedPolicy(t, "script home cdn;style;img home;nonce n7", policy("home cdn", "", "home", "n7"))
	checkParsedPolicy(t, "script home;style home;img home", policy("home", "home", "home", ""))
	checkParsedPolicy(t, "script;style;img", impl.Policy{Set: true})
	checkParsedPolicy(t, "script;style;img;nonce n7", withNonce("n7"))
	checkParsedPolicy(t, "script a b c d;style e f g h;img i j k l;nonce /", policy("a b c d", "e f g h", "i j k l", "/"))
	checkParsedPolicy(t, "script cdn home cdn;style home home;img", policy("cdn home cdn", "home home", "", ""))
	checkParsedPolicy(t, "script style;style img;img script;nonce style", policy("style", "img", "script", "style"))
	checkParsedPolicy(t, "script script;style style;img img;nonce nonce", policy("script", "style", "img", "nonce"))
	checkParsedPolicy(t, "", impl.Policy{}) // which is not Set, unlike a policy without hosts
}

func TestParsePolicyRejects(t *testing.T) {
	for _, s := range []string{" ", ";", ";;", ";;;", "x", "script", "style", "img", "nonce", "nonce n7", "script home", "script;style", "script;img", "style;img", "script;;img", "script;style;", ";style;img", "script;style;nonce n7", "script;nonce n7", "script;img;nonce n7", ";;;nonce n7",
		"script;style;img;", ";script;style;img", "script;;style;img", "script;style;;img", "script;style;img;;", "script;style;img;;nonce n7", "script;style;img;nonce n7;", ";script;style;img;nonce n7", "script;style;img;nonce n7;nonce n7", "script;style;img;nonce n7;nonce n8", "script;style;img;img", "script;script;style;img",
		"style;script;img", "script;img;style", "img;style;script", "nonce n7;script;style;img", "script;nonce n7;style;img", "script;style;nonce n7;img",
		"scripts;style;img", "script;styles;img", "script;style;imgs", "script;style;image", "script;style;images", "Script;style;img", "script;Style;img", "script;style;IMG", "module;style;img", "script;style;img;module home", "page;style;img", "script;style;img;page home", "script;style;img;host home",
		"script;style;img;nonce", "script;style;img;nonce ", "script;style;img;nonce  ", "script;style;img;nonce  n7", "script;style;img;nonce n7 ", "script;style;img;nonce n7 n8", "script;style;img; nonce n7", "script;style;img;nonces n7", "script;style;img;Nonce n7", "script;style;img;n7", "script;style;img;nonce a;b", "script;style;img;noncen7", "script;style;img;nonce=n7", "script;style;img nonce n7;x",
		" script;style;img", "script ;style;img", "script; style;img", "script;style ;img", "script;style; img", "script;style;img ", "script  home;style;img", "script home ;style;img", "script home  cdn;style;img", "script;style  home;img", "script;style;img home ", "script;style;img  home", "script home cdn ;style;img", "script home; style;img",
		"script\thome;style;img", "script\nhome;style;img", "script;style;img\n", "script\u00a0home;style;img", "script;style；img", "script,style,img", "script home,cdn;style;img", "script:home;style;img", "scripthome;style;img", "script Home;style;img", "script home/app;style;img", "script abcdefghi;style;img", "script 7;style;img", "script *;style;img", "script é;style;img", "script;style;img \xff", "\xff", "\x00",
		"script a b c d e;style;img", "script;style a b c d e;img", "script;style;img a b c d e", "script home home home home home;style;img", "script;style;img a b c d e;nonce n7",
		"false", "true script;style;img", "-", "none", "script none;style -;img"} {
		checkNoPolicy(t, s)
	}
	for _, nonce := range notNonces {
		checkNoPolicy(t, "script;style;img;nonce "+nonce)
		checkNoPolicy(t, "script home;style home cdn;img;nonce "+nonce)
	}
}

// What FormatPolicy would form of a policy that is not valid, if it did not check, is at most the form of another one.
func TestParsePolicyOfNoForms(t *testing.T) {
	for _, p := range oddPolicies() {
		var parts []string
		for n, l := range listsOf(&p) {
			parts = append(parts, strings.Join(slices.Concat(partWords[n:n+1], *l), " "))
		}
		s := strings.Join(parts, ";")
		if p.Nonce != "" {
			s += ";nonce " + p.Nonce
		}
		checkPolicyByForm(t, s)
		if got, ok := impl.ParsePolicy(s); ok && samePolicy(got, p) {
			t.Fatalf("ParsePolicy(%q) is %s", s, quoted(got))
		}
	}
	checkNoPolicy(t, "script ;style;img")
	checkNoPolicy(t, "script home ;style;img")
	checkNoPolicy(t, "script a b c d e;style;img")
	checkParsedPolicy(t, "script home cdn;style;img", policy("home cdn", "", "", ""))
}

func TestParsePolicyOfHosts(t *testing.T) {
	for n := range 3 {
		for count := range 12 {
			p := withList(n, slices.Repeat([]string{"home"}, count)...)
			form := [3]string{"script", "style", "img"}
			form[n] += strings.Repeat(" home", count)
			s := strings.Join(form[:], ";")
			if count <= 4 {
				checkParsedPolicy(t, s, p)
			} else {
				checkNoPolicy(t, s)
			}
			checkPolicyByForm(t, s+";nonce n7")
			checkNoPolicy(t, s+";")
			checkNoPolicy(t, ";"+s)
			for _, word := range slices.Concat(names, notNames) {
				last := form
				last[n] += " " + word
				checkPolicyByForm(t, strings.Join(last[:], ";"))
				last[n] += " cdn"
				checkPolicyByForm(t, strings.Join(last[:], ";"))
			}
		}
	}
}

func TestParsePolicyOfNonces(t *testing.T) {
	for _, nonce := range nonces {
		checkParsedPolicy(t, "script;style;img;nonce "+nonce, withNonce(nonce))
		checkParsedPolicy(t, "script cdn;style home;img evil;nonce "+nonce, policy("cdn", "home", "evil", nonce))
	}
	for size := range 50 {
		for _, character := range []string{"a", "7", "/", "A", " ", ";", "é"} {
			checkPolicyByForm(t, "script;style;img;nonce "+strings.Repeat(character, size))
		}
	}
}

// Each byte takes the place of each one of a form, and comes before it, and after all; and each one is left out.
func TestParsePolicyOfEveryByte(t *testing.T) {
	for _, form := range []string{"script a bc;style;img d;nonce n7", "script;style abcdefgh;img"} {
		for place := range len(form) {
			checkPolicyByForm(t, form[:place]+form[place+1:])
			for c := range 256 {
				s := string([]byte{byte(c)})
				checkPolicyByForm(t, form[:place]+s+form[place+1:])
				checkPolicyByForm(t, form[:place]+s+form[place:])
				checkPolicyByForm(t, form+s)
			}
		}
	}
}

// allOf returns all sequences of at most size of these words, joined by the separator.
func allOf(words []string, size int, separator string) []string {
	all, last := []string{""}, [][]string{{}}
	for range size {
		var longer [][]string
		for _, sequence := range last {
			for _, word := range words {
				longer = append(longer, slices.Concat(sequence, []string{word}))
			}
		}
		for _, sequence := range longer {
			all = append(all, strings.Join(sequence, separator))
		}
		last = longer
	}
	return all
}

// Parts in every order, with some missing, some twice, and some of another form.
func TestParsePolicyOfParts(t *testing.T) {
	accepted := 0
	for _, s := range allOf([]string{"script", "script a", "style", "style b c", "img", "img a", "nonce n", "nonce", "nonce ", "nonce n m", "", " ", "page a", "module a", "image a", "script A", "img "}, 4, ";") {
		checkPolicyByForm(t, s)
		if _, ok := impl.ParsePolicy(s); ok {
			accepted++
		}
	}
	if accepted != 2+8+8 { // the empty text, of no part and of one, and two forms of each list, without and with a nonce
		t.Errorf("%d are accepted", accepted)
	}
	for _, s := range allOf([]string{"script", "style", "img", "nonce n"}, 6, ";") {
		checkPolicyByForm(t, s)
	}
}

func TestParsePolicyOfShortTexts(t *testing.T) {
	for _, s := range allOf([]string{"script", "style", "img", "nonce", " ", ";", "a"}, 5, "") {
		checkPolicyByForm(t, s)
		checkPolicyByForm(t, "script;style;img"+s)
		checkPolicyByForm(t, "script"+s+";style;img")
		checkPolicyByForm(t, "script;style"+s+";img;nonce n")
	}
	for _, s := range allStrings(" ;aA", 6) {
		checkPolicyByForm(t, s)
		checkPolicyByForm(t, "script;style;img"+s)
		checkPolicyByForm(t, "script;style;img;nonce"+s)
		checkPolicyByForm(t, "script"+s+";style;img")
		checkPolicyByForm(t, "script a"+s+"style;img")
	}
}

func TestParsePolicyOfLongTexts(t *testing.T) {
	for _, word := range []string{"script", "style", "img", " ", ";", "a", ";nonce ", "script;style;img", "script;style;img;", "script;style;img;nonce n;", " home", ";nonce n"} {
		long := strings.Repeat(word, 50000)
		for _, s := range []string{long, "script" + long, "script;style;img" + long, "script;style;img;nonce " + long, "script" + long + ";style;img", long + "script;style;img"} {
			checkNoPolicy(t, s)
		}
	}
}

// randomPolicy has few hosts and nonces, so that policies have some of them in common.
func randomPolicy(random *rand.Rand) impl.Policy {
	p := impl.Policy{Set: random.IntN(8) > 0, Nonce: []string{"", "", "n7", "n7", "n8", "a/9"}[random.IntN(6)]}
	for _, l := range listsOf(&p) {
		for range random.IntN(5) {
			*l = append(*l, []string{"home", "cdn", "evil", "a", "b", "abcdefgh"}[random.IntN(6)])
		}
	}
	if !p.Set {
		return impl.Policy{}
	}
	return p
}

func checkFormAndBack(t *testing.T, p impl.Policy) {
	t.Helper()
	form := formByWords(p)
	checkPolicyForm(t, p, form)
	checkParsedPolicy(t, form, p)
	checkPolicyByForm(t, form)
}

func TestParsePolicyInvertsFormatPolicy(t *testing.T) {
	for _, p := range somePolicies() {
		checkFormAndBack(t, p)
	}
	random := rand.New(rand.NewPCG(9, 9))
	for range 5000 {
		checkFormAndBack(t, randomPolicy(random))
	}
	// Policies without a form have that of the zero policy.
	for _, p := range oddPolicies() {
		checkParsedPolicy(t, impl.FormatPolicy(p), impl.Policy{})
	}
}

func TestNarrowPolicy(t *testing.T) {
	p := policy("home cdn", "", "home", "n7")
	checkNarrowed(t, p, policy("cdn evil", "home", "", "n8"), policy("cdn", "", "", ""))
	checkNarrowed(t, policy("cdn evil", "home", "", "n8"), p, policy("cdn", "", "", ""))
	checkNarrowed(t, p, p, p)
	checkNarrowed(t, p, policy("cdn home", "cdn", "home cdn", "n7"), p)
	checkNarrowed(t, policy("cdn home", "cdn", "home cdn", "n7"), p, policy("cdn home", "", "home", "n7"))
	checkNarrowed(t, policy("a b c d", "a b c d", "a b c d", "n"), policy("d c", "b", "e a d", "n"), policy("c d", "b", "a d", "n"))
	// The hosts are those of each list alone.
	checkNarrowed(t, policy("a", "b", "c", ""), policy("b c", "c a", "a b", ""), withNonce(""))
	checkNarrowed(t, policy("a", "b", "c", ""), policy("a", "a", "a", ""), policy("a", "", "", ""))
	checkNarrowed(t, policy("a", "b", "c", ""), policy("b", "b", "b", ""), policy("", "b", "", ""))
	checkNarrowed(t, policy("a", "b", "c", ""), policy("c", "c", "c", ""), policy("", "", "c", ""))
	// A host that is twice in the first list stays so; twice in the second one is once in it.
	checkNarrowed(t, policy("a b a", "", "", ""), policy("a", "", "", ""), policy("a a", "", "", ""))
	checkNarrowed(t, policy("a", "", "", ""), policy("a b a", "", "", ""), policy("a", "", "", ""))
	// A part of a name is no name.
	checkNarrowed(t, policy("home cdn", "hom", "homes", ""), policy("hom cd", "home", "home", ""), withNonce(""))
}

// The policy that is left has no hosts, but is Set all the same: it allows nothing, not everything.
func TestNarrowToNoHosts(t *testing.T) {
	for _, p := range allPolicies() {
		if !p.Set {
			continue
		}
		nothing, nonce := withNonce(""), withNonce(p.Nonce)
		checkNarrowed(t, p, nothing, nothing)
		checkNarrowed(t, nothing, p, nothing)
		checkNarrowed(t, p, nonce, nonce)
		checkNarrowed(t, nonce, p, nonce)
		checkNarrowed(t, p, policy("other", "other", "other", "other"), nothing)
		checkNarrowed(t, policy("other", "other", "other", "other"), p, nothing)
	}
	got := impl.NarrowPolicy(policy("home", "home", "home", "n7"), policy("cdn", "cdn", "cdn", "n8"))
	checkPolicyForm(t, got, "script;style;img")
	for kind := 1; kind <= 5; kind++ {
		checkAllows(t, got, kind, "home", false)
		checkAllows(t, got, kind, "cdn", false)
	}
	checkInline(t, got, "n7", false)
	checkInline(t, got, "n8", false)
	checkInline(t, got, "", false)
}

func TestNarrowNonces(t *testing.T) {
	for _, a := range append(askedNonces, "") {
		for _, b := range append(askedNonces, "") {
			want := ""
			if a == b {
				want = a
			}
			checkNarrowed(t, withNonce(a), withNonce(b), withNonce(want))
			checkNarrowed(t, policy("home", "", "cdn", a), policy("home", "cdn", "", b), policy("home", "", "", want))
		}
	}
}

// A policy that is not Set allows everything, whatever its other fields are, so the other one is left as it is.
func TestNarrowWithPolicyThatIsNotSet(t *testing.T) {
	checkNarrowed(t, impl.Policy{}, impl.Policy{}, impl.Policy{})
	for _, p := range allPolicies() {
		for _, q := range allPolicies() {
			q.Set = false
			if p.Set {
				checkNarrowed(t, p, q, p)
				checkNarrowed(t, q, p, p)
			} else if got := impl.NarrowPolicy(p, q); !samePolicy(got, p) && !samePolicy(got, q) {
				t.Fatalf("NarrowPolicy(%s, %s) is %s, neither of them", quoted(p), quoted(q), quoted(got))
			}
		}
	}
}

// checkAllowsWhatBothAllow asks two policies, and the narrowed one in both orders, about every kind, host and nonce.
func checkAllowsWhatBothAllow(t *testing.T, a impl.Policy, b impl.Policy) {
	t.Helper()
	for _, narrowed := range []impl.Policy{impl.NarrowPolicy(a, b), impl.NarrowPolicy(b, a)} {
		for kind := 0; kind <= 6; kind++ {
			for _, host := range askedHosts {
				want := allowsByLists(a, kind, host) && allowsByLists(b, kind, host)
				if got := impl.Allows(a, kind, host) && impl.Allows(b, kind, host); got != want {
					t.Fatalf("Allows of %s and %s, kind %d, host %q: %t", quoted(a), quoted(b), kind, host, got)
				}
				checkAllows(t, narrowed, kind, host, want)
			}
		}
		for _, nonce := range askedNonces {
			want := allowsInlineByNonce(a, nonce) && allowsInlineByNonce(b, nonce)
			if got := impl.AllowsInline(a, nonce) && impl.AllowsInline(b, nonce); got != want {
				t.Fatalf("AllowsInline of %s and %s, nonce %q: %t", quoted(a), quoted(b), nonce, got)
			}
			checkInline(t, narrowed, nonce, want)
		}
	}
}

// narrowByRemoving removes from the first policy what the second one does not have; both are Set.
func narrowByRemoving(a impl.Policy, b impl.Policy) impl.Policy {
	a = copyPolicy(a)
	for n, l := range listsOf(&a) {
		*l = slices.DeleteFunc(*l, func(host string) bool { return slices.Index(*listsOf(&b)[n], host) < 0 })
	}
	if a.Nonce != b.Nonce {
		a.Nonce = ""
	}
	return a
}

func TestNarrowedPoliciesAllowWhatBothAllow(t *testing.T) {
	for _, a := range allPolicies() {
		for _, b := range allPolicies() {
			checkAllowsWhatBothAllow(t, a, b)
			if a.Set && b.Set {
				checkNarrowed(t, a, b, narrowByRemoving(a, b))
			}
		}
	}
}

// Valid policies have valid ones in common, which have a form.
func TestNarrowedPoliciesAsText(t *testing.T) {
	for _, a := range somePolicies() {
		for _, b := range somePolicies() {
			narrowed := impl.NarrowPolicy(a, b)
			checkValidPolicy(t, narrowed, true)
			checkFormAndBack(t, narrowed)
		}
	}
}

func TestNarrowRandomPolicies(t *testing.T) {
	random := rand.New(rand.NewPCG(99, 9))
	for range 2000 {
		a, b, c := randomPolicy(random), randomPolicy(random), randomPolicy(random)
		checkAllowsWhatBothAllow(t, a, b)
		if a.Set && b.Set {
			checkNarrowed(t, a, b, narrowByRemoving(a, b))
		}
		narrowed := impl.NarrowPolicy(a, b)
		checkFormAndBack(t, narrowed)
		checkAllowsWhatBothAllow(t, narrowed, c)
		checkNarrowed(t, narrowed, c, impl.NarrowPolicy(a, impl.NarrowPolicy(b, c)))
		checkNarrowed(t, a, a, a)
		checkNarrowed(t, narrowed, b, narrowed) // nothing more is to be removed
	}
}

func checkEqualPolicies(t *testing.T, what string, a impl.Policy, b impl.Policy, want bool) {
	t.Helper()
	if impl.EqualPolicies(a, b) != want || impl.EqualPolicies(b, a) != want {
		t.Fatalf("%s: EqualPolicies(%s, %s) is %t, the other way round %t", what, quoted(a), quoted(b), impl.EqualPolicies(a, b), impl.EqualPolicies(b, a))
	}
}

func TestEqualPolicies(t *testing.T) {
	for i, a := range somePolicies() {
		for j, b := range somePolicies() {
			checkEqualPolicies(t, "valid policies", a, b, i == j)
		}
	}
	for _, a := range allPolicies() {
		checkEqualPolicies(t, "its copy", a, copyPolicy(a), true)
		for _, b := range allPolicies() {
			checkEqualPolicies(t, "two policies", a, b, samePolicy(a, b))
		}
	}
	empty := []string{}
	checkEqualPolicies(t, "nil and empty", impl.Policy{}, impl.Policy{Scripts: empty, Styles: empty, Images: empty}, true)
	for n := range 3 {
		checkEqualPolicies(t, "nil and empty", impl.Policy{Set: true}, withList(n, empty...), true)
		checkEqualPolicies(t, "no host and the empty one", impl.Policy{Set: true}, withList(n, ""), false)
	}
	// The forms of these are the same, or would be.
	checkEqualPolicies(t, "not valid, and not Set", withNonce(" "), impl.Policy{}, false)
	checkEqualPolicies(t, "not Set", impl.Policy{Nonce: "n7"}, impl.Policy{}, false)
	checkEqualPolicies(t, "one host and two", withList(0, "a b"), withList(0, "a", "b"), false)
	// These allow the same.
	checkEqualPolicies(t, "a host twice", policy("a", "", "", ""), policy("a a", "", "", ""), false)
	checkEqualPolicies(t, "another order", policy("a b", "", "", ""), policy("b a", "", "", ""), false)
}

// listChanges change a list of three hosts at a place, and return it.
var listChanges = []func([]string, int) []string{
	func(l []string, k int) []string { l[k] += "x"; return l },
	func(l []string, k int) []string { l[k] = l[k][1:]; return l },
	func(l []string, k int) []string { l[k] = strings.ToUpper(l[k]); return l },
	func(l []string, k int) []string { l[k] = ""; return l },
	func(l []string, k int) []string { l[k] = l[(k+1)%3]; return l },
	func(l []string, k int) []string { l[k], l[(k+1)%3] = l[(k+1)%3], l[k]; return l },
	func(l []string, k int) []string { return l[:k] },
	func(l []string, k int) []string { return l[k+1:] },
	func(l []string, k int) []string { return slices.Delete(l, k, k+1) },
	func(l []string, k int) []string { return slices.Insert(l, k, "") },
	func(l []string, k int) []string { return slices.Insert(l, k, l[k]) },
	func(l []string, k int) []string { return append(l, l[k]) },
	func(l []string, k int) []string { return nil },
	func(l []string, k int) []string { return []string{strings.Join(l, " ")} },
}

// Each change alone makes a difference, wherever it is.
func TestPoliciesThatDiffer(t *testing.T) {
	some := policy("home cdn evil", "a b c", "cdn home lib", "n7")
	for i, change := range listChanges {
		for n := range 3 {
			for k := range 3 {
				changed := copyPolicy(some)
				l := listsOf(&changed)[n]
				*l = change(*l, k)
				checkEqualPolicies(t, fmt.Sprintf("change %d of host %d in list %d", i, k, n), some, changed, false)
			}
		}
	}
	for n := range 3 {
		changed := copyPolicy(some)
		l, next := listsOf(&changed)[n], listsOf(&changed)[(n+1)%3]
		*l, *next = *next, *l
		checkEqualPolicies(t, "two lists exchanged", some, changed, false)
	}
	for _, p := range allPolicies() {
		changed := p
		changed.Set = !p.Set
		checkEqualPolicies(t, "Set", p, changed, false)
		changed = p
		changed.Nonce += "x"
		checkEqualPolicies(t, "a longer Nonce", p, changed, false)
		changed.Nonce = ""
		checkEqualPolicies(t, "no Nonce", p, changed, p.Nonce == "")
		changed.Nonce = strings.ToUpper(p.Nonce)
		checkEqualPolicies(t, "another Nonce", p, changed, changed.Nonce == p.Nonce)
	}
}

// roomyPolicy returns a policy all of whose lists have spare capacity, and a function that shows all of their memory.
func roomyPolicy(p impl.Policy) (impl.Policy, func() string) {
	var memory [3][]string
	for n, l := range listsOf(&p) {
		*l, memory[n] = roomy(*l, "spare")
	}
	return p, func() string { return fmt.Sprintf("%q", memory) }
}

func overwritePolicy(p impl.Policy) {
	for _, l := range listsOf(&p) {
		overwrite(*l, "other")
	}
}

// policyCalls has a call of each function that takes memory or returns it.
var policyCalls = map[string]func(impl.Policy, impl.Policy) impl.Policy{
	"IsPolicy": func(a impl.Policy, _ impl.Policy) impl.Policy { return impl.Policy{Set: impl.IsPolicy(a)} },
	"Allows": func(a impl.Policy, _ impl.Policy) impl.Policy {
		allowed := []string{}
		for kind := range 7 {
			allowed = append(allowed, fmt.Sprint(impl.Allows(a, kind, "home"), impl.Allows(a, kind, "other")))
		}
		return impl.Policy{Scripts: allowed}
	},
	"AllowsInline": func(a impl.Policy, _ impl.Policy) impl.Policy { return impl.Policy{Set: impl.AllowsInline(a, "n7")} },
	"FormatPolicy": func(a impl.Policy, _ impl.Policy) impl.Policy { return impl.Policy{Nonce: impl.FormatPolicy(a)} },
	"ParsePolicy": func(a impl.Policy, _ impl.Policy) impl.Policy {
		p, _ := impl.ParsePolicy(impl.FormatPolicy(a))
		return p
	},
	"ParsePolicy of no form": func(a impl.Policy, _ impl.Policy) impl.Policy {
		p, _ := impl.ParsePolicy(impl.FormatPolicy(a) + ";")
		return p
	},
	"NarrowPolicy":           impl.NarrowPolicy,
	"NarrowPolicy of itself": func(a impl.Policy, _ impl.Policy) impl.Policy { return impl.NarrowPolicy(a, a) },
	"NarrowPolicy of parts": func(a impl.Policy, b impl.Policy) impl.Policy {
		for _, l := range append(listsOf(&a), listsOf(&b)...) {
			*l = (*l)[:len(*l)/2]
		}
		return impl.NarrowPolicy(a, b)
	},
	"NarrowPolicy of one list three times": func(a impl.Policy, b impl.Policy) impl.Policy {
		a.Styles, a.Images = a.Scripts, a.Scripts
		return impl.NarrowPolicy(a, b)
	},
	"EqualPolicies": func(a impl.Policy, b impl.Policy) impl.Policy {
		return impl.Policy{Set: impl.EqualPolicies(a, b) && impl.EqualPolicies(a, copyPolicy(a))}
	},
}

// memoryPolicies has policies that are Set and some that are not, valid and not valid, with lists of each number of hosts.
func memoryPolicies() []impl.Policy {
	return []impl.Policy{{}, withNonce(""), withNonce("n7"), policy("home", "home", "home", "n7"), policy("home cdn", "", "home evil cdn", "n7"), policy("a b c d", "d c b a", "a home cdn b", ""), policy("cdn home", "home a", "cdn home", "n8"), {Scripts: []string{"home"}, Styles: []string{"cdn"}, Images: []string{"home", "a"}, Nonce: "n7"},
		{Set: true, Scripts: []string{"", "home"}, Styles: []string{"a", "b", "c", "d", "home"}, Images: []string{"A b", "home"}, Nonce: "N 7"}}
}

func TestPoliciesLeaveArgumentsAlone(t *testing.T) {
	for name, call := range policyCalls {
		for _, a := range memoryPolicies() {
			for _, b := range memoryPolicies() {
				checkPoliciesApart(t, name, a, b, call)
			}
		}
	}
}

// checkPoliciesApart checks that call neither changes the memory of its arguments nor returns a part of it.
func checkPoliciesApart(t *testing.T, what string, a impl.Policy, b impl.Policy, call func(impl.Policy, impl.Policy) impl.Policy) {
	t.Helper()
	givenA, memoryA := roomyPolicy(a)
	givenB, memoryB := roomyPolicy(b)
	before := memoryA() + memoryB()
	got := call(givenA, givenB)
	if after := memoryA() + memoryB(); after != before {
		t.Fatalf("%s changed the memory of its arguments: %s, not %s", what, after, before)
	}
	want := copyPolicy(got)
	checkOwnLists(t, what, got)
	overwritePolicy(got)
	if after := memoryA() + memoryB(); after != before {
		t.Fatalf("%s returned memory of its arguments: %s, not %s", what, after, before)
	}
	got = call(givenA, givenB)
	overwritePolicy(givenA)
	overwritePolicy(givenB)
	checkPolicy(t, what+" after its arguments have changed", got, want)
}

// checkOwnLists changes each list of p, its spare capacity included, and looks for the change in the others.
func checkOwnLists(t *testing.T, what string, p impl.Policy) {
	t.Helper()
	want := copyPolicy(p)
	for n, l := range listsOf(&p) {
		before := slices.Clone((*l)[:cap(*l)])
		overwrite(*l, "changed")
		*listsOf(&want)[n] = slices.Repeat([]string{"changed"}, len(*l))
		checkPolicy(t, fmt.Sprint(what, ", list ", n, " changed"), p, want)
		copy((*l)[:cap(*l)], before)
		*listsOf(&want)[n] = slices.Clone(*l)
	}
}

// What follows a list in its memory is no part of it.
func TestPoliciesDoNotSeeSpareCapacity(t *testing.T) {
	a, _ := roomyPolicy(policy("home cdn", "cdn", "", "n7"))
	b, _ := roomyPolicy(policy("cdn", "cdn home", "home", "n7"))
	empty, _ := roomyPolicy(impl.Policy{})
	checkValidPolicy(t, a, true)
	checkValidPolicy(t, empty, true)
	checkValidPolicy(t, policy("a b c d", "", "", ""), true)
	for kind := 1; kind <= 5; kind++ {
		checkAllows(t, a, kind, "spare", false)
	}
	part := a
	part.Scripts = a.Scripts[:1]
	checkAllows(t, part, 2, "cdn", false)
	checkAllows(t, part, 5, "cdn", false)
	checkPolicyForm(t, part, "script home;style cdn;img;nonce n7")
	checkNarrowed(t, part, b, policy("", "cdn", "", "n7"))
	checkNarrowed(t, b, part, policy("", "cdn", "", "n7"))
	checkPolicyForm(t, a, "script home cdn;style cdn;img;nonce n7")
	checkNarrowed(t, a, b, policy("cdn", "cdn", "", "n7"))
	checkNarrowed(t, b, a, policy("cdn", "cdn", "", "n7"))
	checkEqualPolicies(t, "spare capacity", a, policy("home cdn", "cdn", "", "n7"), true)
	checkEqualPolicies(t, "a part", a, part, false)
	checkEqualPolicies(t, "empty lists with spare capacity", empty, impl.Policy{}, true)
}

// Two results of the same arguments are apart from one another, too.
func TestPoliciesReturnNewMemory(t *testing.T) {
	for name, call := range policyCalls {
		for _, a := range memoryPolicies() {
			for _, b := range memoryPolicies() {
				first, second := call(a, b), call(a, b)
				want := copyPolicy(second)
				checkPolicy(t, name, first, want)
				for _, l := range listsOf(&first) {
					_ = append(*l, "more")
				}
				overwritePolicy(first)
				checkPolicy(t, name+" again", second, want)
				checkPolicy(t, name+" anew", call(a, b), want)
			}
		}
	}
}
