package tests

import (
	"fmt"
	"math"
	"math/rand/v2"
	"slices"
	"testing"

	"loop.example/g00586/impl"
)

// lastStoring is the last time at which a response is stored.
const lastStoring = 999999999000

// notStorings has times at which nothing is stored.
var notStorings = []int{-1, -2, -5, -1000, lastStoring + 1, lastStoring + 2, impl.MaxValue - 1, impl.MaxValue, impl.MaxValue + 1, math.MaxInt, math.MaxInt - 4, math.MinInt, math.MinInt + 5, math.MinInt + 1000}

func cacheEntry(top string, host string, path string, x impl.Response, until int) impl.Entry {
	return impl.Entry{Top: top, To: addr(host, path), Response: x, Until: until}
}

// plainEntry has a response that says what the entry is for.
func plainEntry(top string, host string, path string, until int) impl.Entry {
	return cacheEntry(top, host, path, saying(top+">"+host+"/"+path), until)
}

func cacheOf(entries ...impl.Entry) impl.Cache {
	return impl.Cache{Entries: entries}
}

// aged returns a valid response with this Age that differs from those with other words.
func aged(word string, age int) impl.Response {
	return response(200, 2, "say "+word, age, false, "")
}

// numberedCache returns a cache with this number of entries: each path comes under three tops.
func numberedCache(count int) impl.Cache {
	c := impl.Cache{}
	for i := range count {
		c.Entries = append(c.Entries, plainEntry([]string{"home", "cdn", "news"}[i%3], "cdn", numberedName(i/3), i))
	}
	return c
}

// validCaches has caches that are valid, all of them different.
func validCaches() []impl.Cache {
	largest := response(200, 5, longestBody, 1000, true, "script a b c d;style e f g h;img i j k l;nonce abcdefghij/123456789")
	return []impl.Cache{
		{},
		cacheOf(plainEntry("home", "cdn", "lib", 10)),
		cacheOf(plainEntry("home", "cdn", "lib", 9)),
		cacheOf(plainEntry("news", "cdn", "lib", 10)),
		cacheOf(plainEntry("home", "home", "lib", 10)),
		cacheOf(plainEntry("home", "cdn", "app", 10)),
		cacheOf(cacheEntry("home", "cdn", "lib", saying("b"), 10)),
		cacheOf(cacheEntry("home", "cdn", "lib", aged("b", 0), 10)),
		cacheOf(cacheEntry("home", "cdn", "lib", largest, impl.MaxValue)),
		cacheOf(plainEntry("home", "cdn", "lib", -1)),
		cacheOf(plainEntry("home", "cdn", "lib", math.MinInt), plainEntry("news", "cdn", "lib", math.MaxInt)),
		cacheOf(plainEntry("home", "cdn", "lib", 10), plainEntry("news", "cdn", "lib", 10)),
		cacheOf(plainEntry("news", "cdn", "lib", 10), plainEntry("home", "cdn", "lib", 10)),
		cacheOf(plainEntry("home", "cdn", "lib", 10), plainEntry("news", "cdn", "lib", 20)),
		cacheOf(plainEntry("home", "cdn", "lib", 10), plainEntry("home", "home", "lib", 0)),
		cacheOf(plainEntry("home", "cdn", "lib", 10), plainEntry("home", "cdn", "app", 9), plainEntry("home", "evil", "app", 11)),
		cacheOf(plainEntry("home", "cdn", "lib", 10), plainEntry("cdn", "home", "lib", 10), plainEntry("lib", "cdn", "home", 10)),
		cacheOf(plainEntry("cdn", "cdn", "cdn", 4), plainEntry("home", "home", "home", 5), plainEntry("cdn", "cdn", "home", 6), plainEntry("cdn", "home", "cdn", 7), plainEntry("home", "cdn", "cdn", 8)),
		cacheOf(plainEntry("a", "aa", "a", 1), plainEntry("aa", "a", "a", 2), plainEntry("a", "a", "aa", 3), plainEntry("aaaaaaaa", "zzzzzzzz", "stuvwxyz", 4)),
		cacheOf(cacheEntry("home", "cdn", "lib", largest, 1), cacheEntry("home", "cdn", "app", largest, 1)),
		numberedCache(3),
		numberedCache(99),
		numberedCache(100),
		cacheOf(append([]impl.Entry{plainEntry("home", "cdn", "lib", 10)}, numberedCache(99).Entries...)...),
		cacheOf(append(numberedCache(98).Entries, plainEntry("news", "cdn", "lib", 30), plainEntry("home", "cdn", "lib", 10))...),
	}
}

// oddEntries has single entries that are not valid, all of them different.
func oddEntries() []impl.Entry {
	l := []impl.Entry{{}, {Until: 10}, {Top: "home"}, {To: addr("cdn", "lib")}, {Response: saying("a")}, {Top: "home", To: addr("cdn", "lib"), Until: 10}}
	for _, name := range notNames {
		l = append(l, plainEntry(name, "cdn", "lib", 10), plainEntry("home", name, "lib", 10), plainEntry("home", "cdn", name, 10), plainEntry(name, name, name, 10))
	}
	for _, status := range slices.Concat(statuses, notStatuses) {
		if status != 200 {
			l = append(l, cacheEntry("home", "cdn", "lib", response(status, 2, "say a", 5, false, ""), 10))
		}
	}
	for _, x := range oddResponses() {
		if x.Status == 200 {
			l = append(l, cacheEntry("home", "cdn", "lib", x, 11))
		}
	}
	return l
}

// oddCaches has caches that are not valid: as a whole, or in one of their entries.
func oddCaches() []impl.Cache {
	lib, news := plainEntry("home", "cdn", "lib", 10), plainEntry("news", "cdn", "lib", 10)
	l := []impl.Cache{
		cacheOf(lib, lib),
		cacheOf(plainEntry("home", "cdn", "lib", 5), lib),
		cacheOf(lib, plainEntry("home", "cdn", "lib", 5)),
		cacheOf(cacheEntry("home", "cdn", "lib", saying("first"), 5), cacheEntry("home", "cdn", "lib", saying("second"), 10)),
		cacheOf(cacheEntry("home", "cdn", "lib", saying("first"), 10), cacheEntry("home", "cdn", "lib", saying("second"), 5)),
		cacheOf(cacheEntry("home", "cdn", "lib", saying("first"), 10), cacheEntry("home", "cdn", "lib", saying("second"), 20), cacheEntry("home", "cdn", "lib", saying("third"), 5)),
		cacheOf(cacheEntry("home", "cdn", "lib", saying("first"), 5), news, cacheEntry("home", "cdn", "lib", saying("second"), 30), plainEntry("home", "cdn", "app", 10), cacheEntry("home", "cdn", "lib", saying("third"), 20)),
		cacheOf(news, lib, plainEntry("home", "home", "lib", 10), news),
		cacheOf(plainEntry("home", "cdn", "app", 1), plainEntry("news", "cdn", "app", 2), lib, plainEntry("news", "cdn", "app", 3)),
		numberedCache(101),
		numberedCache(102),
		numberedCache(300),
		cacheOf(append(numberedCache(99).Entries, numberedCache(1).Entries...)...),
		cacheOf(append(numberedCache(100).Entries, numberedCache(100).Entries...)...),
		cacheOf(slices.Repeat([]impl.Entry{lib}, 50)...),
		cacheOf(impl.Entry{}, impl.Entry{}),
	}
	for _, e := range oddEntries() {
		l = append(l, cacheOf(e), cacheOf(plainEntry("home", "evil", "app", 10), e), cacheOf(e, plainEntry("home", "evil", "app", 10)))
	}
	return l
}

func allCaches() []impl.Cache {
	return slices.Concat(validCaches(), oddCaches())
}

// askedTops and askedEntries have hosts and addresses, valid and not; the caches have entries of some of them.
var (
	askedTops    = []string{"home", "cdn", "news", "a", "lib", "new", "", "Home", "home ", "abcdefghi"}
	askedEntries = []impl.Addr{addr("cdn", "lib"), addr("cdn", "app"), addr("cdn", "naa"), addr("cdn", "nbg"), addr("home", "lib"), addr("home", "home"), addr("evil", "app"), addr("new", "new"), addr("a", "aa"), {}, addr("cdn", ""), addr("", "lib"), addr("Cdn", "lib"), addr("cdn", "lib "), addr("cdn", "abcdefghi")}
)

// askedTimes has times below, at and above those of the entries.
var askedTimes = []int{math.MinInt, -1, 0, 1, 4, 5, 6, 9, 10, 11, 20, 21, 30, 31, 98, 99, 100, impl.MaxValue, impl.MaxValue + 1, math.MaxInt}

func cloneCache(c impl.Cache) impl.Cache {
	return impl.Cache{Entries: slices.Clone(c.Entries)}
}

// sameCache does not use what it checks; nil and empty lists are the same.
func sameCache(a impl.Cache, b impl.Cache) bool {
	if len(a.Entries) != len(b.Entries) {
		return false
	}
	for i, e := range a.Entries {
		f := b.Entries[i]
		if e.Top != f.Top || e.To != f.To || e.Until != f.Until || !sameResponse(e.Response, f.Response) {
			return false
		}
	}
	return true
}

// shownCache shows at most eight entries, and cuts long bodies.
func shownCache(c impl.Cache) string {
	text := fmt.Sprintf("%d entries", len(c.Entries))
	for _, e := range c.Entries[:min(len(c.Entries), 8)] {
		text += fmt.Sprintf(" [%.20q %.20q until %d: %s]", e.Top, e.To, e.Until, shown(e.Response))
	}
	return text
}

// pageAddr is what no two entries of a valid cache have in common.
type pageAddr struct {
	top string
	to  impl.Addr
}

// freshByMap goes backwards, so that the first fresh entry of a top and an address remains.
func freshByMap(c impl.Cache, now int) map[pageAddr]impl.Response {
	fresh := map[pageAddr]impl.Response{}
	for _, e := range slices.Backward(c.Entries) {
		if now <= e.Until {
			fresh[pageAddr{e.Top, e.To}] = e.Response
		}
	}
	return fresh
}

func validCacheByForms(c impl.Cache) bool {
	known := map[pageAddr]bool{}
	for _, e := range c.Entries {
		if !nameForm.MatchString(e.Top) || !nameForm.MatchString(e.To.Host) || !nameForm.MatchString(e.To.Path) || !validByLimits(e.Response) || e.Response.Status != 200 {
			return false
		}
		known[pageAddr{e.Top, e.To}] = true
	}
	return len(c.Entries) < 101 && len(known) == len(c.Entries)
}

// storeByParts builds the new cache from what is before the entry, the entry, and what is behind it.
func storeByParts(c impl.Cache, top string, a impl.Addr, x impl.Response, now int) impl.Cache {
	before, behind := c.Entries, []impl.Entry{}
	if at := slices.IndexFunc(c.Entries, func(e impl.Entry) bool { return e.Top == top && e.To == a }); at >= 0 {
		before, behind = c.Entries[:at], c.Entries[at+1:]
	}
	next := impl.Cache{Entries: slices.Concat(before, []impl.Entry{{Top: top, To: a, Response: x, Until: now + x.Age}}, behind)}
	if x.Age != 0 && now >= 0 && now <= lastStoring && validCacheByForms(c) && validCacheByForms(next) {
		return next
	}
	return cloneCache(c)
}

func forgetByKeeping(c impl.Cache, top string) impl.Cache {
	kept := impl.Cache{}
	for _, e := range c.Entries {
		if e.Top != top {
			kept.Entries = append(kept.Entries, e)
		}
	}
	return kept
}

func freshByCounting(c impl.Cache, now int) int {
	count := 0
	for _, e := range c.Entries {
		if now <= e.Until {
			count++
		}
	}
	return count
}

// The checks of caches end a test at the first failure: what they print may be long, and they are called very often.

func checkValidCache(t *testing.T, c impl.Cache, want bool) {
	t.Helper()
	if got := impl.IsCache(c); got != want {
		t.Fatalf("IsCache is %t for %s", got, shownCache(c))
	}
}

func checkFound(t *testing.T, c impl.Cache, top string, a impl.Addr, now int, want impl.Response) {
	t.Helper()
	if got, ok := impl.LookUp(c, top, a, now); !ok || !sameResponse(got, want) {
		t.Fatalf("LookUp of %q for %q at %d is %s, %t, not %s, in %s", a, top, now, shown(got), ok, shown(want), shownCache(c))
	}
}

func checkNotFound(t *testing.T, c impl.Cache, top string, a impl.Addr, now int) {
	t.Helper()
	if got, ok := impl.LookUp(c, top, a, now); ok || !sameResponse(got, response(404, 1, "", 0, false, "")) {
		t.Fatalf("LookUp of %q for %q at %d is %s, %t, in %s", a, top, now, shown(got), ok, shownCache(c))
	}
}

// checkFoundInMap expects what fresh, a map of the entries that are fresh at now, says.
func checkFoundInMap(t *testing.T, c impl.Cache, fresh map[pageAddr]impl.Response, top string, a impl.Addr, now int) {
	t.Helper()
	if x, found := fresh[pageAddr{top, a}]; found {
		checkFound(t, c, top, a, now, x)
	} else {
		checkNotFound(t, c, top, a, now)
	}
}

func checkCache(t *testing.T, what string, got impl.Cache, want impl.Cache) {
	t.Helper()
	if !sameCache(got, want) {
		t.Fatalf("%s: %s, not %s", what, shownCache(got), shownCache(want))
	}
}

// checkStored looks at the cache that was given too.
func checkStored(t *testing.T, c impl.Cache, top string, a impl.Addr, x impl.Response, now int, want impl.Cache) impl.Cache {
	t.Helper()
	before := cloneCache(c)
	got := impl.StoreEntry(c, top, a, x, now)
	checkCache(t, fmt.Sprintf("StoreEntry of %.20q for %.20q (%s) at %d into %s", a, top, shown(x), now, shownCache(before)), got, want)
	checkCache(t, "a cache after StoreEntry", c, before)
	return got
}

// checkNotStored expects a copy of c.
func checkNotStored(t *testing.T, c impl.Cache, top string, a impl.Addr, x impl.Response, now int) {
	t.Helper()
	checkStored(t, c, top, a, x, now, cloneCache(c))
}

func checkForgotten(t *testing.T, c impl.Cache, top string, want impl.Cache) {
	t.Helper()
	before := cloneCache(c)
	checkCache(t, fmt.Sprintf("ForgetHost of %q from %s", top, shownCache(before)), impl.ForgetHost(c, top), want)
	checkCache(t, "a cache after ForgetHost", c, before)
}

func checkFresh(t *testing.T, c impl.Cache, now int, want int) {
	t.Helper()
	if got := impl.FreshEntries(c, now); got != want {
		t.Fatalf("FreshEntries at %d is %d, not %d, for %s", now, got, want, shownCache(c))
	}
}

func checkEqualCaches(t *testing.T, what string, a impl.Cache, b impl.Cache, want bool) {
	t.Helper()
	if impl.EqualCaches(a, b) != want || impl.EqualCaches(b, a) != want {
		t.Fatalf("%s: EqualCaches is %t, the other way round %t, for %s and %s", what, impl.EqualCaches(a, b), impl.EqualCaches(b, a), shownCache(a), shownCache(b))
	}
}

func TestCacheConstants(t *testing.T) {
	if impl.MaxEntries != 100 {
		t.Error(impl.MaxEntries)
	}
}

func TestIsCache(t *testing.T) {
	checkValidCache(t, impl.Cache{}, true)
	checkValidCache(t, impl.Cache{Entries: []impl.Entry{}}, true)
	checkValidCache(t, cacheOf(impl.Entry{}), false)
	checkValidCache(t, cacheOf(plainEntry("home", "cdn", "lib", 10)), true)
	checkValidCache(t, cacheOf(plainEntry("home", "cdn", "lib", 10), plainEntry("news", "cdn", "lib", 10)), true)
	checkValidCache(t, cacheOf(plainEntry("home", "cdn", "lib", 10), plainEntry("home", "cdn", "lib", 11)), false)
	checkValidCache(t, cacheOf(cacheEntry("home", "cdn", "lib", impl.NotFound(), 10)), false)
	checkValidCache(t, cacheOf(cacheEntry("home", "cdn", "lib", saying("a"), 10), cacheEntry("home", "cdn", "app", saying("a"), 10)), true) // only what they are for has to differ
	for _, c := range validCaches() {
		checkValidCache(t, c, true)
	}
	for _, c := range oddCaches() {
		checkValidCache(t, c, false)
	}
}

func TestIsCacheOfNames(t *testing.T) {
	for _, name := range slices.Concat(names, notNames) {
		is := slices.Contains(names, name)
		for _, others := range [][]impl.Entry{{}, numberedCache(2).Entries, numberedCache(99).Entries} {
			for _, at := range []int{0, len(others) / 2, len(others)} {
				for _, e := range []impl.Entry{plainEntry(name, "cdn", "other", 10), plainEntry("home", name, "other", 10), plainEntry("home", "cdn", name, 10), plainEntry(name, name, name, 10)} {
					checkValidCache(t, cacheOf(slices.Insert(slices.Clone(others), at, e)...), is)
				}
			}
		}
	}
}

func TestIsCacheOfManyEntries(t *testing.T) {
	for count := range 140 {
		checkValidCache(t, numberedCache(count), count <= 100)
		checkValidCache(t, cacheOf(slices.Repeat([]impl.Entry{plainEntry("home", "cdn", "lib", 10)}, count)...), count <= 1)
	}
	checkValidCache(t, numberedCache(1800), false)
	checkValidCache(t, cacheOf(slices.Repeat([]impl.Entry{plainEntry("home", "cdn", "lib", 10)}, 100000)...), false)
}

// Two entries with one Top and one To are found wherever they are, and whether they are alike otherwise or not.
func TestIsCacheOfEqualEntries(t *testing.T) {
	for _, count := range []int{2, 3, 7, 100} {
		for i := range count {
			for j := 0; j < count; j += 1 + count/20 {
				c := numberedCache(count)
				c.Entries[j].Top = c.Entries[i].Top
				checkValidCache(t, c, validCacheByForms(c)) // it may have the address of yet another entry now
				c.Entries[j].To = c.Entries[i].To
				checkValidCache(t, c, i == j)
				c.Entries[j] = c.Entries[i]
				checkValidCache(t, c, i == j)
			}
		}
	}
}

func TestIsCacheOfResponses(t *testing.T) {
	for _, x := range allResponses() {
		ok := x
		ok.Status = 200
		for _, count := range []int{1, 5} {
			for _, at := range []int{0, count - 1} {
				c := numberedCache(count)
				c.Entries[at].Response = x
				checkValidCache(t, c, validByLimits(x) && x.Status == 200)
				c.Entries[at].Response = ok
				checkValidCache(t, c, validByLimits(ok))
			}
		}
	}
}

// The times and Ages of entries are not compared with each other.
func TestIsCacheOfTimes(t *testing.T) {
	for _, until := range slices.Concat(askedTimes, notStorings) {
		checkValidCache(t, cacheOf(plainEntry("home", "cdn", "lib", until)), true)
		checkValidCache(t, cacheOf(cacheEntry("home", "cdn", "lib", aged("a", 0), until), plainEntry("home", "cdn", "app", until)), true)
		checkValidCache(t, cacheOf(plainEntry("home", "cdn", "lib", until), plainEntry("home", "cdn", "lib", 10)), false)
		checkValidCache(t, cacheOf(plainEntry("home", "cdn", "lib", 10), plainEntry("home", "cdn", "lib", until)), false)
	}
}

func TestLookUp(t *testing.T) {
	c := cacheOf(plainEntry("home", "cdn", "lib", 10), plainEntry("news", "cdn", "lib", 12), plainEntry("home", "cdn", "app", 0))
	for _, now := range []int{math.MinInt, -1, 0, 9, 10} {
		checkFound(t, c, "home", addr("cdn", "lib"), now, saying("home>cdn/lib"))
	}
	for _, now := range []int{11, 12, 13, math.MaxInt} {
		checkNotFound(t, c, "home", addr("cdn", "lib"), now)
	}
	checkFound(t, c, "news", addr("cdn", "lib"), 12, saying("news>cdn/lib"))
	checkNotFound(t, c, "news", addr("cdn", "lib"), 13)
	checkFound(t, c, "home", addr("cdn", "app"), 0, saying("home>cdn/app"))
	checkNotFound(t, c, "home", addr("cdn", "app"), 1)
	for _, top := range []string{"cdn", "lib", "evil", "hom", "homes", "home ", " home", "Home", ""} {
		checkNotFound(t, c, top, addr("cdn", "lib"), 10)
	}
	for _, a := range []impl.Addr{addr("home", "lib"), addr("news", "lib"), addr("lib", "cdn"), addr("cdn", "li"), addr("cdn", "libs"), addr("cdn", "Lib"), addr("cd", "lib"), addr("cdns", "lib"), addr("cdn", ""), addr("", "lib"), addr("", "cdn/lib"), {}} {
		checkNotFound(t, c, "home", a, 10)
	}
	checkNotFound(t, c, "news", addr("cdn", "app"), 0)
}

// The same address has an entry of its own under each top.
func TestLookUpUnderTwoTops(t *testing.T) {
	for _, untils := range [][2]int{{10, 20}, {20, 10}, {10, 10}} {
		c := cacheOf(cacheEntry("home", "cdn", "lib", saying("first"), untils[0]), cacheEntry("news", "cdn", "lib", saying("second"), untils[1]))
		for now := range 25 {
			for i, top := range []string{"home", "news"} {
				if now <= untils[i] {
					checkFound(t, c, top, addr("cdn", "lib"), now, c.Entries[i].Response)
				} else {
					checkNotFound(t, c, top, addr("cdn", "lib"), now)
				}
			}
			checkNotFound(t, c, "cdn", addr("cdn", "lib"), now)
		}
	}
}

// An entry that is over its time does not hide a later one that is not.
func TestLookUpOfEqualEntries(t *testing.T) {
	to, others := addr("cdn", "lib"), []impl.Entry{plainEntry("news", "cdn", "lib", 99), plainEntry("home", "cdn", "app", 99), plainEntry("home", "home", "lib", 99)}
	first, second, third := saying("first"), saying("second"), saying("third")
	c := cacheOf(cacheEntry("home", "cdn", "lib", first, 5), cacheEntry("home", "cdn", "lib", second, 10))
	checkFound(t, c, "home", to, 5, first)
	checkFound(t, c, "home", to, 6, second)
	checkFound(t, c, "home", to, 10, second)
	checkNotFound(t, c, "home", to, 11)
	c = cacheOf(cacheEntry("home", "cdn", "lib", first, 10), cacheEntry("home", "cdn", "lib", second, 5))
	checkFound(t, c, "home", to, 5, first)
	checkFound(t, c, "home", to, 6, first)
	checkNotFound(t, c, "home", to, 11)
	c = cacheOf(slices.Concat(others, []impl.Entry{cacheEntry("home", "cdn", "lib", first, 5)}, others, []impl.Entry{cacheEntry("home", "cdn", "lib", second, 20)}, others, []impl.Entry{cacheEntry("home", "cdn", "lib", third, 10)})...)
	for now, want := range map[int]impl.Response{0: first, 5: first, 6: second, 10: second, 20: second} {
		checkFound(t, c, "home", to, now, want)
	}
	checkNotFound(t, c, "home", to, 21)
	c.Entries[3].Until, c.Entries[7].Until = -1, 7
	for now, want := range map[int]impl.Response{-1: first, 0: second, 7: second, 8: third, 10: third} {
		checkFound(t, c, "home", to, now, want)
	}
	checkNotFound(t, c, "home", to, 11)
}

func TestLookUpOfNothing(t *testing.T) {
	for _, c := range []impl.Cache{{}, {Entries: []impl.Entry{}}} {
		for _, top := range askedTops {
			for _, a := range slices.Concat(askedEntries, someAddrs) {
				for _, now := range askedTimes {
					checkNotFound(t, c, top, a, now)
				}
			}
		}
	}
}

// Tops, addresses, responses and times that are not valid are taken like others.
func TestLookUpOfOddCaches(t *testing.T) {
	checkFound(t, cacheOf(impl.Entry{}), "", impl.Addr{}, 0, impl.Response{})
	checkNotFound(t, cacheOf(impl.Entry{}), "", impl.Addr{}, 1)
	for _, name := range notNames {
		c := cacheOf(plainEntry("home", "cdn", "lib", 10), plainEntry(name, "cdn", "lib", 10), plainEntry("home", name, name, 10), plainEntry(name, name, "lib", 9))
		for _, e := range c.Entries {
			checkFound(t, c, e.Top, e.To, e.Until, e.Response)
			checkNotFound(t, c, e.Top, e.To, e.Until+1)
		}
		checkNotFound(t, c, name, addr(name, name), 9)
		checkNotFound(t, c, name, addr("cdn", name), 9)
	}
	for _, x := range allResponses() {
		c := cacheOf(plainEntry("home", "cdn", "app", 10), cacheEntry("home", "cdn", "lib", x, 7))
		checkFound(t, c, "home", addr("cdn", "lib"), 7, x) // its own Age and Status do not count
		checkNotFound(t, c, "home", addr("cdn", "lib"), 8)
	}
	for _, until := range slices.Concat(askedTimes, notStorings) {
		c := cacheOf(plainEntry("home", "cdn", "lib", until))
		checkFound(t, c, "home", addr("cdn", "lib"), until, saying("home>cdn/lib"))
		checkFound(t, c, "home", addr("cdn", "lib"), math.MinInt, saying("home>cdn/lib"))
		if until < math.MaxInt {
			checkNotFound(t, c, "home", addr("cdn", "lib"), until+1)
			checkNotFound(t, c, "home", addr("cdn", "lib"), math.MaxInt)
		}
	}
	large := numberedCache(1800)
	checkFound(t, large, "news", addr("cdn", numberedName(599)), 1799, large.Entries[1799].Response)
	checkNotFound(t, large, "news", addr("cdn", numberedName(599)), 1800)
	checkNotFound(t, large, "news", addr("cdn", numberedName(600)), 0)
}

func TestLookUpInAllCaches(t *testing.T) {
	for _, c := range allCaches() {
		for _, now := range askedTimes {
			fresh := freshByMap(c, now)
			for key := range fresh {
				checkFoundInMap(t, c, fresh, key.top, key.to, now)
			}
			for _, top := range askedTops {
				for _, a := range askedEntries {
					checkFoundInMap(t, c, fresh, top, a, now)
				}
			}
		}
	}
}

// P13: ordinary responses, with the caches written out.
func TestStoreEntry(t *testing.T) {
	lib, app := addr("cdn", "lib"), addr("cdn", "app")
	c := checkStored(t, impl.Cache{}, "home", lib, aged("a", 5), 10, cacheOf(cacheEntry("home", "cdn", "lib", aged("a", 5), 15)))
	c = checkStored(t, c, "home", app, aged("b", 1), 10, cacheOf(cacheEntry("home", "cdn", "lib", aged("a", 5), 15), cacheEntry("home", "cdn", "app", aged("b", 1), 11)))
	c = checkStored(t, c, "news", lib, aged("c", 1000), 11, cacheOf(cacheEntry("home", "cdn", "lib", aged("a", 5), 15), cacheEntry("home", "cdn", "app", aged("b", 1), 11), cacheEntry("news", "cdn", "lib", aged("c", 1000), 1011)))
	checkValidCache(t, c, true)
	checkFound(t, c, "home", lib, 15, aged("a", 5))
	checkNotFound(t, c, "home", lib, 16)
	checkFound(t, c, "news", lib, 1011, aged("c", 1000))
	checkNotFound(t, c, "news", lib, 1012)
	checkNotFound(t, c, "news", app, 11)
	c = checkStored(t, c, "home", lib, aged("d", 7), 12, cacheOf(cacheEntry("home", "cdn", "lib", aged("d", 7), 19), cacheEntry("home", "cdn", "app", aged("b", 1), 11), cacheEntry("news", "cdn", "lib", aged("c", 1000), 1011))) // the entry of app is over its time and stays
	checkFound(t, c, "home", lib, 19, aged("d", 7))
	checkFound(t, c, "news", lib, 19, aged("c", 1000))
	checkNotFound(t, c, "home", app, 12)
	c = checkStored(t, c, "home", app, aged("e", 2), 20, cacheOf(cacheEntry("home", "cdn", "lib", aged("d", 7), 19), cacheEntry("home", "cdn", "app", aged("e", 2), 22), cacheEntry("news", "cdn", "lib", aged("c", 1000), 1011)))
	checkFound(t, c, "home", app, 22, aged("e", 2))
}

// What is stored again counts, also if it is over earlier than the older one, or at a time before that.
func TestStoreEntryAgain(t *testing.T) {
	c := cacheOf(plainEntry("home", "cdn", "app", 50), plainEntry("home", "cdn", "lib", 50), plainEntry("news", "cdn", "lib", 50))
	for _, age := range []int{1, 2, 5, 49, 50, 51, 999, 1000} {
		for _, now := range []int{0, 1, 49, 50, 51, 100, 2000} {
			x := aged("again", age)
			want := cloneCache(c)
			want.Entries[1] = cacheEntry("home", "cdn", "lib", x, now+age)
			stored := checkStored(t, c, "home", addr("cdn", "lib"), x, now, want)
			checkFound(t, stored, "home", addr("cdn", "lib"), now+age, x)
			checkNotFound(t, stored, "home", addr("cdn", "lib"), now+age+1)
			checkFound(t, stored, "news", addr("cdn", "lib"), 50, saying("news>cdn/lib"))
			checkStored(t, stored, "home", addr("cdn", "lib"), x, now, stored)
			checkStored(t, stored, "home", addr("cdn", "lib"), saying("home>cdn/lib"), 45, c)
		}
	}
}

func TestStoreEntryUnderTwoTops(t *testing.T) {
	lib := addr("cdn", "lib")
	c := impl.StoreEntry(impl.StoreEntry(impl.Cache{}, "home", lib, aged("a", 10), 0), "cdn", lib, aged("b", 20), 0)
	checkCache(t, "two tops", c, cacheOf(cacheEntry("home", "cdn", "lib", aged("a", 10), 10), cacheEntry("cdn", "cdn", "lib", aged("b", 20), 20)))
	d := checkStored(t, c, "cdn", lib, aged("c", 5), 3, cacheOf(c.Entries[0], cacheEntry("cdn", "cdn", "lib", aged("c", 5), 8)))
	checkFound(t, d, "home", lib, 10, aged("a", 10))
	checkFound(t, d, "cdn", lib, 8, aged("c", 5))
	checkNotFound(t, d, "cdn", lib, 9)
	d = checkStored(t, c, "home", lib, aged("c", 30), 3, cacheOf(cacheEntry("home", "cdn", "lib", aged("c", 30), 33), c.Entries[1]))
	checkFound(t, d, "home", lib, 33, aged("c", 30))
	checkNotFound(t, d, "cdn", lib, 21)
	checkNotFound(t, d, "news", lib, 3)
}

// A response with Age 0 is not stored; neither does it take the place of an older one.
func TestStoreEntryWithoutAge(t *testing.T) {
	for _, c := range validCaches() {
		for _, now := range []int{0, 5, 10, 11, lastStoring} {
			for _, e := range slices.Concat(c.Entries[:min(len(c.Entries), 5)], []impl.Entry{plainEntry("home", "cdn", "lib", 10), plainEntry("new", "new", "new", 10)}) {
				checkNotStored(t, c, e.Top, e.To, aged("never", 0), now)
				e.Response.Age = 0
				checkNotStored(t, c, e.Top, e.To, e.Response, now)
			}
		}
	}
}

func TestStoreEntryAtAllTimes(t *testing.T) {
	full, lib := numberedCache(100), addr("cdn", "lib")
	for _, now := range []int{0, 1, 2, 1000, lastStoring - 1000, lastStoring - 1, lastStoring} {
		for _, age := range []int{1, 5, 999, 1000} {
			x := aged("a", age)
			c := checkStored(t, impl.Cache{}, "home", lib, x, now, cacheOf(cacheEntry("home", "cdn", "lib", x, now+age)))
			checkFound(t, c, "home", lib, now, x)
			checkFound(t, c, "home", lib, now+age, x)
			checkNotFound(t, c, "home", lib, now+age+1)
			want := cloneCache(full)
			want.Entries[99] = cacheEntry("home", "cdn", numberedName(33), x, now+age)
			checkStored(t, full, "home", addr("cdn", numberedName(33)), x, now, want)
		}
	}
	for _, now := range notStorings {
		for _, age := range []int{0, 1, 5, 1000} {
			for _, c := range []impl.Cache{{}, cacheOf(plainEntry("home", "cdn", "lib", 10)), cacheOf(plainEntry("home", "cdn", "app", 10)), full} {
				checkNotStored(t, c, "home", lib, aged("a", age), now)
			}
		}
	}
}

func TestStoreEntryInFullCache(t *testing.T) {
	for count := 90; count <= 110; count++ {
		c, x := numberedCache(count), aged("a", 5)
		for _, top := range []string{"home", "news", "new"} {
			if count < 100 {
				stored := checkStored(t, c, top, addr("cdn", "lib"), x, 10, cacheOf(append(numberedCache(count).Entries, cacheEntry(top, "cdn", "lib", x, 15))...))
				checkValidCache(t, stored, true)
			} else {
				checkNotStored(t, c, top, addr("cdn", "lib"), x, 10)
				checkNotStored(t, c, top, addr("cdn", "lib"), x, 5000) // entries that are over their time make no room
			}
		}
		for i, e := range c.Entries {
			want := cloneCache(c)
			if count <= 100 {
				want.Entries[i].Response, want.Entries[i].Until = x, 15
			}
			checkStored(t, c, e.Top, e.To, x, 10, want)
		}
	}
}

func TestStoreEntryOfOtherNames(t *testing.T) {
	for _, c := range []impl.Cache{{}, cacheOf(plainEntry("home", "cdn", "lib", 10)), numberedCache(7)} {
		for _, name := range notNames {
			checkNotStored(t, c, name, addr("cdn", "lib"), saying("a"), 10)
			checkNotStored(t, c, "home", addr(name, "lib"), saying("a"), 10)
			checkNotStored(t, c, "home", addr("cdn", name), saying("a"), 10)
			checkNotStored(t, c, name, addr(name, name), impl.Response{}, -1)
		}
		for _, name := range names {
			stored := checkStored(t, c, name, addr(name, name), saying("a"), 10, cacheOf(slices.Concat(c.Entries, []impl.Entry{cacheEntry(name, name, name, saying("a"), 15)})...))
			checkValidCache(t, stored, true)
		}
	}
	// A name that is none is none, even if an entry has it already.
	for _, name := range notNames {
		checkNotStored(t, cacheOf(plainEntry(name, "cdn", "lib", 10)), name, addr("cdn", "lib"), saying("a"), 10)
		checkNotStored(t, cacheOf(plainEntry("home", name, name, 10)), "home", addr(name, name), saying("a"), 10)
	}
}

func TestStoreEntryOfOtherResponses(t *testing.T) {
	c := cacheOf(plainEntry("home", "cdn", "lib", 10), plainEntry("news", "cdn", "lib", 10))
	for _, status := range slices.Concat(statuses, notStatuses) {
		if status != 200 {
			checkNotStored(t, c, "home", addr("cdn", "lib"), response(status, 2, "say a", 5, false, ""), 10)
			checkNotStored(t, c, "home", addr("cdn", "app"), response(status, 2, "say a", 5, false, ""), 10)
			checkNotStored(t, impl.Cache{}, "home", addr("cdn", "lib"), response(status, 1, "", 5, true, ""), 10)
		}
	}
	checkNotStored(t, c, "home", addr("cdn", "lib"), impl.NotFound(), 10)
	for _, x := range oddResponses() {
		checkNotStored(t, c, "home", addr("cdn", "lib"), x, 10)
		checkNotStored(t, c, "evil", addr("cdn", "lib"), x, 10)
		checkNotStored(t, impl.Cache{}, "home", addr("cdn", "lib"), x, 2000)
	}
	for _, x := range someResponses() {
		x.Status, x.Age = 200, max(x.Age, 1)
		stored := checkStored(t, c, "news", addr("cdn", "lib"), x, 10, cacheOf(c.Entries[0], cacheEntry("news", "cdn", "lib", x, 10+x.Age)))
		checkFound(t, stored, "news", addr("cdn", "lib"), 10+x.Age, x)
	}
}

// Nothing is stored in a cache that is not valid, even if it would become valid by it.
func TestStoreEntryInOddCaches(t *testing.T) {
	for _, e := range oddEntries() {
		for _, c := range []impl.Cache{cacheOf(e), cacheOf(plainEntry("home", "cdn", "app", 10), e), cacheOf(e, plainEntry("home", "cdn", "app", 10))} {
			checkNotStored(t, c, e.Top, e.To, saying("a"), 10)
			checkNotStored(t, c, "home", addr("cdn", "app"), saying("a"), 10)
			checkNotStored(t, c, "news", addr("cdn", "new"), saying("a"), 10)
		}
	}
	becomes := cacheOf(cacheEntry("home", "cdn", "lib", impl.NotFound(), 10))
	checkValidCache(t, becomes, false)
	checkNotStored(t, becomes, "home", addr("cdn", "lib"), saying("a"), 10)
	checkValidCache(t, cacheOf(cacheEntry("home", "cdn", "lib", saying("a"), 10)), true)
	for _, c := range oddCaches() {
		for _, a := range []impl.Addr{addr("cdn", "lib"), addr("cdn", "app"), addr("cdn", "naa"), addr("new", "new"), {}} {
			for _, top := range []string{"home", "news", "new", ""} {
				checkNotStored(t, c, top, a, saying("a"), 10)
			}
		}
	}
}

// P13: whatever there is and whatever is stored, it is found until its age is over, and every other entry is found as before.
func TestStoredResponseIsFoundUntilItsAgeIsOver(t *testing.T) {
	for n, c := range allCaches() {
		for i, a := range askedEntries {
			top, now, x := askedTops[(n+i)%len(askedTops)], []int{0, 3, 10, 500, lastStoring}[i%5], aged("new", []int{1, 5, 10, 1000}[(n+i)%4])
			want := storeByParts(c, top, a, x, now)
			got := checkStored(t, c, top, a, x, now, want)
			checkEqualCaches(t, "a cache and what StoreEntry returns", c, got, sameCache(c, got))
			if validCacheByForms(c) {
				checkValidCache(t, got, true)
			}
			stored := !sameCache(c, want)
			for _, later := range []int{0, now - 1, now, now + 1, now + x.Age - 1, now + x.Age, now + x.Age + 1, impl.MaxValue, impl.MaxValue + 1} {
				fresh := freshByMap(c, later)
				if stored {
					delete(fresh, pageAddr{top, a})
				}
				if stored && later <= now+x.Age {
					fresh[pageAddr{top, a}] = x
				}
				for key := range fresh {
					checkFoundInMap(t, got, fresh, key.top, key.to, later)
				}
				for _, other := range askedTops {
					checkFoundInMap(t, got, fresh, other, a, later)
				}
				for _, other := range askedEntries {
					checkFoundInMap(t, got, fresh, top, other, later)
				}
			}
		}
	}
}

func TestForgetHost(t *testing.T) {
	home, news, own, away := plainEntry("home", "cdn", "lib", 10), plainEntry("news", "cdn", "lib", 10), plainEntry("cdn", "cdn", "lib", 10), plainEntry("cdn", "home", "home", 10)
	c := cacheOf(home, news, own, away, plainEntry("home", "home", "app", 5))
	checkForgotten(t, c, "home", cacheOf(news, own, away)) // what others have of the host home stays
	checkForgotten(t, c, "news", cacheOf(home, own, away, plainEntry("home", "home", "app", 5)))
	checkForgotten(t, c, "cdn", cacheOf(home, news, plainEntry("home", "home", "app", 5)))
	for _, top := range []string{"lib", "app", "evil", "hom", "homes", "Home", "home ", "home/lib", "", "\x00"} {
		checkForgotten(t, c, top, c)
	}
	checkForgotten(t, cacheOf(home, plainEntry("home", "evil", "app", -1), plainEntry("home", "cdn", "app", impl.MaxValue)), "home", impl.Cache{})
	checkForgotten(t, cacheOf(home, home, news, home), "home", cacheOf(news))
	checkForgotten(t, impl.Cache{}, "home", impl.Cache{})
	checkForgotten(t, impl.Cache{Entries: []impl.Entry{}}, "", impl.Cache{})
}

func TestForgetHostOfOtherNames(t *testing.T) {
	for _, name := range notNames {
		c := cacheOf(plainEntry("home", name, "lib", 10), plainEntry(name, "cdn", "lib", 10), cacheEntry(name, name, name, impl.Response{}, -5), plainEntry("news", "cdn", name, 10))
		checkForgotten(t, c, name, cacheOf(c.Entries[0], c.Entries[3]))
		checkForgotten(t, c, "home", cacheOf(c.Entries[1:]...))
		checkForgotten(t, cacheOf(plainEntry("home", "cdn", "lib", 10)), name, cacheOf(plainEntry("home", "cdn", "lib", 10)))
	}
	checkForgotten(t, cacheOf(impl.Entry{}, impl.Entry{}), "", impl.Cache{})
	checkForgotten(t, cacheOf(impl.Entry{}, impl.Entry{}), "home", cacheOf(impl.Entry{}, impl.Entry{}))
}

func TestForgetHostInAllCaches(t *testing.T) {
	for _, c := range allCaches() {
		for _, top := range askedTops {
			checkForgotten(t, c, top, forgetByKeeping(c, top))
			forgotten := impl.ForgetHost(c, top)
			checkForgotten(t, forgotten, top, forgotten)
			checkEqualCaches(t, "a cache and what ForgetHost returns", c, forgotten, sameCache(c, forgotten))
			if validCacheByForms(c) {
				checkValidCache(t, forgotten, true)
			}
			for _, now := range []int{0, 5, 10, 11} {
				fresh, left := freshByMap(c, now), freshByMap(forgotten, now)
				for key, x := range fresh {
					if key.top == top {
						checkNotFound(t, forgotten, key.top, key.to, now)
					} else {
						checkFound(t, forgotten, key.top, key.to, now, x)
						delete(left, key)
					}
				}
				if len(left) > 0 {
					t.Fatalf("ForgetHost of %q from %s has %d other entries", top, shownCache(c), len(left))
				}
			}
		}
	}
}

func TestFreshEntries(t *testing.T) {
	c := cacheOf(plainEntry("home", "cdn", "lib", 10), plainEntry("news", "cdn", "lib", 12), plainEntry("home", "cdn", "app", 10), plainEntry("home", "evil", "app", -3))
	for now, want := range map[int]int{math.MinInt: 4, -4: 4, -3: 4, -2: 3, 0: 3, 9: 3, 10: 3, 11: 1, 12: 1, 13: 0, math.MaxInt: 0} {
		checkFresh(t, c, now, want)
	}
	for _, now := range askedTimes {
		checkFresh(t, impl.Cache{}, now, 0)
		checkFresh(t, impl.Cache{Entries: []impl.Entry{}}, now, 0)
	}
	// Each entry counts, also those that no one can look up.
	lib := plainEntry("home", "cdn", "lib", 10)
	checkFresh(t, cacheOf(lib, lib, lib), 10, 3)
	checkFresh(t, cacheOf(lib, lib, lib), 11, 0)
	checkFresh(t, cacheOf(plainEntry("home", "cdn", "lib", 5), lib, plainEntry("home", "cdn", "lib", 20), lib), 6, 3)
	checkFresh(t, cacheOf(impl.Entry{}, impl.Entry{}), 0, 2)
	checkFresh(t, cacheOf(impl.Entry{}, impl.Entry{}), 1, 0)
	checkFresh(t, cacheOf(cacheEntry("home", "cdn", "lib", impl.NotFound(), 10), cacheEntry("Home", "", "", impl.Response{}, 10)), 10, 2)
	checkFresh(t, numberedCache(1800), 0, 1800)
	checkFresh(t, numberedCache(1800), 1799, 1)
	checkFresh(t, numberedCache(1800), 1800, 0)
}

func TestFreshEntriesOfAllCaches(t *testing.T) {
	for _, c := range allCaches() {
		for _, now := range askedTimes {
			checkFresh(t, c, now, freshByCounting(c, now))
		}
		for i, e := range c.Entries {
			if i > 120 {
				break
			}
			checkFresh(t, c, e.Until, freshByCounting(c, e.Until))
			checkFresh(t, c, e.Until-1, freshByCounting(c, e.Until-1))
			checkFresh(t, c, e.Until+1, freshByCounting(c, e.Until+1))
		}
	}
}

func TestEqualCaches(t *testing.T) {
	caches := allCaches()
	for i, a := range caches {
		checkEqualCaches(t, "a copy", a, cloneCache(a), true)
		for _, b := range caches[:min(i, 120)] {
			checkEqualCaches(t, "two caches", a, b, sameCache(a, b))
		}
	}
	for i, a := range validCaches() {
		for j, b := range validCaches() {
			checkEqualCaches(t, "valid caches", a, b, i == j)
		}
	}
	lib, news := plainEntry("home", "cdn", "lib", 10), plainEntry("news", "cdn", "lib", 10)
	checkEqualCaches(t, "nil and empty entries", impl.Cache{}, impl.Cache{Entries: []impl.Entry{}}, true)
	checkEqualCaches(t, "an empty entry and none", impl.Cache{}, cacheOf(impl.Entry{}), false)
	checkEqualCaches(t, "another order", cacheOf(lib, news), cacheOf(news, lib), false)
	checkEqualCaches(t, "the same entry once and twice", cacheOf(lib), cacheOf(lib, lib), false)
	checkEqualCaches(t, "two entries that come once and twice", cacheOf(lib, lib, news), cacheOf(lib, news, news), false)
	checkEqualCaches(t, "a part", cacheOf(lib, news), cacheOf(lib), false)
	checkEqualCaches(t, "entries that are over their time", cacheOf(plainEntry("home", "cdn", "lib", -5)), cacheOf(plainEntry("home", "cdn", "lib", -6)), false)
}

// entryChanges change one field each, to a value that it does not have.
var entryChanges = []func(*impl.Entry){
	func(e *impl.Entry) { e.Top += "x" },
	func(e *impl.Entry) { e.Top = " " + e.Top },
	func(e *impl.Entry) { e.To.Host += "x" },
	func(e *impl.Entry) { e.To.Path += "x" },
	func(e *impl.Entry) { e.To.Path += "\x00" },
	func(e *impl.Entry) { e.Until++ },
	func(e *impl.Entry) { e.Until-- },
	func(e *impl.Entry) { e.Until = ^e.Until },
	func(e *impl.Entry) { e.Until ^= 1 << 32 },
}

func TestCachesThatDifferInOnePlace(t *testing.T) {
	for _, c := range slices.Concat(validCaches(), oddCaches()[:40]) {
		check := func(what string, change func([]impl.Entry) []impl.Entry) {
			checkEqualCaches(t, what, c, cacheOf(change(slices.Clone(c.Entries))...), false)
		}
		check("one entry more", func(l []impl.Entry) []impl.Entry { return append(l, plainEntry("new", "new", "new", 10)) })
		check("an empty entry more", func(l []impl.Entry) []impl.Entry { return append(l, impl.Entry{}) })
		check("one entry before the others", func(l []impl.Entry) []impl.Entry { return slices.Insert(l, 0, plainEntry("new", "new", "new", 10)) })
		for i := range c.Entries[:min(len(c.Entries), 120)] {
			check("one entry less", func(l []impl.Entry) []impl.Entry { return slices.Delete(l, i, i+1) })
			for n, change := range entryChanges {
				check(fmt.Sprintf("change %d of an entry", n), func(l []impl.Entry) []impl.Entry { change(&l[i]); return l })
			}
			for n, change := range responseChanges {
				check(fmt.Sprintf("change %d of a response", n), func(l []impl.Entry) []impl.Entry { change(&l[i].Response); return l })
			}
		}
	}
}

// randomCache has valid and invalid caches, with entries that come more than once.
func randomCache(random *rand.Rand) impl.Cache {
	c := impl.Cache{}
	size := random.IntN(8)
	if random.IntN(20) == 0 {
		size = 97 + random.IntN(6)
		c = numberedCache(size - 2)
	}
	for len(c.Entries) < size {
		e := cacheEntry(askedTops[random.IntN(6)], []string{"cdn", "home", "a"}[random.IntN(3)], []string{"lib", "app", "naa", "home", "aa"}[random.IntN(5)], saying(fmt.Sprint(random.IntN(3))), random.IntN(40)-5)
		if random.IntN(60) == 0 {
			e.Response = randomResponse(random)
		}
		if random.IntN(60) == 0 {
			e.Top = notNames[random.IntN(len(notNames))]
		}
		c.Entries = append(c.Entries, e)
	}
	return c
}

func TestRandomCaches(t *testing.T) {
	random := rand.New(rand.NewPCG(13, 1))
	valid, stored := 0, 0
	for range 20000 {
		c := randomCache(random)
		is := validCacheByForms(c)
		checkValidCache(t, c, is)
		top, a, now, x := askedTops[random.IntN(len(askedTops))], askedEntries[random.IntN(len(askedEntries))], random.IntN(40)-5, aged("new", random.IntN(30))
		checkFoundInMap(t, c, freshByMap(c, now), top, a, now)
		for _, e := range c.Entries[:min(len(c.Entries), 7)] {
			checkFoundInMap(t, c, freshByMap(c, now), e.Top, e.To, now)
		}
		checkFresh(t, c, now, freshByCounting(c, now))
		checkForgotten(t, c, top, forgetByKeeping(c, top))
		got := checkStored(t, c, top, a, x, now, storeByParts(c, top, a, x, now))
		if !sameCache(c, got) {
			stored++
			checkFound(t, got, top, a, now+x.Age, x)
			checkNotFound(t, got, top, a, now+x.Age+1)
		}
		if is {
			valid++
		}
		other := randomCache(random)
		checkEqualCaches(t, "random caches", c, other, sameCache(c, other))
	}
	if valid < 1000 || valid > 19000 || stored < 1000 || stored > 19000 {
		t.Errorf("%d caches are valid, %d responses are stored", valid, stored)
	}
}

// keptResponse is what a map has of a response that was stored.
type keptResponse struct {
	x     impl.Response
	until int
}

// P13: over a long time, with many responses, a cache finds what a map of them has.
func TestManyResponsesThatAreStored(t *testing.T) {
	random := rand.New(rand.NewPCG(13, 2))
	refused := 0
	for range 20 {
		c, known, now := impl.Cache{}, map[pageAddr]keptResponse{}, 0
		for i := range 300 {
			key := pageAddr{askedTops[random.IntN(5)], addr([]string{"cdn", "home", "evil"}[random.IntN(3)], numberedName(random.IntN(12)))}
			x := aged(fmt.Sprint("x", i), random.IntN(50))
			before := cloneCache(c)
			next := impl.StoreEntry(c, key.top, key.to, x, now)
			checkCache(t, "a cache that was given", c, before)
			c = next
			if _, found := known[key]; x.Age == 0 || !found && len(known) == 100 {
				refused++
			} else {
				known[key] = keptResponse{x, now + x.Age}
			}
			if random.IntN(100) == 0 {
				c = impl.ForgetHost(c, key.top)
				for k := range known {
					if k.top == key.top {
						delete(known, k)
					}
				}
			}
			checkKnown(t, c, known, now)
			now += random.IntN(3)
		}
	}
	if refused < 300 {
		t.Errorf("only %d responses were refused", refused)
	}
}

// checkKnown looks for every entry that is known, and for each of them under another top.
func checkKnown(t *testing.T, c impl.Cache, known map[pageAddr]keptResponse, now int) {
	t.Helper()
	if len(c.Entries) != len(known) {
		t.Fatalf("%d entries instead of %d: %s", len(c.Entries), len(known), shownCache(c))
	}
	fresh, count := map[pageAddr]impl.Response{}, 0
	for key, s := range known {
		if now <= s.until {
			fresh[key] = s.x
			count++
		}
	}
	for key := range known {
		checkFoundInMap(t, c, fresh, key.top, key.to, now)
		checkFoundInMap(t, c, fresh, "news", key.to, now)
	}
	checkFresh(t, c, now, count)
	checkValidCache(t, c, true)
}

// roomyCache returns a cache with spare capacity, and a function that shows all of its memory.
func roomyCache(c impl.Cache) (impl.Cache, func() string) {
	entries, memory := roomy(c.Entries, plainEntry("spare", "spare", "spare", 77))
	return impl.Cache{Entries: entries}, func() string { return fmt.Sprintf("%+v", memory) }
}

// cacheCalls has a call of each function that takes memory.
var cacheCalls = map[string]func(impl.Cache, string, impl.Addr) impl.Cache{
	"StoreEntry": func(c impl.Cache, top string, a impl.Addr) impl.Cache {
		return impl.StoreEntry(c, top, a, aged("new", 5), 10)
	},
	"StoreEntry refused": func(c impl.Cache, top string, a impl.Addr) impl.Cache {
		return impl.StoreEntry(c, top, a, impl.NotFound(), 10)
	},
	"StoreEntry without Age": func(c impl.Cache, top string, a impl.Addr) impl.Cache {
		return impl.StoreEntry(c, top, a, aged("new", 0), 10)
	},
	"StoreEntry too early": func(c impl.Cache, top string, a impl.Addr) impl.Cache {
		return impl.StoreEntry(c, top, a, aged("new", 5), -1)
	},
	"StoreEntry of a response with another status": func(c impl.Cache, top string, a impl.Addr) impl.Cache {
		return impl.StoreEntry(c, top, a, response(404, 1, "", 5, false, ""), 10)
	},
	"StoreEntry twice": func(c impl.Cache, top string, a impl.Addr) impl.Cache {
		return impl.StoreEntry(impl.StoreEntry(c, top, a, aged("new", 5), 10), top, addr("more", "more"), aged("more", 5), 10)
	},
	"StoreEntry into a part": func(c impl.Cache, top string, a impl.Addr) impl.Cache {
		return impl.StoreEntry(impl.Cache{Entries: c.Entries[:len(c.Entries)/2]}, top, a, aged("new", 5), 10)
	},
	"ForgetHost": func(c impl.Cache, top string, _ impl.Addr) impl.Cache { return impl.ForgetHost(c, top) },
	"ForgetHost from a part": func(c impl.Cache, top string, _ impl.Addr) impl.Cache {
		return impl.ForgetHost(impl.Cache{Entries: c.Entries[:len(c.Entries)/2]}, top)
	},
	"IsCache, LookUp, FreshEntries and EqualCaches": func(c impl.Cache, top string, a impl.Addr) impl.Cache {
		x, ok := impl.LookUp(c, top, a, 10)
		half := impl.Cache{Entries: c.Entries[:len(c.Entries)/2]}
		return cacheOf(cacheEntry(fmt.Sprint(impl.IsCache(c), ok, impl.EqualCaches(c, half)), "", "", x, impl.FreshEntries(c, 10)))
	},
}

func TestCachesLeaveArgumentsAlone(t *testing.T) {
	for name, call := range cacheCalls {
		for i, c := range allCaches() {
			if i > 60 {
				break // the others differ in their names and responses only
			}
			for _, top := range []string{"home", "news", "new", ""} {
				for _, a := range []impl.Addr{addr("cdn", "lib"), addr("cdn", "naa"), addr("new", "new"), {}} {
					checkCachesApart(t, name, c, top, a, call)
				}
			}
		}
	}
}

// checkCachesApart checks that call neither changes the memory of its argument nor returns a part of it.
func checkCachesApart(t *testing.T, what string, c impl.Cache, top string, a impl.Addr, call func(impl.Cache, string, impl.Addr) impl.Cache) {
	t.Helper()
	given, memory := roomyCache(c)
	before := memory()
	got := call(given, top, a)
	if after := memory(); after != before {
		t.Fatalf("%s changed the memory of its argument: %s, not %s", what, after, before)
	}
	want := cloneCache(got)
	overwrite(got.Entries, plainEntry("other", "other", "other", 88))
	if after := memory(); after != before {
		t.Fatalf("%s returned memory of its argument: %s, not %s", what, after, before)
	}
	got = call(given, top, a)
	overwrite(given.Entries, plainEntry("other", "other", "other", 88))
	checkCache(t, what+" after its argument has changed", got, want)
}

// Two results of one argument have their own memory too.
func TestCachesReturnNewMemory(t *testing.T) {
	for name, call := range cacheCalls {
		for _, c := range validCaches() {
			first, second := call(c, "home", addr("cdn", "lib")), call(c, "home", addr("cdn", "lib"))
			want := cloneCache(second)
			overwrite(first.Entries, plainEntry("other", "other", "other", 88))
			checkCache(t, name+" after the first result has changed", second, want)
		}
	}
}
