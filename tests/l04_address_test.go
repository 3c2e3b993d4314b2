package tests

import (
	"cmp"
	"math/rand/v2"
	"slices"
	"strings"
	"testing"

	"loop.example/g00586/impl"
)

// names has the shortest and the longest names, and some between them.
var names = []string{"a", "z", "m", "aa", "az", "za", "app", "cdn", "home", "script", "abcdefg", "aaaaaaaa", "zzzzzzzz", "abcdefgh", "stuvwxyz"}

// notNames has strings that are not names: of wrong lengths, with characters beside a to z, and with bytes that are no character.
var notNames = []string{"", "abcdefghi", "aaaaaaaaa", "zzzzzzzzzzzzzzzz", strings.Repeat("a", 1000),
	"A", "Z", "App", "aPp", "apP", "`", "{", "@", "[", "a`", "a{", "{a", "`z",
	" ", "a b", " a", "a ", "0", "9", "a1", "1a", "-", "a-b", "_", ".", "a.b", "..", "?", "%61", ":", "\x00", "a\x00", "\x00a", "\n", "a\n", "\ta", "\x7f",
	"é", "aé", "éa", "ß", "ａ", "а", "ſ", "K", "a\u0301", "\u200ba", "日本", "🙂",
	"\x80", "\xff", "a\xff", "\xffa", "\xe1", "a\xe1b", "\xc3", "\xc1\xa1", "\xe0\x81\xa1",
	"/", "a/", "/a", "//", "a/b", "a//b", "\\", "a\\b"}

func addr(host string, path string) impl.Addr {
	return impl.Addr{Host: host, Path: path}
}

// someAddrs has addresses in ascending order, valid and invalid ones; some have a Host that is a prefix of another's, some the same form but for the place of the slash.
var someAddrs = []impl.Addr{{}, addr("", "\x00"), addr("", "a"), addr("", "zzzzzzzz"), addr("", "\xff"), addr("\x00", ""), addr("/", ""), addr("A", "a"), addr("Z", ""),
	addr("a", ""), addr("a", "/b"), addr("a", "A"), addr("a", "a"), addr("a", "aa"), addr("a", "ab"), addr("a", "b"), addr("a", "b/c"), addr("a", "z"), addr("a", "zzzzzzzz"), addr("a", "é"),
	addr("a\x00", "a"), addr("a/b", "c"), addr("aa", ""), addr("aa", "a"), addr("ab", "a"), addr("ab", "zoo"), addr("b", "a"), addr("b", "ab"), addr("ba", "a"),
	addr("cdn", "app"), addr("cdn", "zoo"), addr("home", "app"), addr("home", "apps"), addr("home", "cdn"), addr("homes", "app"), addr("zzzzzzzz", "zzzzzzzz"), addr("zzzzzzzzz", "a"), addr("é", "a"), addr("\xff", "")}

func checkName(t *testing.T, s string, want bool) {
	t.Helper()
	if got := impl.IsName(s); got != want {
		t.Errorf("IsName(%q) is %t", s, got)
	}
}

func checkForm(t *testing.T, a impl.Addr, want string) {
	t.Helper()
	if got := impl.FormatAddr(a); got != want {
		t.Errorf("FormatAddr(%q) is %q, not %q", a, got, want)
	}
	if got := impl.IsAddr(a); got != (want != "") {
		t.Errorf("IsAddr(%q) is %t", a, got)
	}
}

func checkAddr(t *testing.T, s string, base string, want impl.Addr) {
	t.Helper()
	if a, ok := impl.ParseAddr(s, base); a != want || !ok {
		t.Errorf("ParseAddr(%q, %q) is %q, %t, not %q, true", s, base, a, ok, want)
	}
}

func checkNoAddr(t *testing.T, s string, base string) {
	t.Helper()
	if a, ok := impl.ParseAddr(s, base); a != (impl.Addr{}) || ok {
		t.Errorf("ParseAddr(%q, %q) is %q, %t", s, base, a, ok)
	}
}

func checkOrder(t *testing.T, a impl.Addr, b impl.Addr, want int) {
	t.Helper()
	if got := impl.CompareAddrs(a, b); got != want {
		t.Errorf("CompareAddrs(%q, %q) is %d, not %d", a, b, got, want)
	}
}

func checkSorted(t *testing.T, l []impl.Addr, want []impl.Addr) {
	t.Helper()
	if got := impl.SortAddrs(l); !slices.Equal(got, want) {
		t.Errorf("SortAddrs(%q) is %q, not %q", l, got, want)
	}
}

func TestLongestName(t *testing.T) {
	if impl.MaxName != 8 {
		t.Errorf("MaxName is %d", impl.MaxName)
	}
	for size := range 40 {
		checkName(t, strings.Repeat("a", size), size >= 1 && size <= 8)
		checkName(t, strings.Repeat("z", size), size >= 1 && size <= 8)
	}
	// The characters of these are too few or just enough, whatever their bytes are.
	checkName(t, strings.Repeat("é", 4), false)
	checkName(t, strings.Repeat("é", 8), false)
}

func TestIsName(t *testing.T) {
	for _, s := range names {
		checkName(t, s, true)
	}
	for _, s := range notNames {
		checkName(t, s, false)
	}
}

// Each byte is tried alone and at every place of a name of each length.
func TestIsNameOfEveryByte(t *testing.T) {
	for c := range 256 {
		want := c >= 97 && c <= 122
		for size := 1; size <= 8; size++ {
			for place := range size {
				b := []byte("mnopqrst")[:size]
				b[place] = byte(c)
				checkName(t, string(b), want)
			}
		}
	}
}

func TestFormatAddr(t *testing.T) {
	checkForm(t, addr("home", "app"), "home/app")
	checkForm(t, addr("app", "home"), "app/home")
	checkForm(t, addr("cdn", "lib"), "cdn/lib")
	checkForm(t, addr("a", "b"), "a/b")
	checkForm(t, addr("a", "a"), "a/a")
	checkForm(t, addr("abcdefgh", "stuvwxyz"), "abcdefgh/stuvwxyz")
	for _, host := range names {
		for _, path := range names {
			checkForm(t, addr(host, path), host+"/"+path)
		}
	}
}

func TestFormatInvalidAddr(t *testing.T) {
	checkForm(t, impl.Addr{}, "")
	for _, bad := range notNames {
		for _, name := range names {
			checkForm(t, addr(bad, name), "")
			checkForm(t, addr(name, bad), "")
		}
		for _, other := range notNames {
			checkForm(t, addr(bad, other), "")
		}
	}
}

func TestParseAddr(t *testing.T) {
	checkAddr(t, "cdn/lib", "home", addr("cdn", "lib"))
	checkAddr(t, "lib/cdn", "home", addr("lib", "cdn"))
	checkAddr(t, "app", "home", addr("home", "app"))
	checkAddr(t, "a", "b", addr("b", "a"))
	checkAddr(t, "home", "home", addr("home", "home"))
	checkAddr(t, "home/app", "home", addr("home", "app"))
	checkAddr(t, "home/home", "home", addr("home", "home"))
	checkAddr(t, "abcdefgh", "stuvwxyz", addr("stuvwxyz", "abcdefgh"))
	checkAddr(t, "abcdefgh/stuvwxyz", "ijklmnop", addr("abcdefgh", "stuvwxyz"))
}

func TestParseAddrInvertsFormatAddr(t *testing.T) {
	bases := slices.Concat(names, notNames)
	for _, host := range names {
		for _, path := range names {
			want := addr(host, path)
			for _, base := range bases { // a form is an address whatever the base is
				checkAddr(t, impl.FormatAddr(want), base, want)
			}
			checkAddr(t, host+"/"+path, host, want)
			checkAddr(t, path, host, want)
		}
	}
}

func TestParseNameWithInvalidBase(t *testing.T) {
	for _, s := range names {
		for _, base := range notNames {
			checkNoAddr(t, s, base)
		}
	}
}

func TestParseWhatIsNoAddr(t *testing.T) {
	for _, base := range []string{"home", "a", "abcdefgh", "", "A", "/", "home/app", "home/"} {
		for _, s := range []string{"", "/", "//", "///", "a/", "/b", "a//", "//b", "/a/", "a//b", "a/b/c", "a/b/", "/a/b", "a/b/c/d", "home//app", "home/app/", "/home/app",
			"A", "A/b", "a/B", "a /b", "a/ b", " a/b", "a/b ", "a\\b", "a/b\n", "a:b", "a/b?c", "é/b", "a/é", "a/\xff", "\xff/b", "a\xffb", "a\u2215b", "\x00", "a\x00/b",
			"abcdefghi", "abcdefghi/a", "a/abcdefghi", "abcdefghi/abcdefghi", strings.Repeat("a", 1000), strings.Repeat("/", 1000), strings.Repeat("a/", 1000)} {
			checkNoAddr(t, s, base)
		}
	}
	for _, bad := range notNames {
		if bad != "a/b" {
			checkNoAddr(t, bad, "home")
		}
		for _, name := range names {
			checkNoAddr(t, bad+"/"+name, "home")
			checkNoAddr(t, name+"/"+bad, "home")
		}
	}
}

// allStrings returns all strings of at most size of these characters.
func allStrings(characters string, size int) []string {
	all := []string{""}
	for first := 0; first < len(all); first++ {
		if len(all[first]) == size {
			break
		}
		for i := range len(characters) {
			all = append(all, all[first]+characters[i:i+1])
		}
	}
	return all
}

// Every short string of a few characters is parsed; it is an address if it is the form of one, or a name.
func TestParseShortStrings(t *testing.T) {
	want := map[string]impl.Addr{}
	short := allStrings("ab", 6)[1:]
	for _, host := range short {
		want[host] = addr("ab", host)
		for _, path := range short {
			want[host+"/"+path] = addr(host, path)
		}
	}
	for _, s := range allStrings("ab/A", 6) {
		if a, ok := want[s]; ok {
			checkAddr(t, s, "ab", a)
		} else {
			checkNoAddr(t, s, "ab")
		}
	}
}

func TestCompareAddrs(t *testing.T) {
	for i, a := range someAddrs {
		for j, b := range someAddrs {
			checkOrder(t, a, b, cmp.Compare(i, j))
		}
	}
	checkOrder(t, addr("cdn", "zoo"), addr("home", "app"), -1)
	checkOrder(t, addr("home", "app"), addr("cdn", "zoo"), 1)
	checkOrder(t, addr("home", "app"), addr("home", "zoo"), -1)
	checkOrder(t, addr("home", "zoo"), addr("home", "app"), 1)
	checkOrder(t, addr("home", "app"), addr("home", "app"), 0)
	// The Host is what counts first, although the Paths together are longer.
	checkOrder(t, addr("a", "zzzzzzzz"), addr("aa", "a"), -1)
	checkOrder(t, addr("aa", "a"), addr("a", "zzzzzzzz"), 1)
	checkOrder(t, addr("a", "bc"), addr("ab", "c"), -1)
}

func TestSortAddrs(t *testing.T) {
	home, zoo := addr("home", "app"), addr("cdn", "zoo")
	lib := addr("cdn", "lib")
	checkSorted(t, nil, nil)
	checkSorted(t, []impl.Addr{}, nil)
	checkSorted(t, []impl.Addr{home}, []impl.Addr{home})
	checkSorted(t, []impl.Addr{home, home}, []impl.Addr{home})
	checkSorted(t, []impl.Addr{home, home, home, home}, []impl.Addr{home})
	checkSorted(t, []impl.Addr{home, zoo}, []impl.Addr{zoo, home})
	checkSorted(t, []impl.Addr{zoo, home}, []impl.Addr{zoo, home})
	checkSorted(t, []impl.Addr{home, zoo, home}, []impl.Addr{zoo, home})
	checkSorted(t, []impl.Addr{zoo, home, zoo, home}, []impl.Addr{zoo, home})
	checkSorted(t, []impl.Addr{zoo, lib}, []impl.Addr{lib, zoo})
	checkSorted(t, []impl.Addr{home, zoo, lib, home, lib, zoo}, []impl.Addr{lib, zoo, home})
	// Invalid addresses are elements like others, and the zero address is one of them.
	checkSorted(t, []impl.Addr{{}}, []impl.Addr{{}})
	checkSorted(t, []impl.Addr{{}, {}}, []impl.Addr{{}})
	checkSorted(t, []impl.Addr{home, {}, addr("home", ""), addr("", "app"), {}, addr("A", "b"), addr("", "app")},
		[]impl.Addr{{}, addr("", "app"), addr("A", "b"), addr("home", ""), home})
}

// The order and the number of the elements make no difference.
func TestSortAddrsInAnyOrder(t *testing.T) {
	random := rand.New(rand.NewPCG(4, 4))
	for range 300 {
		chosen := random.Perm(len(someAddrs))[:random.IntN(len(someAddrs)+1)]
		var l []impl.Addr
		for _, i := range chosen {
			for range 1 + random.IntN(4) {
				l = append(l, someAddrs[i])
			}
		}
		random.Shuffle(len(l), func(i int, j int) { l[i], l[j] = l[j], l[i] })
		slices.Sort(chosen)
		var want []impl.Addr
		for _, i := range chosen {
			want = append(want, someAddrs[i])
		}
		checkSorted(t, l, want)
	}
	ascending := slices.Repeat(someAddrs, 30)
	checkSorted(t, ascending, someAddrs)
	slices.Reverse(ascending)
	checkSorted(t, ascending, someAddrs)
}

func TestHasAddr(t *testing.T) {
	for i, a := range someAddrs {
		without := slices.Concat(someAddrs[:i], someAddrs[i+1:])
		for name, c := range map[string]struct {
			list []impl.Addr
			want bool
		}{
			"all": {someAddrs, true}, "it alone": {[]impl.Addr{a}, true}, "it twice": {[]impl.Addr{a, a}, true}, "it and those before": {someAddrs[:i+1], true}, "it and those after": {someAddrs[i:], true},
			"all others": {without, false}, "those before": {someAddrs[:i], false}, "those after": {someAddrs[i+1:], false}, "an empty list": {[]impl.Addr{}, false}, "nil": {nil, false},
			"the same host": {[]impl.Addr{addr(a.Host, a.Path+"x")}, false}, "the same path": {[]impl.Addr{addr(a.Host+"x", a.Path)}, false},
			"it from the end": {slices.Concat(without, []impl.Addr{a}), true},
		} {
			if got := impl.HasAddr(c.list, a); got != c.want {
				t.Errorf("HasAddr(%s, %q) is %t", name, a, got)
			}
		}
	}
	// A list may have any order, and the Host is no Path.
	l := []impl.Addr{addr("home", "app"), addr("cdn", "zoo"), addr("home", "app"), addr("cdn", "lib")}
	if !impl.HasAddr(l, addr("cdn", "lib")) || !impl.HasAddr(l, addr("home", "app")) || impl.HasAddr(l, addr("app", "home")) || impl.HasAddr(l, addr("home", "lib")) || impl.HasAddr(l, impl.Addr{}) {
		t.Error("HasAddr of a list that is not sorted")
	}
	// What follows a slice in its memory is no element of it.
	if impl.HasAddr(l[:1], addr("cdn", "zoo")) {
		t.Error("HasAddr saw the spare capacity")
	}
}

func TestAddressesLeaveArgumentsAlone(t *testing.T) {
	home, zoo, other := addr("home", "app"), addr("cdn", "zoo"), addr("other", "other")
	calls := map[string]func([]impl.Addr) []impl.Addr{
		"SortAddrs":         impl.SortAddrs,
		"SortAddrs of part": func(l []impl.Addr) []impl.Addr { return impl.SortAddrs(l[:len(l)/2]) },
		"HasAddr":           func(l []impl.Addr) []impl.Addr { impl.HasAddr(l, zoo); return nil },
		"HasAddr of none":   func(l []impl.Addr) []impl.Addr { impl.HasAddr(l, other); return nil },
	}
	for name, call := range calls {
		for _, l := range [][]impl.Addr{{}, {home}, {home, home}, {zoo, home}, {home, zoo}, {home, zoo, home}, {{}, home, {}}, someAddrs} {
			checkApart(t, name, l, addr("spare", "spare"), other, call, addr("new", "new"))
		}
	}
}

// Two results of the same argument are apart from one another, too: neither a change nor an append to one is seen in the other.
func TestSortAddrsReturnsNewMemory(t *testing.T) {
	home, zoo, other := addr("home", "app"), addr("cdn", "zoo"), addr("other", "other")
	l := []impl.Addr{home, zoo, home}
	first, second := impl.SortAddrs(l), impl.SortAddrs(l)
	third := append(second, other)
	overwrite(first, other)
	first = append(first, home)
	if !slices.Equal(second, []impl.Addr{zoo, home}) || !slices.Equal(third, []impl.Addr{zoo, home, other}) {
		t.Errorf("the other results became %q and %q", second, third)
	}
	if !slices.Equal(l, []impl.Addr{home, zoo, home}) || !slices.Equal(first, []impl.Addr{other, other, home}) {
		t.Errorf("the argument is %q, the first result %q", l, first)
	}
}
