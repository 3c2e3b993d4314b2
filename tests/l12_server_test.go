package tests

import (
	"fmt"
	"math/rand/v2"
	"slices"
	"strings"
	"testing"

	"loop.example/g00586/impl"
)

func file(path string, x impl.Response) impl.File {
	return impl.File{Path: path, Response: x}
}

func server(host string, files ...impl.File) impl.Server {
	return impl.Server{Host: host, Files: files}
}

// saying returns a valid response that differs from those with other words.
func saying(word string) impl.Response {
	return response(200, 2, "say "+word, 5, false, "")
}

// serverOf returns a server whose responses say what they are.
func serverOf(host string, paths ...string) impl.Server {
	s := server(host)
	for _, path := range paths {
		s.Files = append(s.Files, file(path, saying(host+"/"+path)))
	}
	return s
}

func numberedNames(count int) []string {
	l := []string{}
	for i := range count {
		l = append(l, numberedName(i))
	}
	return l
}

// validServers has lists that are valid, all of them different.
func validServers() [][]impl.Server {
	largest := response(599, 5, longestBody, 1000, true, "script a b c d;style e f g h;img i j k l;nonce abcdefghij/123456789")
	return [][]impl.Server{
		{},
		{server("home")},
		{server("cdn")},
		{server("home"), server("cdn")},
		{server("cdn"), server("home")},
		{serverOf("home", "app")},
		{serverOf("cdn", "app")},
		{serverOf("home", "app", "logo")},
		{serverOf("home", "logo", "app")},
		{server("home", file("app", saying("a")))},
		{server("home", file("app", saying("a")), file("logo", saying("a")))},
		{server("home", file("app", impl.NotFound()))},
		{server("home", file("app", largest), file("lib", impl.NotFound()))},
		{serverOf("home", "app"), server("cdn")},
		{server("cdn"), serverOf("home", "app")},
		{serverOf("home", "app", "logo"), serverOf("cdn", "lib", "app")},
		{serverOf("cdn", "lib", "app"), serverOf("home", "app", "logo")},
		{serverOf("home", "home", "cdn"), serverOf("cdn", "home", "cdn")},
		{serverOf("home", numberedNames(9)...)},
		{serverOf("home", numberedNames(10)...)},
		{serverOf("home", append(numberedNames(9), "app")...), serverOf("cdn", "app")},
		{serverOf("a", "a"), serverOf("aa", "a"), serverOf("zzzzzzzz", "aa", "zzzzzzzz", "a")},
		{server("a"), server("b"), server("cdn"), server("home")},
		{serverOf("a", "app"), serverOf("b", "app"), serverOf("cdn", "app"), serverOf("home", "app")},
		{serverOf("home", names[:10]...), serverOf("cdn", numberedNames(10)...), serverOf("evil", names[5:]...), serverOf("a", numberedNames(10)...)},
	}
}

// oddServers has single servers that are not valid, all of them different.
func oddServers() []impl.Server {
	l := []impl.Server{{}, server("", file("", impl.Response{})), serverOf("home", numberedNames(11)...), serverOf("home", numberedNames(40)...), serverOf("Home", numberedNames(11)...),
		serverOf("home", "app", "app"), serverOf("home", "app", "logo", "app"), serverOf("home", "logo", "app", "app"), serverOf("home", append(numberedNames(9), numberedName(0))...), serverOf("home", append(numberedNames(10), numberedName(9))...),
		server("home", file("app", saying("a")), file("app", saying("b"))), server("home", file("app", saying("b")), file("app", saying("a"))), server("home", file("logo", saying("a")), file("app", saying("a")), file("logo", saying("a")))}
	for _, name := range notNames {
		l = append(l, server(name), serverOf(name, "app"), serverOf("home", name), serverOf("home", "logo", name, "app"), serverOf(name, name, name))
	}
	for _, x := range oddResponses() {
		l = append(l, server("home", file("app", x)), server("cdn", file("app", saying("a")), file("lib", x)), server("cdn", file("app", x), file("lib", saying("a"))))
	}
	return l
}

// oddLists has lists that are not valid: as a whole, or in one of their servers.
func oddLists() [][]impl.Server {
	l := [][]impl.Server{
		{serverOf("home", "app"), serverOf("home", "logo")},
		{serverOf("home", "logo"), serverOf("home", "app")},
		{serverOf("home", "app"), server("home")},
		{server("home"), serverOf("home", "app")},
		{serverOf("home", "app"), serverOf("home", "app")},
		{server("home", file("app", saying("a"))), server("home", file("app", saying("b")))},
		{server("home", file("app", saying("b"))), server("home", file("app", saying("a")))},
		{serverOf("home", "app"), serverOf("cdn", "lib"), serverOf("home", "logo")},
		{serverOf("home", "app"), serverOf("cdn", "lib"), serverOf("evil", "app"), serverOf("home", "logo", "app")},
		{serverOf("cdn", "app"), serverOf("home", "app"), serverOf("home", "logo"), serverOf("home", "lib")},
		{server("a"), server("b"), server("c"), server("d"), server("home")},
		{server("home"), server("b"), server("c"), server("d"), server("e")},
		{serverOf("home", "app"), serverOf("cdn", "app"), serverOf("evil", "app"), serverOf("a", "app"), serverOf("b", "app")},
		{server("home"), server("home"), server("home"), server("home"), server("home"), server("home")},
		{serverOf("home", numberedNames(11)...), serverOf("cdn", numberedNames(11)...), serverOf("home", "app")},
		{{}, {}},
	}
	many := []impl.Server{}
	for _, name := range numberedNames(40) {
		many = append(many, serverOf(name, "app", "lib"))
	}
	l = append(l, many)
	for _, s := range oddServers() {
		l = append(l, []impl.Server{s}, []impl.Server{serverOf("evil", "app"), s}, []impl.Server{s, serverOf("evil", "app")}, []impl.Server{s, s})
	}
	return l
}

func allServers() [][]impl.Server {
	return slices.Concat(validServers(), oddLists())
}

// askedServers has addresses to ask for and to put files under, valid and not; the lists have some of them.
func askedServers() []impl.Addr {
	l := []impl.Addr{}
	for _, host := range []string{"home", "cdn", "evil", "a", "new", "", "Home", "home ", "abcdefghi"} {
		for _, path := range []string{"app", "logo", "lib", "a", "naa", "naj", "new", "", "App", "app ", "abcdefghi"} {
			l = append(l, addr(host, path))
		}
	}
	return append(l, addr("app", "home"), addr("nab", "app"), addr("zzzzzzzz", "zzzzzzzz"), addr("hom", "eapp"), addr("homea", "pp"), addr("", "home/app"), addr("home/app", ""))
}

func cloneServers(l []impl.Server) []impl.Server {
	c := slices.Clone(l)
	for i := range c {
		c[i].Files = slices.Clone(c[i].Files)
	}
	return c
}

// sameServers does not use what it checks; nil and empty lists are the same.
func sameServers(a []impl.Server, b []impl.Server) bool {
	if len(a) != len(b) {
		return false
	}
	for i := range a {
		if a[i].Host != b[i].Host || len(a[i].Files) != len(b[i].Files) {
			return false
		}
		for j, f := range a[i].Files {
			if f.Path != b[i].Files[j].Path || !sameResponse(f.Response, b[i].Files[j].Response) {
				return false
			}
		}
	}
	return true
}

// shownServers shows at most four servers and twelve files of each, and cuts long bodies.
func shownServers(l []impl.Server) string {
	text := fmt.Sprintf("%d servers", len(l))
	for _, s := range l[:min(len(l), 6)] {
		text += fmt.Sprintf(" [%q, %d files:", s.Host, len(s.Files))
		for _, f := range s.Files[:min(len(s.Files), 12)] {
			text += fmt.Sprintf(" %q %s", f.Path, shown(f.Response))
		}
		text += "]"
	}
	return text
}

// answersByMap goes backwards, so that the first server of a host and the first file of a path remain.
func answersByMap(l []impl.Server) map[impl.Addr]impl.Response {
	hosts := map[string]map[string]impl.Response{}
	for _, s := range slices.Backward(l) {
		files := map[string]impl.Response{}
		for _, f := range slices.Backward(s.Files) {
			files[f.Path] = f.Response
		}
		hosts[s.Host] = files
	}
	answers := map[impl.Addr]impl.Response{}
	for host, files := range hosts {
		for path, x := range files {
			answers[addr(host, path)] = x
		}
	}
	return answers
}

func answerByMap(l []impl.Server, a impl.Addr) impl.Response {
	if x, found := answersByMap(l)[a]; found {
		return x
	}
	return response(404, 1, "", 0, false, "")
}

func validServerByForms(s impl.Server) bool {
	paths := map[string]bool{}
	for _, f := range s.Files {
		if !nameForm.MatchString(f.Path) || !validByLimits(f.Response) {
			return false
		}
		paths[f.Path] = true
	}
	return nameForm.MatchString(s.Host) && len(s.Files) < 11 && len(paths) == len(s.Files)
}

func validServersByForms(l []impl.Server) bool {
	hosts := map[string]bool{}
	for _, s := range l {
		if !validServerByForms(s) {
			return false
		}
		hosts[s.Host] = true
	}
	return len(l) < 5 && len(hosts) == len(l)
}

// putByParts builds the new list from what is before the file, the file, and what is behind it.
func putByParts(l []impl.Server, a impl.Addr, x impl.Response) ([]impl.Server, bool) {
	at := slices.IndexFunc(l, func(s impl.Server) bool { return s.Host == a.Host })
	before, behind, s := l, []impl.Server{}, server(a.Host)
	if at >= 0 {
		before, behind, s = l[:at], l[at+1:], l[at]
	}
	first, rest := s.Files, []impl.File{}
	if at := slices.IndexFunc(s.Files, func(f impl.File) bool { return f.Path == a.Path }); at >= 0 {
		first, rest = s.Files[:at], s.Files[at+1:]
	}
	s.Files = slices.Concat(first, []impl.File{file(a.Path, x)}, rest)
	next := slices.Concat(before, []impl.Server{s}, behind)
	if len(next) > 4 || !validServerByForms(s) {
		return cloneServers(l), false
	}
	return cloneServers(next), true
}

// The checks of servers end a test at the first failure: what they print may be long, and they are called very often.

func checkValidServer(t *testing.T, s impl.Server, want bool) {
	t.Helper()
	if got := impl.IsServer(s); got != want {
		t.Fatalf("IsServer is %t for %s", got, shownServers([]impl.Server{s}))
	}
}

func checkValidServers(t *testing.T, l []impl.Server, want bool) {
	t.Helper()
	if got := impl.AreServers(l); got != want {
		t.Fatalf("AreServers is %t for %s", got, shownServers(l))
	}
}

func checkAnswer(t *testing.T, l []impl.Server, a impl.Addr, want impl.Response) {
	t.Helper()
	if got := impl.AnswerTo(l, a); !sameResponse(got, want) {
		t.Fatalf("AnswerTo %q is %s, not %s, from %s", a, shown(got), shown(want), shownServers(l))
	}
}

func checkServers(t *testing.T, what string, got []impl.Server, want []impl.Server) {
	t.Helper()
	if !sameServers(got, want) {
		t.Fatalf("%s: %s, not %s", what, shownServers(got), shownServers(want))
	}
}

func checkEqualServers(t *testing.T, what string, a []impl.Server, b []impl.Server, want bool) {
	t.Helper()
	if impl.EqualServers(a, b) != want || impl.EqualServers(b, a) != want {
		t.Fatalf("%s: EqualServers is %t, the other way round %t, for %s and %s", what, impl.EqualServers(a, b), impl.EqualServers(b, a), shownServers(a), shownServers(b))
	}
}

func checkPut(t *testing.T, l []impl.Server, a impl.Addr, x impl.Response, want []impl.Server) []impl.Server {
	t.Helper()
	got, ok := impl.PutFile(l, a, x)
	checkServers(t, fmt.Sprintf("PutFile of %q into %s", a, shownServers(l)), got, want)
	if !ok {
		t.Fatalf("PutFile of %q (%s) into %s is false", a, shown(x), shownServers(l))
	}
	return got
}

// checkNotPut expects a copy of l.
func checkNotPut(t *testing.T, l []impl.Server, a impl.Addr, x impl.Response) {
	t.Helper()
	got, ok := impl.PutFile(l, a, x)
	checkServers(t, fmt.Sprintf("PutFile of %q into %s", a, shownServers(l)), got, l)
	if ok {
		t.Fatalf("PutFile of %q (%s) into %s is true", a, shown(x), shownServers(l))
	}
}

func TestServerConstants(t *testing.T) {
	if impl.MaxFiles != 10 || impl.MaxServers != 4 {
		t.Error(impl.MaxFiles, impl.MaxServers)
	}
}

func TestIsServer(t *testing.T) {
	checkValidServer(t, server("home"), true)
	checkValidServer(t, server("home", []impl.File{}...), true)
	checkValidServer(t, impl.Server{Host: "home", Files: []impl.File{}}, true)
	checkValidServer(t, impl.Server{}, false)
	checkValidServer(t, impl.Server{Files: serverOf("home", "app").Files}, false)
	checkValidServer(t, serverOf("home", "app", "logo"), true)
	checkValidServer(t, serverOf("home", "home"), true)
	checkValidServer(t, server("home", file("app", saying("a")), file("logo", saying("a"))), true) // only the paths have to differ
	checkValidServer(t, server("home", file("app", impl.NotFound())), true)
	checkValidServer(t, server("home", impl.File{}), false)
	checkValidServer(t, server("home", file("app", impl.Response{})), false)
	checkValidServer(t, server("home", file("", saying("a"))), false)
	for _, l := range validServers() {
		for _, s := range l {
			checkValidServer(t, s, true)
		}
	}
	for _, s := range oddServers() {
		checkValidServer(t, s, false)
	}
}

func TestIsServerOfNames(t *testing.T) {
	for _, name := range slices.Concat(names, notNames) {
		is := slices.Contains(names, name)
		checkValidServer(t, server(name), is)
		checkValidServer(t, serverOf(name, "logo"), is)
		for _, others := range [][]string{{}, {"b"}, {"logo", "b"}, numberedNames(9)} {
			for at := range len(others) + 1 {
				checkValidServer(t, serverOf("home", slices.Insert(slices.Clone(others), at, name)...), is)
			}
		}
	}
}

func TestIsServerOfManyFiles(t *testing.T) {
	for count := range 40 {
		checkValidServer(t, serverOf("home", numberedNames(count)...), count <= 10)
		checkValidServer(t, server("home", slices.Repeat([]impl.File{file("app", saying("a"))}, count)...), count <= 1)
	}
	checkValidServer(t, serverOf("home", numberedNames(600)...), false)
	checkValidServer(t, server("home", slices.Repeat([]impl.File{file("app", saying("a"))}, 100000)...), false)
}

// Two files with one path are found wherever they are, and whether their responses are alike or not.
func TestIsServerOfEqualPaths(t *testing.T) {
	for count := 2; count <= 10; count++ {
		for i := range count {
			for j := range count {
				s := serverOf("home", numberedNames(count)...)
				s.Files[j].Path = s.Files[i].Path
				checkValidServer(t, s, i == j)
				s.Files[j].Response = s.Files[i].Response
				checkValidServer(t, s, i == j)
			}
		}
	}
	// Paths that begin alike are different ones.
	checkValidServer(t, serverOf("home", "a", "aa", "aaa", "aaaaaaa", "aaaaaaaa"), true)
}

func TestIsServerOfResponses(t *testing.T) {
	for _, x := range allResponses() {
		is := validByLimits(x)
		checkValidServer(t, server("home", file("app", x)), is)
		for _, count := range []int{2, 10} {
			for _, at := range []int{0, count / 2, count - 1} {
				s := serverOf("home", numberedNames(count)...)
				s.Files[at].Response = x
				checkValidServer(t, s, is)
			}
		}
	}
}

func TestAreServers(t *testing.T) {
	checkValidServers(t, nil, true)
	checkValidServers(t, []impl.Server{}, true)
	checkValidServers(t, []impl.Server{{}}, false)
	for _, l := range validServers() {
		checkValidServers(t, l, true)
	}
	for _, l := range oddLists() {
		checkValidServers(t, l, false)
	}
	// Different hosts may have files with the same paths and responses.
	checkValidServers(t, []impl.Server{server("home", file("app", saying("a"))), server("cdn", file("app", saying("a")))}, true)
}

func TestAreServersOfManyServers(t *testing.T) {
	for count := range 20 {
		l := []impl.Server{}
		for _, name := range numberedNames(count) {
			l = append(l, serverOf(name, "app"))
		}
		checkValidServers(t, l, count <= 4)
		checkValidServers(t, slices.Repeat([]impl.Server{serverOf("home", "app")}, count), count <= 1)
	}
	checkValidServers(t, slices.Repeat([]impl.Server{serverOf("home", "app")}, 100000), false)
}

// Two servers with one host are found wherever they are, and whether their files are alike or not.
func TestAreServersOfEqualHosts(t *testing.T) {
	for count := 2; count <= 4; count++ {
		for i := range count {
			for j := range count {
				l := []impl.Server{}
				for _, name := range numberedNames(count) {
					l = append(l, serverOf(name, name))
				}
				l[j].Host = l[i].Host
				checkValidServers(t, l, i == j)
				l[j].Files = l[i].Files
				checkValidServers(t, l, i == j)
			}
		}
	}
	checkValidServers(t, []impl.Server{server("a"), server("aa"), server("aaaaaaa"), server("aaaaaaaa")}, true)
}

func TestAreServersOfOddServers(t *testing.T) {
	for _, s := range oddServers() {
		for count := 1; count <= 4; count++ {
			for at := range count {
				l := []impl.Server{}
				for _, name := range numberedNames(count) {
					l = append(l, serverOf(name, name))
				}
				checkValidServers(t, l, true)
				l[at] = s
				checkValidServers(t, l, false)
			}
		}
	}
}

func TestAnswerTo(t *testing.T) {
	l := []impl.Server{serverOf("home", "app", "logo"), serverOf("cdn", "lib", "app")}
	checkAnswer(t, l, addr("home", "app"), saying("home/app"))
	checkAnswer(t, l, addr("home", "logo"), saying("home/logo"))
	checkAnswer(t, l, addr("cdn", "app"), saying("cdn/app"))
	checkAnswer(t, l, addr("cdn", "lib"), saying("cdn/lib"))
	for _, a := range []impl.Addr{addr("home", "lib"), addr("cdn", "logo"), addr("evil", "app"), addr("app", "home"), addr("home", ""), addr("", "app"), {}, addr("Home", "app"), addr("home", "App"), addr("home", "ap"), addr("home", "apps"), addr("hom", "app"), addr("homes", "app"), addr("home ", "app"), addr("home", "app "), addr("home/", "app"), addr("home", "/app"), addr("home\x00", "app")} {
		checkAnswer(t, l, a, impl.NotFound())
	}
}

func TestAnswerToOfNothing(t *testing.T) {
	for _, a := range slices.Concat(askedServers(), someAddrs) {
		checkAnswer(t, nil, a, impl.NotFound())
		checkAnswer(t, []impl.Server{}, a, impl.NotFound())
		checkAnswer(t, []impl.Server{server(a.Host)}, a, impl.NotFound())
		checkAnswer(t, []impl.Server{server("home"), server("cdn")}, a, impl.NotFound())
	}
}

// A host that comes a second time is not asked, even if the first server has no such file.
func TestAnswerToOfEqualHosts(t *testing.T) {
	first, second := server("home", file("app", saying("first")), file("logo", saying("logo"))), server("home", file("app", saying("second")), file("lib", saying("lib")))
	l := []impl.Server{serverOf("cdn", "app"), first, second}
	checkAnswer(t, l, addr("home", "app"), saying("first"))
	checkAnswer(t, l, addr("home", "logo"), saying("logo"))
	checkAnswer(t, l, addr("home", "lib"), impl.NotFound())
	l = []impl.Server{second, first, serverOf("home", "new")}
	checkAnswer(t, l, addr("home", "app"), saying("second"))
	checkAnswer(t, l, addr("home", "lib"), saying("lib"))
	checkAnswer(t, l, addr("home", "logo"), impl.NotFound())
	checkAnswer(t, l, addr("home", "new"), impl.NotFound())
	checkAnswer(t, []impl.Server{server("home"), first, second}, addr("home", "app"), impl.NotFound())
	checkAnswer(t, []impl.Server{server("home"), server("cdn"), first}, addr("home", "logo"), impl.NotFound())
}

func TestAnswerToOfEqualPaths(t *testing.T) {
	l := []impl.Server{server("home", file("logo", saying("logo")), file("app", saying("first")), file("app", saying("second")), file("app", saying("third")))}
	checkAnswer(t, l, addr("home", "app"), saying("first"))
	checkAnswer(t, l, addr("home", "logo"), saying("logo"))
	slices.Reverse(l[0].Files)
	checkAnswer(t, l, addr("home", "app"), saying("third"))
	// The first file counts even if its response is no answer.
	checkAnswer(t, []impl.Server{server("home", file("app", impl.NotFound()), file("app", saying("a")))}, addr("home", "app"), impl.NotFound())
	checkAnswer(t, []impl.Server{server("home", file("app", impl.Response{}), file("app", saying("a")))}, addr("home", "app"), impl.Response{})
}

// Servers, addresses and responses that are not valid are taken like others.
func TestAnswerToOfOddServers(t *testing.T) {
	checkAnswer(t, []impl.Server{{Files: []impl.File{{}}}}, impl.Addr{}, impl.Response{})
	checkAnswer(t, []impl.Server{{}}, impl.Addr{}, impl.NotFound())
	checkAnswer(t, []impl.Server{server("Home", file("App 1", saying("a")))}, addr("Home", "App 1"), saying("a"))
	for _, name := range notNames {
		l := []impl.Server{serverOf("home", "app", name), serverOf(name, "app", name)}
		for _, a := range []impl.Addr{addr("home", "app"), addr("home", name), addr(name, "app"), addr(name, name)} {
			checkAnswer(t, l, a, saying(a.Host+"/"+a.Path))
		}
		checkAnswer(t, l, addr("cdn", name), impl.NotFound())
		checkAnswer(t, l, addr(name, "logo"), impl.NotFound())
	}
	for _, x := range allResponses() {
		l := []impl.Server{server("cdn", file("lib", saying("a"))), server("home", file("logo", saying("a")), file("app", x))}
		checkAnswer(t, l, addr("home", "app"), x)
		checkAnswer(t, l, addr("home", "logo"), saying("a"))
	}
	large := []impl.Server{}
	for _, name := range numberedNames(500) {
		large = append(large, serverOf(name, numberedNames(30)...))
	}
	checkAnswer(t, large, addr(numberedName(499), numberedName(29)), saying(numberedName(499)+"/"+numberedName(29)))
	checkAnswer(t, large, addr(numberedName(250), numberedName(11)), saying(numberedName(250)+"/"+numberedName(11)))
	checkAnswer(t, large, addr(numberedName(500), numberedName(0)), impl.NotFound())
}

func TestAnswerToOfAllServers(t *testing.T) {
	for _, l := range allServers() {
		answers := answersByMap(l)
		for a, x := range answers {
			checkAnswer(t, l, a, x)
		}
		for _, a := range askedServers() {
			x, found := answers[a]
			if !found {
				x = response(404, 1, "", 0, false, "")
			}
			checkAnswer(t, l, a, x)
			checkAnswer(t, cloneServers(l), addr(strings.Clone(a.Host), strings.Clone(a.Path)), x)
		}
	}
}

// Names that are longer or shorter than those of a file are other names.
func TestAnswerToOfSimilarNames(t *testing.T) {
	for _, l := range validServers() {
		answers := answersByMap(l)
		for known := range answers {
			for _, more := range []string{"a", "x", "s", " ", "/", "\x00"} {
				for _, a := range []impl.Addr{addr(known.Host+more, known.Path), addr(more+known.Host, known.Path), addr(known.Host, known.Path+more), addr(known.Host, more+known.Path), addr(known.Host[1:], known.Path), addr(known.Host, known.Path[1:]), addr(known.Host[:len(known.Host)-1], known.Path), addr(known.Host, known.Path[:len(known.Path)-1]), addr(known.Path, known.Host)} {
					if _, found := answers[a]; !found {
						checkAnswer(t, l, a, impl.NotFound())
					}
				}
			}
		}
	}
}

// P12: ordinary puts, with their results written out.
func TestPutFile(t *testing.T) {
	l := checkPut(t, nil, addr("home", "app"), saying("a"), []impl.Server{server("home", file("app", saying("a")))})
	checkAnswer(t, l, addr("home", "app"), saying("a"))
	l = checkPut(t, l, addr("home", "logo"), saying("b"), []impl.Server{server("home", file("app", saying("a")), file("logo", saying("b")))})
	checkAnswer(t, l, addr("home", "app"), saying("a"))
	checkAnswer(t, l, addr("home", "logo"), saying("b"))
	l = checkPut(t, l, addr("cdn", "app"), saying("c"), []impl.Server{server("home", file("app", saying("a")), file("logo", saying("b"))), server("cdn", file("app", saying("c")))})
	l = checkPut(t, l, addr("home", "app"), saying("d"), []impl.Server{server("home", file("app", saying("d")), file("logo", saying("b"))), server("cdn", file("app", saying("c")))})
	checkAnswer(t, l, addr("home", "app"), saying("d"))
	checkAnswer(t, l, addr("cdn", "app"), saying("c"))
	l = checkPut(t, l, addr("a", "app"), impl.NotFound(), []impl.Server{server("home", file("app", saying("d")), file("logo", saying("b"))), server("cdn", file("app", saying("c"))), server("a", file("app", impl.NotFound()))}) // in the order of the puts
	checkValidServers(t, l, true)
	checkAnswer(t, l, addr("a", "app"), impl.NotFound())
	checkAnswer(t, l, addr("a", "logo"), impl.NotFound())
}

func TestPutFileOfNothing(t *testing.T) {
	for _, l := range [][]impl.Server{nil, {}} {
		checkPut(t, l, addr("home", "app"), saying("a"), []impl.Server{server("home", file("app", saying("a")))})
		checkPut(t, l, addr("a", "a"), response(599, 5, longestBody, 1000, true, "script;style;img"), []impl.Server{server("a", file("a", response(599, 5, longestBody, 1000, true, "script;style;img")))})
		checkNotPut(t, l, impl.Addr{}, saying("a"))
		checkNotPut(t, l, addr("home", "app"), impl.Response{})
	}
	for _, files := range [][]impl.File{nil, {}} {
		l := []impl.Server{{Host: "cdn", Files: files}, {Host: "home", Files: files}}
		checkPut(t, l, addr("home", "app"), saying("a"), []impl.Server{server("cdn"), server("home", file("app", saying("a")))})
		checkPut(t, l, addr("cdn", "app"), saying("a"), []impl.Server{server("cdn", file("app", saying("a"))), server("home")})
		checkPut(t, l, addr("evil", "app"), saying("a"), []impl.Server{server("cdn"), server("home"), server("evil", file("app", saying("a")))})
		checkNotPut(t, l, addr("home", ""), saying("a"))
	}
}

// The same response put again, and a response that is that of another file, are put like others.
func TestPutFileAgain(t *testing.T) {
	l := []impl.Server{serverOf("home", "app", "logo"), serverOf("cdn", "app")}
	checkPut(t, l, addr("home", "app"), saying("home/app"), l)
	checkPut(t, l, addr("cdn", "app"), saying("cdn/app"), l)
	checkPut(t, l, addr("home", "logo"), saying("home/app"), []impl.Server{server("home", file("app", saying("home/app")), file("logo", saying("home/app"))), serverOf("cdn", "app")})
	for _, x := range someResponses() {
		want := cloneServers(l)
		want[0].Files[1].Response = x
		put := checkPut(t, l, addr("home", "logo"), x, want)
		checkAnswer(t, put, addr("home", "logo"), x)
		checkPut(t, put, addr("home", "logo"), saying("home/logo"), l)
	}
}

func TestPutFileOnFullServer(t *testing.T) {
	for count := range 13 {
		l := []impl.Server{serverOf("cdn", "app"), serverOf("home", numberedNames(count)...)}
		if count < 10 {
			put := checkPut(t, l, addr("home", "app"), saying("a"), []impl.Server{l[0], server("home", append(serverOf("home", numberedNames(count)...).Files, file("app", saying("a")))...)})
			checkValidServers(t, put, true)
		} else {
			checkNotPut(t, l, addr("home", "app"), saying("a"))
		}
		for i := range count {
			want := cloneServers(l)
			want[1].Files[i].Response = saying("b")
			if count <= 10 {
				checkPut(t, l, addr("home", numberedName(i)), saying("b"), want)
			} else {
				checkNotPut(t, l, addr("home", numberedName(i)), saying("b")) // it stays too large
			}
		}
		// The number of files counts for each server alone.
		want := cloneServers(l)
		want[0].Files = append(want[0].Files, file("lib", saying("b")))
		checkPut(t, l, addr("cdn", "lib"), saying("b"), want)
		checkPut(t, l, addr("new", "lib"), saying("b"), append(cloneServers(l), server("new", file("lib", saying("b")))))
	}
}

func TestPutFileWithManyServers(t *testing.T) {
	for count := range 8 {
		l := []impl.Server{}
		for _, name := range numberedNames(count) {
			l = append(l, serverOf(name, "app"))
		}
		if count < 4 {
			put := checkPut(t, l, addr("home", "app"), saying("a"), append(cloneServers(l), server("home", file("app", saying("a")))))
			checkValidServers(t, put, true)
		} else {
			checkNotPut(t, l, addr("home", "app"), saying("a"))
			checkNotPut(t, l, addr("home", ""), impl.Response{})
		}
		for i := range count {
			replaced, longer := cloneServers(l), cloneServers(l)
			replaced[i].Files[0].Response = saying("b")
			longer[i].Files = append(longer[i].Files, file("logo", saying("b")))
			if count <= 4 {
				checkPut(t, l, addr(numberedName(i), "app"), saying("b"), replaced)
				checkPut(t, l, addr(numberedName(i), "logo"), saying("b"), longer)
			} else {
				checkNotPut(t, l, addr(numberedName(i), "app"), saying("b")) // there would be too many as before
				checkNotPut(t, l, addr(numberedName(i), "logo"), saying("b"))
			}
			checkNotPut(t, l, addr(numberedName(i), "app"), impl.Response{})
			checkNotPut(t, l, addr(numberedName(i), ""), saying("b"))
		}
	}
}

// A file is put on the first server with the host, whatever the second one has.
func TestPutFileOnEqualHosts(t *testing.T) {
	home, more := serverOf("home", "app"), serverOf("home", "logo", "app")
	put := checkPut(t, []impl.Server{home, more}, addr("home", "app"), saying("a"), []impl.Server{server("home", file("app", saying("a"))), more})
	checkAnswer(t, put, addr("home", "app"), saying("a"))
	put = checkPut(t, []impl.Server{home, more}, addr("home", "logo"), saying("b"), []impl.Server{server("home", home.Files[0], file("logo", saying("b"))), more})
	checkAnswer(t, put, addr("home", "logo"), saying("b"))
	checkPut(t, []impl.Server{home, more}, addr("home", "new"), saying("c"), []impl.Server{server("home", home.Files[0], file("new", saying("c"))), more})
	checkPut(t, []impl.Server{more, home}, addr("home", "app"), saying("d"), []impl.Server{server("home", more.Files[0], file("app", saying("d"))), home})
	checkPut(t, []impl.Server{server("home"), home, more}, addr("home", "app"), saying("e"), []impl.Server{server("home", file("app", saying("e"))), home, more})
	// The other one may be full or not valid; it is not the server that is changed.
	full := serverOf("home", numberedNames(10)...)
	checkPut(t, []impl.Server{home, full}, addr("home", "logo"), saying("f"), []impl.Server{server("home", home.Files[0], file("logo", saying("f"))), full})
	checkNotPut(t, []impl.Server{full, home}, addr("home", "app"), saying("f"))
	checkNotPut(t, []impl.Server{full, home}, addr("home", "logo"), saying("f"))
	// Servers with one host are counted each.
	checkPut(t, []impl.Server{home, home, home}, addr("cdn", "app"), saying("g"), []impl.Server{home, home, home, server("cdn", file("app", saying("g")))})
	checkPut(t, []impl.Server{home, home, home, home}, addr("home", "app"), saying("g"), []impl.Server{server("home", file("app", saying("g"))), home, home, home})
	checkNotPut(t, []impl.Server{home, home, home, home}, addr("cdn", "app"), saying("g"))
	checkNotPut(t, []impl.Server{home, home, home, home, home}, addr("home", "app"), saying("g"))
}

// The server stays invalid as long as it has two files with one path.
func TestPutFileOnEqualPaths(t *testing.T) {
	twice := serverOf("home", "app", "logo", "app")
	for _, path := range []string{"app", "logo", "lib", ""} {
		checkNotPut(t, []impl.Server{twice}, addr("home", path), saying("a"))
		checkNotPut(t, []impl.Server{serverOf("cdn", "app"), twice, serverOf("home", "app")}, addr("home", path), saying("a"))
	}
	checkPut(t, []impl.Server{twice}, addr("cdn", "app"), saying("a"), []impl.Server{twice, server("cdn", file("app", saying("a")))})
	checkPut(t, []impl.Server{serverOf("cdn", "app"), twice}, addr("cdn", "app"), saying("a"), []impl.Server{server("cdn", file("app", saying("a"))), twice})
	checkPut(t, []impl.Server{serverOf("home", "lib"), twice}, addr("home", "app"), saying("a"), []impl.Server{server("home", serverOf("home", "lib").Files[0], file("app", saying("a"))), twice})
}

func TestPutFileOfOtherNames(t *testing.T) {
	for _, l := range [][]impl.Server{{}, {serverOf("home", "app")}, {serverOf("home", "app", "logo"), serverOf("cdn", "app")}} {
		for _, name := range notNames {
			checkNotPut(t, l, addr(name, "app"), saying("a"))
			checkNotPut(t, l, addr("home", name), saying("a"))
			checkNotPut(t, l, addr("cdn", name), saying("a"))
			checkNotPut(t, l, addr("new", name), saying("a"))
			checkNotPut(t, l, addr(name, name), saying("a"))
			checkNotPut(t, l, addr(name, name), impl.Response{})
		}
		for _, name := range names {
			put, ok := impl.PutFile(l, addr(name, name), saying("a"))
			if !ok {
				t.Fatalf("PutFile of %q into %s is false", addr(name, name), shownServers(l))
			}
			checkAnswer(t, put, addr(name, name), saying("a"))
			checkValidServers(t, put, true)
		}
	}
	// A name that is none is none, even if a server or a file has it already.
	for _, name := range notNames {
		checkNotPut(t, []impl.Server{server(name)}, addr(name, "app"), saying("a"))
		checkNotPut(t, []impl.Server{serverOf(name, "app")}, addr(name, "app"), saying("a"))
		checkNotPut(t, []impl.Server{serverOf("home", name)}, addr("home", name), saying("a"))
		checkNotPut(t, []impl.Server{serverOf("home", name)}, addr("home", "app"), saying("a"))
	}
}

func TestPutFileOfOtherResponses(t *testing.T) {
	l := []impl.Server{serverOf("home", "app", "logo"), serverOf("cdn", "app")}
	for _, x := range oddResponses() {
		for _, a := range []impl.Addr{addr("home", "app"), addr("home", "logo"), addr("home", "lib"), addr("cdn", "app"), addr("cdn", "lib"), addr("evil", "app"), addr("evil", "")} {
			checkNotPut(t, l, a, x)
		}
		checkNotPut(t, nil, addr("home", "app"), x)
	}
	for _, x := range someResponses() {
		checkPut(t, l, addr("evil", "app"), x, append(cloneServers(l), server("evil", file("app", x))))
		checkPut(t, l, addr("cdn", "lib"), x, []impl.Server{l[0], server("cdn", l[1].Files[0], file("lib", x))})
	}
}

// A server that is not valid becomes so if the file was what was wrong with it, and only then.
func TestPutFileOnOddServers(t *testing.T) {
	for _, x := range oddResponses() {
		l := []impl.Server{server("home", file("logo", saying("a")), file("app", x))}
		put := checkPut(t, l, addr("home", "app"), saying("b"), []impl.Server{server("home", file("logo", saying("a")), file("app", saying("b")))})
		checkValidServers(t, put, true)
		checkNotPut(t, l, addr("home", "logo"), saying("b"))
		checkNotPut(t, l, addr("home", "lib"), saying("b"))
		checkNotPut(t, l, addr("home", "app"), x)
		twice := []impl.Server{server("home", file("logo", x), file("app", x))}
		checkNotPut(t, twice, addr("home", "logo"), saying("b"))
		checkNotPut(t, twice, addr("home", "app"), saying("b"))
		// It is another server that is wrong.
		checkPut(t, l, addr("cdn", "app"), saying("b"), append(cloneServers(l), server("cdn", file("app", saying("b")))))
		checkPut(t, []impl.Server{l[0], serverOf("cdn", "app")}, addr("cdn", "app"), saying("b"), []impl.Server{l[0], server("cdn", file("app", saying("b")))})
	}
	for _, s := range oddServers() {
		if s.Host != "cdn" {
			put := checkPut(t, []impl.Server{s, serverOf("cdn", "lib")}, addr("cdn", "lib"), saying("b"), []impl.Server{s, server("cdn", file("lib", saying("b")))})
			checkValidServers(t, put, false)
			put = checkPut(t, []impl.Server{s}, addr("cdn", "lib"), saying("b"), []impl.Server{s, server("cdn", file("lib", saying("b")))})
			checkAnswer(t, put, addr("cdn", "lib"), saying("b"))
		}
		if !nameForm.MatchString(s.Host) || len(s.Files) > 10 {
			for _, path := range []string{"app", "new", numberedName(0), ""} {
				checkNotPut(t, []impl.Server{s}, addr(s.Host, path), saying("b"))
			}
		}
	}
}

// checkPutByParts looks at all that a put does: the result, the answers afterwards, and the list that was given.
func checkPutByParts(t *testing.T, l []impl.Server, a impl.Addr, x impl.Response) ([]impl.Server, bool) {
	t.Helper()
	before := cloneServers(l)
	want, wanted := putByParts(l, a, x)
	got, ok := impl.PutFile(l, a, x)
	if !sameServers(got, want) || ok != wanted {
		t.Fatalf("PutFile of %q (%s) into %s is %t: %s", a, shown(x), shownServers(before), ok, shownServers(got))
	}
	checkServers(t, "a list after PutFile", l, before)
	checkEqualServers(t, "a list and what PutFile returns", got, l, sameServers(got, l))
	if ok {
		checkAnswer(t, got, a, x)
	} else {
		checkAnswer(t, got, a, answerByMap(l, a))
	}
	if validServersByForms(l) {
		checkValidServers(t, got, true)
		if ok != (nameForm.MatchString(a.Host) && nameForm.MatchString(a.Path) && validByLimits(x) && hasRoom(l, a)) {
			t.Fatalf("PutFile of %q (%s) into the valid %s is %t", a, shown(x), shownServers(l), ok)
		}
	}
	return got, ok
}

// hasRoom reports whether a list that is valid stays so with a file at a.
func hasRoom(l []impl.Server, a impl.Addr) bool {
	_, known := answersByMap(l)[a]
	for _, s := range l {
		if s.Host == a.Host {
			return known || len(s.Files) < 10
		}
	}
	return len(l) < 4
}

// P12: whatever there is and whatever is put, the file is returned, and every other address is answered as before.
func TestFileThatWasPutIsReturned(t *testing.T) {
	asked, some, odd := askedServers(), someResponses(), oddResponses()
	for n, l := range allServers() {
		for _, a := range asked {
			put, ok := checkPutByParts(t, l, a, saying("new"))
			if !ok {
				continue
			}
			for _, other := range asked {
				if other != a && !sameResponse(impl.AnswerTo(put, other), impl.AnswerTo(l, other)) {
					t.Fatalf("after PutFile of %q into %s the answer to %q is %s, not %s", a, shownServers(l), other, shown(impl.AnswerTo(put, other)), shown(impl.AnswerTo(l, other)))
				}
			}
		}
		for i := range 20 {
			checkPutByParts(t, l, asked[(20*n+i)%len(asked)], odd[(20*n+i)%len(odd)])
			checkPutByParts(t, l, asked[(21*n+i)%len(asked)], some[(20*n+i)%len(some)])
		}
	}
}

// P12: the same for the files of the lists themselves.
func TestFilesThatArePutAgain(t *testing.T) {
	for _, l := range allServers() {
		for a, x := range answersByMap(l) {
			checkPutByParts(t, l, a, x)
			checkPutByParts(t, l, a, saying("again"))
			checkPutByParts(t, l, a, impl.Response{})
			x.Age = (x.Age + 1) % 1001
			checkPutByParts(t, l, a, x)
		}
	}
}

// A list that is built of many files answers like a map of what was put.
func TestManyFilesThatArePut(t *testing.T) {
	random := rand.New(rand.NewPCG(12, 1))
	hosts, paths := []string{"home", "cdn", "evil", "a", "b", "c", "", "Home"}, append(numberedNames(14), "", "App")
	refused := 0
	for range 100 {
		l, known := []impl.Server{}, map[impl.Addr]impl.Response{}
		for i := range 100 {
			a, x := addr(hosts[random.IntN(len(hosts))], paths[random.IntN(len(paths))]), saying(fmt.Sprint("x", i))
			if random.IntN(20) == 0 {
				x.Status = 99
			}
			before := cloneServers(l)
			put, ok := checkPutByParts(t, l, a, x)
			checkServers(t, "a list that was given", l, before)
			if ok {
				known[a] = x
			} else {
				refused++
			}
			l = put
		}
		for _, host := range hosts {
			for _, path := range paths {
				x, found := known[addr(host, path)]
				if !found {
					x = impl.NotFound()
				}
				checkAnswer(t, l, addr(host, path), x)
			}
		}
		checkValidServers(t, l, true)
	}
	if refused < 1000 {
		t.Errorf("only %d puts were refused", refused)
	}
}

// randomServers has valid and invalid lists, with hosts and paths that come more than once.
func randomServers(random *rand.Rand) []impl.Server {
	hosts, paths := []string{"home", "cdn", "evil", "a", "b", "c", "d", "e", "f", ""}, append(numberedNames(30), "App")
	l := []impl.Server{}
	for range random.IntN(7) {
		s := server(hosts[random.IntN(len(hosts))])
		for range random.IntN(13) {
			s.Files = append(s.Files, file(paths[random.IntN(len(paths))], saying(fmt.Sprint(random.IntN(3)))))
			if random.IntN(80) == 0 {
				s.Files[len(s.Files)-1].Response = randomResponse(random)
			}
		}
		if random.IntN(3) > 0 {
			s.Files = slices.CompactFunc(s.Files, func(a impl.File, b impl.File) bool { return a.Path <= b.Path })
		}
		l = append(l, s)
	}
	return l
}

func TestRandomServers(t *testing.T) {
	random := rand.New(rand.NewPCG(12, 2))
	valid, put := 0, 0
	for range 20000 {
		l := randomServers(random)
		is := validServersByForms(l)
		checkValidServers(t, l, is)
		for _, s := range l {
			checkValidServer(t, s, validServerByForms(s))
		}
		answers := answersByMap(l)
		for a, x := range answers {
			checkAnswer(t, l, a, x)
		}
		a := addr([]string{"home", "cdn", "a", "new", ""}[random.IntN(5)], append(numberedNames(30), "App")[random.IntN(31)])
		if _, ok := checkPutByParts(t, l, a, saying("new")); ok {
			put++
		}
		if is {
			valid++
		}
		other := randomServers(random)
		checkEqualServers(t, "random lists", l, other, sameServers(l, other))
		checkEqualServers(t, "a copy", l, cloneServers(l), true)
	}
	if valid < 1000 || valid > 19000 || put < 1000 || put > 19000 {
		t.Errorf("%d lists are valid, %d puts succeed", valid, put)
	}
}

func TestEqualServers(t *testing.T) {
	lists := allServers()
	for i, a := range lists {
		checkEqualServers(t, "a copy", a, cloneServers(a), true)
		for _, b := range lists[:min(i, 150)] {
			checkEqualServers(t, "two lists", a, b, sameServers(a, b))
		}
	}
	for i, a := range validServers() {
		for j, b := range validServers() {
			checkEqualServers(t, "valid lists", a, b, i == j)
		}
	}
	checkEqualServers(t, "nil and empty lists", nil, []impl.Server{}, true)
	checkEqualServers(t, "nil and empty files", []impl.Server{{Host: "home"}}, []impl.Server{{Host: "home", Files: []impl.File{}}}, true)
	checkEqualServers(t, "an empty server and none", nil, []impl.Server{{}}, false)
	checkEqualServers(t, "one and two empty servers", []impl.Server{{}}, []impl.Server{{}, {}}, false)
	checkEqualServers(t, "an empty file and none", []impl.Server{{}}, []impl.Server{{Files: []impl.File{{}}}}, false)
	// Two orders of the same files answer alike, but are not equal.
	checkEqualServers(t, "another order of files", []impl.Server{serverOf("home", "app", "logo")}, []impl.Server{serverOf("home", "logo", "app")}, false)
	checkEqualServers(t, "another order of servers", []impl.Server{serverOf("home", "app"), serverOf("cdn", "app")}, []impl.Server{serverOf("cdn", "app"), serverOf("home", "app")}, false)
	checkEqualServers(t, "files on another server", []impl.Server{serverOf("home", "app"), server("cdn")}, []impl.Server{server("home"), serverOf("cdn", "app")}, false)
	checkEqualServers(t, "files that are on the first or the second server of a host", []impl.Server{serverOf("home", "app", "logo"), server("home")}, []impl.Server{serverOf("home", "app"), serverOf("home", "logo")}, false)
	checkEqualServers(t, "a file that nobody can ask for", []impl.Server{serverOf("home", "app")}, []impl.Server{serverOf("home", "app", "app")}, false)
}

func TestServersThatDifferInOnePlace(t *testing.T) {
	for _, l := range slices.Concat(validServers(), oddLists()[:60]) {
		changes := 0
		check := func(what string, change func([]impl.Server) []impl.Server) {
			changed := change(cloneServers(l))
			checkEqualServers(t, what, l, changed, false)
			changes++
		}
		check("one server more", func(c []impl.Server) []impl.Server { return append(c, server("new")) })
		check("an empty server more", func(c []impl.Server) []impl.Server { return append(c, impl.Server{}) })
		check("one server before the others", func(c []impl.Server) []impl.Server { return slices.Insert(c, 0, server("new")) })
		for i := range l[:min(len(l), 6)] {
			check("one server less", func(c []impl.Server) []impl.Server { return slices.Delete(c, i, i+1) })
			check("another Host", func(c []impl.Server) []impl.Server { c[i].Host += "x"; return c })
			check("one file more", func(c []impl.Server) []impl.Server { c[i].Files = append(c[i].Files, impl.File{}); return c })
			for j := range l[i].Files[:min(len(l[i].Files), 12)] {
				check("one file less", func(c []impl.Server) []impl.Server {
					c[i].Files = slices.Delete(c[i].Files, j, j+1)
					return c
				})
				check("another Path", func(c []impl.Server) []impl.Server { c[i].Files[j].Path += "x"; return c })
				for n, change := range responseChanges {
					check(fmt.Sprintf("change %d of a response", n), func(c []impl.Server) []impl.Server { change(&c[i].Files[j].Response); return c })
				}
			}
		}
		if changes < 3+3*min(len(l), 6) {
			t.Errorf("%d changes of %s", changes, shownServers(l))
		}
	}
}

// roomyServers returns a list all of whose slices have spare capacity, and a function that shows all of their memory.
func roomyServers(l []impl.Server) ([]impl.Server, func() string) {
	servers, memory := roomy(l, serverOf("spare", "spare"))
	files := make([][]impl.File, len(servers))
	for i := range servers {
		servers[i].Files, files[i] = roomy(servers[i].Files, file("spare", saying("spare")))
	}
	return servers, func() string { return fmt.Sprintf("%+v %+v", memory, files) }
}

// overwriteServers changes all that a list of servers reaches.
func overwriteServers(l []impl.Server) {
	for _, s := range l {
		overwrite(s.Files, file("other", saying("other")))
	}
	overwrite(l, serverOf("other", "other"))
}

// serverCalls has a call of each function that takes memory.
var serverCalls = map[string]func([]impl.Server, impl.Addr, impl.Response) []impl.Server{
	"PutFile": func(l []impl.Server, a impl.Addr, x impl.Response) []impl.Server {
		put, _ := impl.PutFile(l, a, x)
		return put
	},
	"PutFile that is refused": func(l []impl.Server, a impl.Addr, _ impl.Response) []impl.Server {
		put, _ := impl.PutFile(l, a, impl.Response{})
		return put
	},
	"PutFile twice": func(l []impl.Server, a impl.Addr, x impl.Response) []impl.Server {
		put, _ := impl.PutFile(l, a, x)
		put, _ = impl.PutFile(put, addr(a.Host, "more"), x)
		return put
	},
	"PutFile into a part": func(l []impl.Server, a impl.Addr, x impl.Response) []impl.Server {
		part := slices.Clone(l[:len(l)/2])
		for i := range part {
			part[i].Files = l[i].Files[:len(l[i].Files)/2]
		}
		put, _ := impl.PutFile(part, a, x)
		return put
	},
	"PutFile into servers that share their files": func(l []impl.Server, a impl.Addr, x impl.Response) []impl.Server {
		shared := slices.Clone(l)
		for i := range shared {
			shared[i].Files = l[0].Files
		}
		put, _ := impl.PutFile(shared, a, x)
		return put
	},
	"AnswerTo, IsServer and AreServers": func(l []impl.Server, a impl.Addr, _ impl.Response) []impl.Server {
		answers := server(fmt.Sprint(impl.AreServers(l)), file("answer", impl.AnswerTo(l, a)))
		for _, s := range l {
			answers.Files = append(answers.Files, file(fmt.Sprint(impl.IsServer(s)), impl.Response{}))
		}
		return []impl.Server{answers}
	},
	"EqualServers": func(l []impl.Server, _ impl.Addr, _ impl.Response) []impl.Server {
		return []impl.Server{server(fmt.Sprint(impl.EqualServers(l, l[:len(l)/2]), impl.EqualServers(l, cloneServers(l))))}
	},
}

func TestServersLeaveArgumentsAlone(t *testing.T) {
	for name, call := range serverCalls {
		for i, l := range allServers() {
			if i > 120 {
				break // the others differ in their responses and names only
			}
			for _, a := range []impl.Addr{addr("home", "app"), addr("home", "new"), addr("home", "naa"), addr("cdn", "app"), addr("new", "app"), addr("new", "")} {
				checkServersApart(t, name, l, a, call)
			}
		}
	}
}

// checkServersApart checks that call neither changes the memory of its argument nor returns a part of it.
func checkServersApart(t *testing.T, what string, l []impl.Server, a impl.Addr, call func([]impl.Server, impl.Addr, impl.Response) []impl.Server) {
	t.Helper()
	if len(l) == 0 && what == "PutFile into servers that share their files" {
		return
	}
	given, memory := roomyServers(l)
	before := memory()
	got := call(given, a, saying("new"))
	if after := memory(); after != before {
		t.Fatalf("%s changed the memory of its argument: %s, not %s", what, after, before)
	}
	want := cloneServers(got)
	checkOwnFiles(t, what, got)
	overwriteServers(got)
	if after := memory(); after != before {
		t.Fatalf("%s returned memory of its argument: %s, not %s", what, after, before)
	}
	got = call(given, a, saying("new"))
	overwriteServers(given)
	checkServers(t, what+" after its argument has changed", got, want)
}

// checkOwnFiles changes the files of each server, their spare capacity included, and looks for the change in the others.
func checkOwnFiles(t *testing.T, what string, l []impl.Server) {
	t.Helper()
	want := cloneServers(l)
	for i := range l {
		before := slices.Clone(l[i].Files[:cap(l[i].Files)])
		overwrite(l[i].Files, file("changed", saying("changed")))
		want[i].Files = slices.Repeat([]impl.File{file("changed", saying("changed"))}, len(l[i].Files))
		checkServers(t, fmt.Sprint(what, ", files of server ", i, " changed"), l, want)
		copy(l[i].Files[:cap(l[i].Files)], before)
		want[i].Files = slices.Clone(l[i].Files)
	}
}
