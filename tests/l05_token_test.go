package tests

import (
	"fmt"
	"math/rand/v2"
	"regexp"
	"slices"
	"strings"
	"testing"

	"loop.example/g00586/impl"
)

var (
	openForm  = regexp.MustCompile(`^[a-z]{1,8}( [a-z]{1,8}=[a-z0-9/]{1,20}){0,4}$`)
	closeForm = regexp.MustCompile(`^/[a-z]{1,8}$`)
	partForm  = regexp.MustCompile(`<[^>]*>|<[^>]*$|[^<]+`)
)

// somePages has pages of texts and tags, of texts alone and of tags alone, and pages with what only looks like a tag.
var somePages = []string{"", "a", "some text", " ", "\n", "<p>", "</p>", "<p></p>", "<p>text</p>", "a<p>b</p>c", "a<p>b c<what?></p>d<img", "<img src=cdn/logo digest=5>",
	"<script src=app kind=defer></script><p>x</p>", "<p a=1 b=2 c=3 d=4>x", "<p a=1 b=2 c=3 d=4 e=5>x", "<p><p><p>", "a<b<c>d", "a>b", ">", ">>", "<", "<<", "<<<p>", "<>", "<></>", "a<>b<p>",
	"</", "</>", "<//p>", "</p a=b>", "< p>", "<p >", "<p a>", "<p a=>", "<p =b>", "<p a=b=c>", "<p a=b a=c>x", "<p a=b  c=d>", "x<p", "x<p a=b", "<p>x</", "p>x<p>", "<p>x>y</p>z>", "<P>A</P>",
	"<p>\xff\x80<\xff>é</p>日本", "<p>\x00</p>\r\n<p\n>", "<" + strings.Repeat("p", 9) + ">x", "<p>" + strings.Repeat("text ", 300) + "</p>", "x<" + strings.Repeat("a ", 100) + ">y<p>"}

func openToken(name string, attrs ...impl.Attr) impl.Token {
	return impl.Token{Kind: 1, Name: name, Attrs: attrs}
}

func closeToken(name string) impl.Token {
	return impl.Token{Kind: 2, Name: name}
}

func textToken(text string) impl.Token {
	return impl.Token{Kind: 3, Text: text}
}

func attr(name string, value string) impl.Attr {
	return impl.Attr{Name: name, Value: value}
}

// attrsOf makes the attributes of NAME, VALUE, NAME, VALUE and so on.
func attrsOf(words ...string) []impl.Attr {
	var l []impl.Attr
	for i := 0; i < len(words); i += 2 {
		l = append(l, attr(words[i], words[i+1]))
	}
	return l
}

func equalTokens(a impl.Token, b impl.Token) bool {
	return a.Kind == b.Kind && a.Name == b.Name && a.Text == b.Text && slices.Equal(a.Attrs, b.Attrs)
}

func copyTokens(l []impl.Token) []impl.Token {
	c := slices.Clone(l)
	for i := range c {
		c[i].Attrs = slices.Clone(c[i].Attrs)
	}
	return c
}

func checkTag(t *testing.T, s string, want impl.Token) {
	t.Helper()
	if got, ok := impl.TagOf(s); !ok || !equalTokens(got, want) {
		t.Errorf("TagOf(%q) is %+v, %t, not %+v, true", s, got, ok, want)
	}
}

func checkNoTag(t *testing.T, s string) {
	t.Helper()
	if got, ok := impl.TagOf(s); ok || !equalTokens(got, impl.Token{}) {
		t.Errorf("TagOf(%q) is %+v, %t", s, got, ok)
	}
}

func checkTokens(t *testing.T, what string, got []impl.Token, want []impl.Token) {
	t.Helper()
	if !slices.EqualFunc(got, want, equalTokens) {
		// Texts may be bytes that are no character, so all is quoted.
		t.Errorf("%q: %q, not %q", what, fmt.Sprintf("%+v", got), fmt.Sprintf("%+v", want))
	}
}

func checkPage(t *testing.T, s string, want ...impl.Token) {
	t.Helper()
	checkTokens(t, "TokensOf("+s+")", impl.TokensOf(s), want)
}

func checkFed(t *testing.T, rest string, s string, wantRest string, want ...impl.Token) {
	t.Helper()
	got, next := impl.FeedText(impl.Tokenizer{Rest: rest}, s)
	checkTokens(t, "FeedText("+rest+", "+s+")", got, want)
	if next.Rest != wantRest {
		t.Errorf("FeedText(%q, %q) leaves %q, not %q", rest, s, next.Rest, wantRest)
	}
}

func checkEnd(t *testing.T, rest string, want ...impl.Token) {
	t.Helper()
	checkTokens(t, "EndText("+rest+")", impl.EndText(impl.Tokenizer{Rest: rest}), want)
}

// tagByForm takes a tag by the form that the document gives.
func tagByForm(s string) (impl.Token, bool) {
	if closeForm.MatchString(s) {
		return closeToken(s[1:]), true
	}
	if !openForm.MatchString(s) || len(s) > 60 {
		return impl.Token{}, false
	}
	words := strings.Split(s, " ")
	var attrs []impl.Attr
	for _, word := range words[1:] {
		place := strings.Index(word, "=")
		for _, a := range attrs {
			if a.Name == word[:place] {
				return impl.Token{}, false
			}
		}
		attrs = append(attrs, attr(word[:place], word[place+1:]))
	}
	return openToken(words[0], attrs...), true
}

// tokensByForm divides a whole page by the forms of its parts.
func tokensByForm(s string) []impl.Token {
	var tokens []impl.Token
	for _, part := range partForm.FindAllString(s, -1) {
		if part[0] != '<' {
			tokens = append(tokens, textToken(part))
		} else if token, ok := tagByForm(strings.TrimSuffix(part[1:], ">")); ok && strings.HasSuffix(part, ">") {
			tokens = append(tokens, token)
		}
	}
	return tokens
}

// fedTokens returns the tokens of a page that arrives in these pieces.
func fedTokens(pieces ...string) []impl.Token {
	var tokens []impl.Token
	t := impl.Tokenizer{}
	for _, piece := range pieces {
		var some []impl.Token
		some, t = impl.FeedText(t, piece)
		tokens = append(tokens, some...)
	}
	return append(tokens, impl.EndText(t)...)
}

func TestTokenConstants(t *testing.T) {
	if impl.TkOpen != 1 || impl.TkClose != 2 || impl.TkText != 3 || impl.MaxTag != 60 || impl.MaxAttrs != 4 || impl.MaxPage != 1500 {
		t.Error(impl.TkOpen, impl.TkClose, impl.TkText, impl.MaxTag, impl.MaxAttrs, impl.MaxPage)
	}
}

func TestIsValue(t *testing.T) {
	for _, s := range []string{"a", "z", "0", "9", "/", "//", "cdn/logo", "a/9", "5", "00", "abcdefghij0123456789", "////////////////////"} {
		if !impl.IsValue(s) {
			t.Errorf("IsValue(%q) is false", s)
		}
	}
	for _, s := range []string{"", "abcdefghij0123456789a", "A", "aB", "a b", " ", " a", "a ", "a=b", "=", "a-b", "-1", "a.b", "a_b", "a<", ">", "\\", "\"a\"", "a\n", "\x00", "\xff", "a\xff", "é", "ａ", "日本", "٣"} {
		if impl.IsValue(s) {
			t.Errorf("IsValue(%q) is true", s)
		}
	}
	for size := range 50 {
		for _, c := range []string{"a", "z", "0", "9", "/"} {
			if got := impl.IsValue(strings.Repeat(c, size)); got != (size >= 1 && size <= 20) {
				t.Errorf("IsValue of %d times %q is %t", size, c, got)
			}
		}
	}
	if impl.IsValue(strings.Repeat("é", 10)) {
		t.Error("IsValue of 20 bytes that are 10 other characters")
	}
}

// Each byte is tried alone and at every place of a value of each length.
func TestIsValueOfEveryByte(t *testing.T) {
	for c := range 256 {
		want := strings.IndexByte("abcdefghijklmnopqrstuvwxyz0123456789/", byte(c)) >= 0
		for size := 1; size <= 20; size++ {
			for place := range size {
				b := []byte("mnop/qrst0123456789a")[:size]
				b[place] = byte(c)
				if got := impl.IsValue(string(b)); got != want {
					t.Errorf("IsValue(%q) is %t", b, got)
				}
			}
		}
	}
}

func TestTagOf(t *testing.T) {
	checkTag(t, "p", openToken("p"))
	checkTag(t, "img", openToken("img"))
	checkTag(t, "abcdefgh", openToken("abcdefgh"))
	checkTag(t, "/p", closeToken("p"))
	checkTag(t, "/abcdefgh", closeToken("abcdefgh"))
	checkTag(t, "img src=cdn/logo digest=5", openToken("img", attr("src", "cdn/logo"), attr("digest", "5")))
	checkTag(t, "p p=p", openToken("p", attr("p", "p")))
	checkTag(t, "p a=/", openToken("p", attr("a", "/")))
	checkTag(t, "p a=//0", openToken("p", attr("a", "//0")))
	checkTag(t, "p b=2 a=1", openToken("p", attr("b", "2"), attr("a", "1")))
	checkTag(t, "p a=1 aa=1", openToken("p", attr("a", "1"), attr("aa", "1")))
	checkTag(t, "p a=1 b=1", openToken("p", attr("a", "1"), attr("b", "1")))
	checkTag(t, "p a=b b=c c=d d=e", openToken("p", attrsOf("a", "b", "b", "c", "c", "d", "d", "e")...))
	checkTag(t, "p abcdefgh=abcdefghij0123456789", openToken("p", attr("abcdefgh", "abcdefghij0123456789")))
}

func TestTagOfRejects(t *testing.T) {
	for _, s := range []string{"", " ", "  ", "/", "//", "///", "//p", "/p/", "p/", "/ p", "/p ", " /p", "/p a=b", "/p a", "/ a=b", "/abcdefghi", "/P", "/p1", "/p=q", "a/b",
		" p", "p ", "p  ", " p a=b", "p a=b ", "p  a=b", "p a=b  b=c", "p a=b  ", "p\ta=b", "p\na=b", "p a=b\tb=c", "p a=b,b=c", "\np", "p\n",
		"P", "p1", "1", "abcdefghi", "abcdefghi a=b", "a=b", "=", "p=q", "p=q a=b", "p-q", "!p", "?p", "p?", "é", "p é=a", "p a=é", "\xff", "p\xff", "p \xff=a", "p a=\xff", "\x00", "p a=b\x00",
		"p a", "p a b=c", "p b=c a", "p ab", "p a= b=c", "p a=", "p =b", "p =", "p ==", "p a==b", "p a=b=", "p a=b=c", "p a=b=c=d", "p =a=b", "p b=c a=d=e", "p b=c =d", "p b=c d=",
		"p A=b", "p a=B", "p a1=b", "p 1=b", "p a=b-c", "p a/b=c", "p abcdefghi=a", "p a=abcdefghij0123456789a", "p a=\"b\"", "p a='b'",
		"p a=b b=c c=d d=e e=f", "p a=b b=c c=d d=e ", "p a=b b=c c=d d=e e", "p a=1 b=2 c=3 d=4 e=5 f=6",
		"p a=b a=c", "p a=b a=b", "p a=b b=c a=d", "p b=c a=b a=c", "p a=1 b=2 c=3 a=4", "p a=1 b=2 c=3 d=4 a=5",
		"<", ">", "<p", "p>", "<p>", "p<", "p a=<", "p a=>", "a<b", "</p>", "<p a=b>"} {
		checkNoTag(t, s)
	}
}

// Names, keys and values of each length, and attributes of each number, in tags that are short enough for them.
func TestTagOfLengths(t *testing.T) {
	for size := range 30 {
		name, value := strings.Repeat("n", size), strings.Repeat("9", size)
		for s, want := range map[string]bool{name: size <= 8, "/" + name: size <= 8, name + " a=b": size <= 8, "p " + name + "=b": size <= 8, "p x=y " + name + "=b x=z": false,
			"p x=y " + name + "=b": size <= 8, "p a=" + value: size <= 20, "p x=y a=" + value: size <= 20, "p a=" + value + " x=y": size <= 20} {
			if _, ok := impl.TagOf(s); ok != (want && size > 0) {
				t.Errorf("TagOf(%q) returns %t", s, ok)
			}
		}
	}
	for count := range 12 {
		s, attrs := "p", []impl.Attr{}
		for i := range count {
			key := "abcdefghijkl"[i : i+1]
			s, attrs = s+" "+key+"=v", append(attrs, attr(key, "v"))
		}
		if count <= 4 {
			checkTag(t, s, openToken("p", attrs...))
		} else {
			checkNoTag(t, s)
		}
	}
}

// longTag returns a tag of this size; all of its parts are short enough.
func longTag(size int) string {
	return "abcdefgh" + " bcdefghi=" + strings.Repeat("1", 20) + " c=" + strings.Repeat("/", size-41)
}

func TestLongestTag(t *testing.T) {
	for size := 42; size <= 60; size++ {
		checkTag(t, longTag(size), openToken("abcdefgh", attrsOf("bcdefghi", strings.Repeat("1", 20), "c", strings.Repeat("/", size-41))...))
		checkPage(t, "<"+longTag(size)+">", openToken("abcdefgh", attrsOf("bcdefghi", strings.Repeat("1", 20), "c", strings.Repeat("/", size-41))...))
	}
	checkNoTag(t, longTag(61))
	checkPage(t, "a<"+longTag(61)+">b", textToken("a"), textToken("b"))
	// Each part of these is of the form of a tag, but the tag is too long.
	checkTag(t, "p a="+strings.Repeat("1", 20)+" b="+strings.Repeat("2", 20)+" c="+strings.Repeat("3", 6)+" d=4", openToken("p", attrsOf("a", strings.Repeat("1", 20), "b", strings.Repeat("2", 20), "c", "333333", "d", "4")...))
	checkNoTag(t, "p a="+strings.Repeat("1", 20)+" b="+strings.Repeat("2", 20)+" c="+strings.Repeat("3", 6)+" d=44")
	checkNoTag(t, "p a="+strings.Repeat("1", 20)+" b="+strings.Repeat("2", 20)+" c="+strings.Repeat("3", 20)+" d="+strings.Repeat("4", 20))
	for _, s := range []string{strings.Repeat("p", 100000), "/" + strings.Repeat("p", 100000), "p" + strings.Repeat(" a=b", 100000), strings.Repeat(" ", 100000)} {
		checkNoTag(t, s)
	}
}

// Every short string of a few characters is taken; what it must be follows from the form.
func TestTagOfShortStrings(t *testing.T) {
	for _, start := range []string{"", "p ", "p a=b "} {
		for _, end := range allStrings("ab=/ A", 6) {
			s := start + end
			if want, ok := tagByForm(s); ok {
				checkTag(t, s, want)
			} else {
				checkNoTag(t, s)
			}
		}
	}
}

func TestFormatToken(t *testing.T) {
	for _, c := range []struct {
		token impl.Token
		want  string
	}{
		{openToken("p"), "<p>"}, {closeToken("p"), "</p>"}, {textToken("a b"), "a b"}, {textToken(""), ""},
		{openToken("img", attr("src", "cdn/logo"), attr("digest", "5")), "<img src=cdn/logo digest=5>"},
		{openToken("p", attrsOf("d", "4", "c", "3", "b", "2", "a", "1")...), "<p d=4 c=3 b=2 a=1>"},
		{impl.Token{Kind: 1, Name: "p", Attrs: []impl.Attr{}}, "<p>"},
		{openToken("abcdefgh", attr("abcdefgh", "abcdefghij0123456789")), "<abcdefgh abcdefgh=abcdefghij0123456789>"},
		{textToken("<p>"), "<p>"}, {textToken("a>b \xff\n"), "a>b \xff\n"}, {textToken(strings.Repeat("long ", 1000)), strings.Repeat("long ", 1000)},
	} {
		if got := impl.FormatToken(c.token); got != c.want {
			t.Errorf("FormatToken(%+v) is %q, not %q", c.token, got, c.want)
		}
	}
}

func TestFormatTokenOfAnotherKind(t *testing.T) {
	for _, kind := range []int{0, 4, 5, 100, -1, -2, -3, 257, 258, 259, 1 << 32, 1<<62 + 1, -1 << 63, 1<<63 - 1} {
		for _, x := range []impl.Token{{}, {Name: "p"}, {Text: "text"}, {Name: "p", Text: "text", Attrs: attrsOf("a", "b")}} {
			x.Kind = kind
			if got := impl.FormatToken(x); got != "" {
				t.Errorf("FormatToken(%+v) is %q", x, got)
			}
		}
	}
}

// A kind's form has only what the kind has, also if the token has more, and a token that is no tag is formatted as it is.
func TestFormatTokenOfOddTokens(t *testing.T) {
	all := impl.Token{Name: "p", Text: "text", Attrs: attrsOf("a", "b")}
	five := attrsOf("a", "1", "b", "2", "a", "3", "d", "4", "e", "5")
	for _, c := range []struct {
		kind  int
		token impl.Token
		want  string
	}{
		{1, all, "<p a=b>"}, {2, all, "</p>"}, {3, all, "text"}, {1, impl.Token{}, "<>"}, {2, impl.Token{}, "</>"}, {3, impl.Token{}, ""},
		{1, impl.Token{Name: "P 1"}, "<P 1>"}, {2, impl.Token{Name: "<é>"}, "</<é>>"}, {1, impl.Token{Name: "p", Attrs: five}, "<p a=1 b=2 a=3 d=4 e=5>"},
		{1, impl.Token{Name: "p", Attrs: make([]impl.Attr, 2)}, "<p = =>"}, {1, impl.Token{Attrs: attrsOf("A", "b c")}, "< A=b c>"}, {1, impl.Token{Name: "p", Attrs: attrsOf("a", "", "", "b")}, "<p a= =b>"},
	} {
		c.token.Kind = c.kind
		if got := impl.FormatToken(c.token); got != c.want {
			t.Errorf("FormatToken(%+v) is %q, not %q", c.token, got, c.want)
		}
	}
}

func TestTagOfInvertsFormatToken(t *testing.T) {
	for _, name := range names {
		for _, attrs := range [][]impl.Attr{nil, attrsOf("a", "b"), attrsOf("src", "cdn/logo", "digest", "5"), attrsOf("d", "4", "c", "3", "b", "2", "a", "/1"), attrsOf("abcdefgh", "abcdefghij0123456789")} {
			for _, want := range []impl.Token{openToken(name, attrs...), closeToken(name)} {
				form := impl.FormatToken(want)
				checkTag(t, form[1:len(form)-1], want)
				checkPage(t, form, want)
				checkPage(t, "x"+form+form+"y", textToken("x"), want, want, textToken("y"))
			}
		}
	}
}

func TestTokensOf(t *testing.T) {
	checkPage(t, "")
	checkPage(t, "text", textToken("text"))
	checkPage(t, " ", textToken(" "))
	checkPage(t, "<p>", openToken("p"))
	checkPage(t, "a<p>b c<what?></p>d<img", textToken("a"), openToken("p"), textToken("b c"), closeToken("p"), textToken("d"))
	checkPage(t, "<p><b></b></p>", openToken("p"), openToken("b"), closeToken("b"), closeToken("p"))
	checkPage(t, "<img src=cdn/logo digest=5>x", openToken("img", attr("src", "cdn/logo"), attr("digest", "5")), textToken("x"))
	// A ">" outside of a tag is text, and a "<" inside of a tag makes it none.
	checkPage(t, ">", textToken(">"))
	checkPage(t, "a>b<p>c>", textToken("a>b"), openToken("p"), textToken("c>"))
	checkPage(t, "<p>>", openToken("p"), textToken(">"))
	checkPage(t, "a<b<c>d", textToken("a"), textToken("d"))
	checkPage(t, "<<p>", []impl.Token{}...)
	checkPage(t, "<p a=<b>x<p>", textToken("x"), openToken("p"))
	// What is not of the form of a tag has no token, and the texts beside it stay two.
	checkPage(t, "a<>b", textToken("a"), textToken("b"))
	checkPage(t, "a</>b</ p>c<p a>d<p a=b a=c>e", textToken("a"), textToken("b"), textToken("c"), textToken("d"), textToken("e"))
	checkPage(t, "<><><p><>", openToken("p"))
	// A tag that has begun and does not end has no token.
	checkPage(t, "<")
	checkPage(t, "a<", textToken("a"))
	checkPage(t, "a<p b=c", textToken("a"))
	checkPage(t, "<p>a<<", openToken("p"), textToken("a"))
	// Texts are the bytes that they are.
	checkPage(t, "\xff\x00é<p>\n\t\r<\xff>\x80", textToken("\xff\x00é"), openToken("p"), textToken("\n\t\r"), textToken("\x80"))
	checkPage(t, "&lt;<!--x-->&gt;", textToken("&lt;"), textToken("&gt;"))
}

// Pages are not limited here, neither in the number of their tokens nor in the length of a text.
func TestTokensOfLongPages(t *testing.T) {
	long := strings.Repeat("text ", 20000)
	checkPage(t, long, textToken(long))
	checkPage(t, long+"<p>", textToken(long), openToken("p"))
	checkPage(t, "a<"+long+">b", textToken("a"), textToken("b"))
	checkPage(t, "a<"+long, textToken("a"))
	checkPage(t, strings.Repeat("a<p>", 5000), slices.Repeat([]impl.Token{textToken("a"), openToken("p")}, 5000)...)
	checkPage(t, strings.Repeat("<>", 50000))
	checkPage(t, strings.Repeat("<", 50000))
	checkPage(t, strings.Repeat(">", 50000), textToken(strings.Repeat(">", 50000)))
}

func TestTokensOfPages(t *testing.T) {
	for _, page := range somePages {
		checkPage(t, page, tokensByForm(page)...)
	}
	for _, page := range allStrings("<>/p ", 6) {
		checkPage(t, page, tokensByForm(page)...)
	}
}

func TestFeedText(t *testing.T) {
	checkFed(t, "", "", "")
	checkFed(t, "", "hi", "hi")
	checkFed(t, "hi", "", "hi")
	checkFed(t, "hi", " you", "hi you")
	checkFed(t, "hi", "<", "<", textToken("hi"))
	checkFed(t, "hi ", "you<", "<", textToken("hi you"))
	checkFed(t, "", "hi<p", "<p", textToken("hi"))
	checkFed(t, "<p", ">x>y", "x>y", openToken("p"))
	checkFed(t, "<p", "", "<p")
	checkFed(t, "<", "p>", "", openToken("p"))
	checkFed(t, "<", "/p>x", "x", closeToken("p"))
	checkFed(t, "</", "p>", "", closeToken("p"))
	checkFed(t, "</p", ">", "", closeToken("p"))
	checkFed(t, "<", "p", "<p")
	checkFed(t, "<img src=c", "dn/logo>", "", openToken("img", attr("src", "cdn/logo")))
	checkFed(t, "<img src=cdn/logo", " digest=5><", "<", openToken("img", attr("src", "cdn/logo"), attr("digest", "5")))
	checkFed(t, "<what", "?>", "")
	checkFed(t, "<", ">", "")
	checkFed(t, "<", "<", "<<")
	checkFed(t, "<<", ">x", "x")
	checkFed(t, "<p", "<b>x<", "<", textToken("x"))
	checkFed(t, "a", ">", "a>")
	checkFed(t, "", ">", ">")
	checkFed(t, ">", "<", "<", textToken(">"))
	checkFed(t, "", "<p></p>", "", openToken("p"), closeToken("p"))
	checkFed(t, "", "a<p>b</p>c", "c", textToken("a"), openToken("p"), textToken("b"), closeToken("p"))
	checkFed(t, "\xc3", "\xa9<", "<", textToken("é"))
}

// A Rest that FeedText did not leave is taken like any other beginning.
func TestFeedTextWithTokensInRest(t *testing.T) {
	checkFed(t, "<p>", "", "", openToken("p"))
	checkFed(t, "a<p>b", "", "b", textToken("a"), openToken("p"))
	checkFed(t, "a<p>b</p>", "c<", "<", textToken("a"), openToken("p"), textToken("b"), closeToken("p"), textToken("c"))
	checkFed(t, "<p><b>x", "y", "xy", openToken("p"), openToken("b"))
	checkFed(t, "a<what?>b<", "p>", "", textToken("a"), textToken("b"), openToken("p"))
	checkFed(t, "<>", "", "")
	for _, page := range somePages {
		want, next := impl.FeedText(impl.Tokenizer{}, page)
		checkFed(t, page, "", next.Rest, want...)
		for i := range len(page) + 1 {
			checkFed(t, page[:i], page[i:], next.Rest, want...)
		}
	}
}

func TestEndText(t *testing.T) {
	checkEnd(t, "")
	checkEnd(t, "x", textToken("x"))
	checkEnd(t, "x>y", textToken("x>y"))
	checkEnd(t, " ", textToken(" "))
	checkEnd(t, "\xff", textToken("\xff"))
	checkEnd(t, ">", textToken(">"))
	checkEnd(t, "<")
	checkEnd(t, "<p")
	checkEnd(t, "<p a=b")
	checkEnd(t, "<<")
	// These never stay after FeedText; the document looks only at the first character.
	checkEnd(t, "<p>")
	checkEnd(t, "<p>x")
	checkEnd(t, "x<p>", textToken("x<p>"))
	checkEnd(t, "x<", textToken("x<"))
}

// After a FeedText, nothing complete stays: feeding nothing changes nothing.
func TestFeedTextTakesAllThatIsComplete(t *testing.T) {
	for _, page := range slices.Concat(somePages, allStrings("<>p", 7)) {
		_, next := impl.FeedText(impl.Tokenizer{}, page)
		checkFed(t, next.Rest, "", next.Rest)
		if !strings.HasSuffix(page, next.Rest) {
			t.Errorf("FeedText(%q) leaves %q", page, next.Rest)
		}
	}
}

func TestTokensDoNotDependOnPieces(t *testing.T) {
	for _, page := range somePages {
		want := tokensByForm(page)
		checkTokens(t, page+" byte by byte", fedTokens(strings.Split(page, "")...), want)
		for i := range len(page) + 1 {
			checkTokens(t, page[:i]+"|"+page[i:], fedTokens(page[:i], page[i:]), want)
			if len(page) > 100 {
				continue
			}
			for j := i; j <= len(page); j++ {
				checkTokens(t, page[:i]+"|"+page[i:j]+"|"+page[j:], fedTokens(page[:i], page[i:j], page[j:]), want)
			}
		}
	}
}

// Each byte is a piece, with empty pieces between them: before the page, after it, and inside of tags and characters.
func TestEmptyPiecesChangeNothing(t *testing.T) {
	for _, page := range somePages {
		pieces := []string{""}
		for i := range len(page) {
			pieces = append(pieces, page[i:i+1], "")
		}
		checkTokens(t, page+" with empty pieces", fedTokens(pieces...), tokensByForm(page))
	}
	checkTokens(t, "no piece", fedTokens(), nil)
	checkTokens(t, "empty pieces alone", fedTokens("", "", ""), nil)
}

func TestRandomPagesInRandomPieces(t *testing.T) {
	random := rand.New(rand.NewPCG(5, 5))
	parts := []string{"<", ">", "</", "/", " ", "=", "p", "b c", "text", "<p>", "</p>", "<img src=cdn/logo digest=5>", "<link href=main>", "<p a=1 b=2 c=3 d=4", " e=5", " a=9", "<what?>", "<>", "\xff", "é", longTag(60), longTag(61)}
	for range 2000 {
		var page strings.Builder
		for range random.IntN(30) {
			page.WriteString(parts[random.IntN(len(parts))])
		}
		rest := page.String()
		want := tokensByForm(rest)
		checkPage(t, rest, want...)
		var pieces []string
		for rest != "" {
			size := random.IntN(min(len(rest), 12) + 1)
			pieces, rest = append(pieces, rest[:size]), rest[size:]
		}
		checkTokens(t, strings.Join(pieces, "|"), fedTokens(pieces...), want)
	}
}

// Formatting the tokens of a page gives a page with the same tokens, if no two texts stand side by side.
func TestTokensOfInvertsFormatToken(t *testing.T) {
	for _, page := range somePages {
		var form strings.Builder
		before := 0
		var want []impl.Token
		for _, x := range impl.TokensOf(page) {
			if x.Kind == impl.TkText && before == impl.TkText {
				form.WriteString("<b>")
				want = append(want, openToken("b"))
			}
			form.WriteString(impl.FormatToken(x))
			want = append(want, x)
			before = x.Kind
		}
		checkPage(t, form.String(), want...)
	}
	// A page in which everything has a token is what its tokens are formatted as.
	page := "a<p a=1>b</p><img src=cdn/logo digest=5>c>d"
	var form string
	for _, x := range impl.TokensOf(page) {
		form += impl.FormatToken(x)
	}
	if form != page {
		t.Errorf("the tokens of %q are formatted as %q", page, form)
	}
}

func TestFindAttr(t *testing.T) {
	several := attrsOf("src", "cdn/logo", "digest", "5", "src", "other", "kind", "defer")
	odd := attrsOf("", "x", "a", "", "A", "B C", "a", "late")
	for _, c := range []struct {
		list []impl.Attr
		name string
		want string
		ok   bool
	}{
		{nil, "src", "", false}, {[]impl.Attr{}, "src", "", false}, {nil, "", "", false}, {[]impl.Attr{}, "", "", false},
		{several, "src", "cdn/logo", true}, {several, "digest", "5", true}, {several, "kind", "defer", true}, {several[1:], "src", "other", true},
		{several, "", "", false}, {several, "sr", "", false}, {several, "srcs", "", false}, {several, "SRC", "", false}, {several, "cdn/logo", "", false}, {several, "5", "", false},
		{several[:1], "digest", "", false}, {several[:0], "src", "", false},
		{odd, "", "x", true}, {odd, "a", "", true}, {odd, "A", "B C", true}, {odd, "B C", "", false}, {odd[2:], "a", "late", true},
		{make([]impl.Attr, 1), "", "", true}, {make([]impl.Attr, 1), "a", "", false},
	} {
		if got, ok := impl.FindAttr(c.list, c.name); got != c.want || ok != c.ok {
			t.Errorf("FindAttr(%v, %q) is %q, %t", c.list, c.name, got, ok)
		}
	}
}

func TestTokensLeaveArgumentsAlone(t *testing.T) {
	calls := map[string]func([]impl.Attr) []impl.Attr{
		"FindAttr":             func(l []impl.Attr) []impl.Attr { impl.FindAttr(l, "b"); return nil },
		"FindAttr of none":     func(l []impl.Attr) []impl.Attr { impl.FindAttr(l, "none"); return nil },
		"FormatToken of a tag": func(l []impl.Attr) []impl.Attr { impl.FormatToken(openToken("p", l...)); return nil },
		"FormatToken of an end tag": func(l []impl.Attr) []impl.Attr {
			impl.FormatToken(impl.Token{Kind: 2, Name: "p", Attrs: l})
			return nil
		},
		"FormatToken of a text": func(l []impl.Attr) []impl.Attr {
			impl.FormatToken(impl.Token{Kind: 3, Text: "x", Attrs: l})
			return nil
		},
		"FormatToken of another": func(l []impl.Attr) []impl.Attr { impl.FormatToken(impl.Token{Kind: 4, Attrs: l}); return nil },
	}
	for name, call := range calls {
		for _, l := range [][]impl.Attr{{}, attrsOf("a", "1"), attrsOf("b", "2", "a", "1"), attrsOf("a", "1", "a", "2"), attrsOf("d", "4", "c", "3", "b", "2", "a", "1"), make([]impl.Attr, 10)} {
			checkApart(t, name, l, attr("spare", "spare"), attr("other", "other"), call, attr("new", "new"))
		}
	}
}

// checkOwnMemory changes and extends one token after the other, and looks whether another one changes.
func checkOwnMemory(t *testing.T, what string, tokens []impl.Token) {
	t.Helper()
	for i := range tokens {
		before := copyTokens(tokens)
		_ = append(tokens[i].Attrs, attr("more", "more"))
		checkTokens(t, what+" after an append", tokens, before)
		overwrite(tokens[i].Attrs, attr("other", "other"))
		before[i] = tokens[i]
		checkTokens(t, what+" after a change", tokens, before)
	}
}

// No two tokens of a result have memory in common, and no two results have.
func TestTokensReturnNewMemory(t *testing.T) {
	page := "<p a=1 b=2><p a=1 b=2><p a=1 b=2 c=3 d=4><p><p></p><p a=1 b=2>x"
	calls := map[string]func() []impl.Token{
		"TokensOf": func() []impl.Token { return impl.TokensOf(page) },
		"FeedText": func() []impl.Token { tokens, _ := impl.FeedText(impl.Tokenizer{Rest: page}, page); return tokens },
		"EndText":  func() []impl.Token { return impl.EndText(impl.Tokenizer{Rest: "x"}) },
		"TagOf":    func() []impl.Token { x, _ := impl.TagOf("p a=1 b=2"); return []impl.Token{x} },
	}
	for name, call := range calls {
		first, second := call(), call()
		want := copyTokens(second)
		checkTokens(t, name, first, want)
		checkOwnMemory(t, name, first)
		overwrite(first, impl.Token{})
		checkTokens(t, name+" again", second, want)
		checkTokens(t, name+" anew", call(), want)
	}
}

// A tokenizer is a value: feeding it does not change it, so it may be fed twice.
func TestFeedTextLeavesTheTokenizerAlone(t *testing.T) {
	start := impl.Tokenizer{Rest: "a<p"}
	_, _ = impl.FeedText(start, ">b<")
	first, _ := impl.FeedText(start, " c=d>")
	second, next := impl.FeedText(start, " c=d>")
	checkTokens(t, "fed twice", first, second)
	checkTokens(t, "fed again", second, []impl.Token{textToken("a"), openToken("p", attr("c", "d"))})
	impl.EndText(next)
	if start.Rest != "a<p" || next.Rest != "" {
		t.Errorf("%q, %q", start.Rest, next.Rest)
	}
}
