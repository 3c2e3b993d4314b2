package tests

import (
	"fmt"
	"math"
	"math/rand/v2"
	"slices"
	"strings"
	"testing"

	"loop.example/g00586/impl"
)

func element(parent int, name string, attrs ...impl.Attr) impl.Node {
	return impl.Node{Name: name, Parent: parent, Attrs: attrs}
}

func textNode(parent int, text string) impl.Node {
	return impl.Node{Text: text, Parent: parent}
}

func builderOf(open []int, nodes ...impl.Node) impl.Builder {
	return impl.Builder{Nodes: nodes, Open: open}
}

// pageBuilder has these nodes after the root.
func pageBuilder(open []int, nodes ...impl.Node) impl.Builder {
	return builderOf(open, slices.Concat([]impl.Node{element(-1, "page")}, nodes)...)
}

// someBuilder has each sort of a node: elements with and without attributes, a void one, texts, and elements that are open and closed.
func someBuilder() impl.Builder {
	return pageBuilder([]int{0, 3, 5}, textNode(0, "a"), element(0, "p", attrsOf("a", "1", "b", "2")...), element(0, "b"), element(3, "img", attr("src", "x")), element(3, "p", attr("c", "3")), textNode(5, "d"))
}

// oddBuilders has builders that are not valid; functions are called on them all the same.
func oddBuilders() []impl.Builder {
	return []impl.Builder{{}, builderOf([]int{}, []impl.Node{}...), builderOf([]int{0}), builderOf([]int{0, 1, 2}), builderOf(nil, element(-1, "page")), builderOf([]int{}, element(-1, "page"), element(0, "p")),
		builderOf([]int{0}, impl.Node{}), builderOf([]int{0}, element(5, "p", attr("a", "b")), textNode(7, "x")), builderOf([]int{-1}, element(-1, "page")), builderOf([]int{1}, element(-1, "page")),
		pageBuilder([]int{0, -1}, element(0, "p")), pageBuilder([]int{0, 9}, element(0, "p")), pageBuilder([]int{math.MinInt, math.MaxInt}), pageBuilder([]int{1, 0}, element(0, "p")), pageBuilder([]int{0, 1, 1, 1}, element(0, "p")),
		pageBuilder([]int{0, 1}, textNode(0, "x")), pageBuilder([]int{0, 1}, element(0, "img")), pageBuilder([]int{0}, impl.Node{Name: "p", Text: "x", Parent: 3, Attrs: attrsOf("a", "1", "a", "2")}),
		pageBuilder(make([]int, 20)), pageBuilder([]int{0}, slices.Repeat([]impl.Node{element(0, "p", attr("a", "b"))}, 60)...)}
}

func copyBuilder(b impl.Builder) impl.Builder {
	c := builderOf(slices.Clone(b.Open), slices.Clone(b.Nodes)...)
	for i := range c.Nodes {
		c.Nodes[i].Attrs = slices.Clone(c.Nodes[i].Attrs)
	}
	return c
}

// sameNode does not use what it checks; nil and empty lists are the same.
func sameNode(x impl.Node, y impl.Node) bool {
	return x.Name == y.Name && x.Text == y.Text && x.Parent == y.Parent && slices.Equal(x.Attrs, y.Attrs)
}

func sameBuilder(a impl.Builder, b impl.Builder) bool {
	return slices.EqualFunc(a.Nodes, b.Nodes, sameNode) && slices.Equal(a.Open, b.Open)
}

func checkBuilder(t *testing.T, what string, got impl.Builder, want impl.Builder) {
	t.Helper()
	if !sameBuilder(got, want) {
		// Texts may be bytes that are no character, so all is quoted.
		t.Errorf("%q: %q, not %q", what, fmt.Sprintf("%+v", got), fmt.Sprintf("%+v", want))
	}
}

// checkAdded adds one token, which must come to these nodes and open elements, alone and in a list.
func checkAdded(t *testing.T, b impl.Builder, x impl.Token, want impl.Builder, wantNumber int) {
	t.Helper()
	what := fmt.Sprintf("%+v to %+v", x, b)
	got, n := impl.AddToken(b, x)
	checkBuilder(t, "AddToken "+what, got, want)
	if n != wantNumber {
		t.Errorf("AddToken %q is %d, not %d", what, n, wantNumber)
	}
	checkBuilder(t, "AddTokens "+what, impl.AddTokens(b, []impl.Token{x}), want)
}

// checkAppended adds a token that adds this node, and nothing else.
func checkAppended(t *testing.T, b impl.Builder, x impl.Token, want impl.Node) {
	t.Helper()
	checkAdded(t, b, x, builderOf(b.Open, slices.Concat(b.Nodes, []impl.Node{want})...), len(b.Nodes))
}

// checkOpened adds a token that adds this node and opens it.
func checkOpened(t *testing.T, b impl.Builder, x impl.Token, want impl.Node) {
	t.Helper()
	checkAdded(t, b, x, builderOf(slices.Concat(b.Open, []int{len(b.Nodes)}), slices.Concat(b.Nodes, []impl.Node{want})...), len(b.Nodes))
}

// checkClosed adds a token after which this number of elements is open.
func checkClosed(t *testing.T, b impl.Builder, x impl.Token, open int) {
	t.Helper()
	checkAdded(t, b, x, builderOf(b.Open[:open], b.Nodes...), -1)
}

func checkIgnored(t *testing.T, b impl.Builder, x impl.Token) {
	t.Helper()
	checkAdded(t, b, x, b, -1)
}

// checkTree builds a page from all of its tokens at once, one by one, and from two lists that are cut at every place.
func checkTree(t *testing.T, page string, want impl.Builder) {
	t.Helper()
	tokens := impl.TokensOf(page)
	checkBuilder(t, page, impl.AddTokens(impl.NewBuilder(), tokens), want)
	b := impl.NewBuilder()
	for i, x := range tokens {
		checkBuilder(t, page+" in two lists", impl.AddTokens(b, tokens[i:]), want)
		b, _ = impl.AddToken(b, x)
	}
	checkBuilder(t, page+" token by token", b, want)
	checkValid(t, page, want, true)
}

func checkValid(t *testing.T, what string, b impl.Builder, want bool) {
	t.Helper()
	if got := impl.IsBuilder(b); got != want {
		t.Errorf("%q: IsBuilder(%q) is %t", what, fmt.Sprintf("%+v", b), got)
	}
}

// chain has this number of open elements, the root included, one inside of the other.
func chain(size int) impl.Builder {
	b := pageBuilder([]int{0})
	for n := 1; n < size; n++ {
		b.Nodes = append(b.Nodes, element(n-1, "p"))
		b.Open = append(b.Open, n)
	}
	return b
}

// full has this number of nodes, the root included; the root alone is open.
func full(size int) impl.Builder {
	b := pageBuilder([]int{0})
	for len(b.Nodes) < size {
		b.Nodes = append(b.Nodes, textNode(0, "x"))
	}
	return b
}

func TestTreeConstants(t *testing.T) {
	if impl.MaxNodes != 40 || impl.MaxOpen != 8 {
		t.Error(impl.MaxNodes, impl.MaxOpen)
	}
}

func TestNewBuilder(t *testing.T) {
	b := impl.NewBuilder()
	if len(b.Nodes) != 1 || b.Nodes[0].Name != "page" || b.Nodes[0].Parent != -1 || b.Nodes[0].Text != "" || len(b.Nodes[0].Attrs) != 0 || !slices.Equal(b.Open, []int{0}) {
		t.Errorf("NewBuilder is %+v", b)
	}
	checkValid(t, "NewBuilder", b, true)
}

func TestIsVoid(t *testing.T) {
	for name, want := range map[string]bool{"img": true, "link": true, "": false, "p": false, "page": false, "script": false, "style": false, "im": false, "lin": false, "imgs": false, "links": false, "IMG": false, "Link": false,
		" img": false, "link ": false, "imglink": false, "image": false, "input": false, "br": false, "img\x00": false, "/img": false} {
		if got := impl.IsVoid(name); got != want {
			t.Errorf("IsVoid(%q) is %t", name, got)
		}
	}
}

func TestIsBuilder(t *testing.T) {
	twoAttrs := attrsOf("a", "1", "b", "2")
	for name, b := range map[string]impl.Builder{
		"the root alone": pageBuilder([]int{0}), "the root with empty attributes": builderOf([]int{0}, impl.Node{Name: "page", Parent: -1, Attrs: []impl.Attr{}}), "each sort": someBuilder(),
		"a text": pageBuilder([]int{0}, textNode(0, "x")), "a text with empty attributes": pageBuilder([]int{0}, impl.Node{Text: "x", Attrs: []impl.Attr{}}), "a text of markup": pageBuilder([]int{0}, textNode(0, "<p>\xff\x00")),
		"an element": pageBuilder([]int{0}, element(0, "p")), "an open element": pageBuilder([]int{0, 1}, element(0, "p")), "a page in the page": pageBuilder([]int{0, 1}, element(0, "page")),
		"the longest name": pageBuilder([]int{0}, element(0, "abcdefgh")), "attributes": pageBuilder([]int{0}, element(0, "p", twoAttrs...)), "void elements": pageBuilder([]int{0}, element(0, "img", twoAttrs...), element(0, "link")),
		"the second of two":                   pageBuilder([]int{0, 2}, element(0, "p"), element(0, "p")),
		"an element that was left":            pageBuilder([]int{0}, element(0, "p"), textNode(1, "x"), textNode(0, "y"), element(1, "b")),
		"open ones with others between":       pageBuilder([]int{0, 2, 5}, textNode(0, "x"), element(0, "p"), element(2, "b"), textNode(3, "x"), element(2, "i")),
		"a closed one inside of a closed one": pageBuilder([]int{0, 3}, element(0, "p"), element(1, "b"), element(0, "p")),
		// The document says nothing about the attributes of an element.
		"five attributes, two with one name": pageBuilder([]int{0}, element(0, "p", attrsOf("a", "1", "a", "2", "", "", "A B", "<", "e", "5")...)),
	} {
		checkValid(t, name, b, true)
	}
	for size := range 100 {
		checkValid(t, "nodes", full(size), size <= 40)
	}
	for size := 1; size < 20; size++ {
		checkValid(t, "open elements", chain(size), size <= 8)
	}
	whole := chain(20)
	for size := range 20 {
		checkValid(t, "the first open elements", builderOf(whole.Open[:size], whole.Nodes...), size >= 1 && size <= 8)
	}
}

func TestIsBuilderOfOddOnes(t *testing.T) {
	for _, b := range oddBuilders() {
		checkValid(t, "an odd one", b, false)
	}
}

func TestIsBuilderRejectsRoots(t *testing.T) {
	for _, root := range []impl.Node{{}, {Parent: -1}, {Parent: -1, Text: "x"}, {Name: "page"}, {Name: "page", Parent: -2}, {Name: "page", Parent: 1}, {Name: "page", Parent: math.MinInt}, {Name: "page", Parent: math.MaxInt},
		{Name: "p", Parent: -1}, {Name: "Page", Parent: -1}, {Name: "pages", Parent: -1}, {Name: "root", Parent: -1}, {Name: "img", Parent: -1}, {Name: "page", Parent: -1, Text: "x"}, {Name: "page", Parent: -1, Attrs: attrsOf("a", "b")}, {Name: "page", Parent: -1, Attrs: make([]impl.Attr, 1)}} {
		checkValid(t, "alone", builderOf([]int{0}, root), false)
		checkValid(t, "with nodes", builderOf([]int{0, 1}, root, element(0, "p"), textNode(0, "x")), false)
	}
}

func TestIsBuilderRejectsNodes(t *testing.T) {
	some := func(x impl.Node) impl.Builder {
		return pageBuilder([]int{0}, element(0, "p"), textNode(0, "x"), element(0, "img"), element(0, "link"), x, element(0, "b"))
	}
	reject := func(x impl.Node) {
		t.Helper()
		checkValid(t, "between others", some(x), false)
		checkValid(t, "the last one", pageBuilder([]int{0}, element(0, "p"), x), false)
	}
	for parent := -3; parent < 10; parent++ {
		checkValid(t, "parent of an element", some(element(parent, "p")), parent == 0 || parent == 1)
		checkValid(t, "parent of a text", some(textNode(parent, "y")), parent == 0 || parent == 1)
	}
	for _, parent := range []int{math.MinInt, math.MaxInt, math.MinInt + 5, -1 << 32, 1 << 32} {
		reject(element(parent, "p"))
		reject(textNode(parent, "y"))
	}
	for _, name := range notNames {
		reject(element(0, name)) // the empty name has no Text here
		if name != "" {
			reject(element(0, name, attr("a", "b")))
			reject(impl.Node{Name: name, Text: "y"})
		}
	}
	reject(impl.Node{})
	reject(impl.Node{Name: "p", Text: "y"})
	reject(impl.Node{Name: "img", Text: "y"})
	reject(impl.Node{Text: "y", Attrs: attrsOf("a", "b")})
	reject(impl.Node{Text: "y", Attrs: make([]impl.Attr, 1)})
	reject(impl.Node{Attrs: attrsOf("a", "b")})
	reject(impl.Node{Name: "p", Text: "y", Attrs: attrsOf("a", "b")})
	// Two nodes that are each other's Parent, and a node that is the Parent of an earlier one.
	checkValid(t, "a circle", pageBuilder([]int{0}, element(2, "p"), element(1, "p")), false)
	checkValid(t, "itself", pageBuilder([]int{0}, element(1, "p")), false)
	checkValid(t, "a later one", pageBuilder([]int{0}, textNode(2, "x"), element(0, "p")), false)
}

func TestIsBuilderRejectsOpen(t *testing.T) {
	nodes := []impl.Node{element(0, "p"), element(1, "b"), textNode(1, "x"), element(2, "img"), element(2, "link"), element(2, "i"), element(0, "p")}
	for _, open := range [][]int{{0}, {0, 1}, {0, 1, 2}, {0, 1, 2, 6}, {0, 7}} {
		checkValid(t, "a way down", pageBuilder(open, nodes...), true)
	}
	for _, open := range [][]int{nil, {}, {-1}, {1}, {2}, {7}, {8}, {1, 2}, {1, 0}, {-1, 0}, {-1, 0, 1}, {math.MinInt}, {math.MaxInt},
		{0, 0}, {0, 1, 0}, {0, 1, 1}, {0, 0, 1}, {0, 2}, {0, 6}, {0, 1, 6}, {0, 2, 1}, {0, 1, 2, 1}, {0, 1, 7}, {0, 7, 2}, {0, 1, 2, 6, 7},
		{0, 3}, {0, 1, 3}, {0, 1, 2, 4}, {0, 1, 2, 5}, {0, -1}, {0, 1, -1}, {0, 1, 2, -2}, {0, 8}, {0, 1, 8}, {0, 1, 2, math.MaxInt}, {0, math.MinInt}, {0, 1, 2, 6, 0, 0, 0, 0}} {
		checkValid(t, "no way down", pageBuilder(open, nodes...), false)
	}
}

func TestTreesOfPages(t *testing.T) {
	checkTree(t, "", pageBuilder([]int{0}))
	checkTree(t, "a", pageBuilder([]int{0}, textNode(0, "a")))
	checkTree(t, "<p>", pageBuilder([]int{0, 1}, element(0, "p")))
	checkTree(t, "<p></p>", pageBuilder([]int{0}, element(0, "p")))
	checkTree(t, "<p>a</p>b", pageBuilder([]int{0}, element(0, "p"), textNode(1, "a"), textNode(0, "b")))
	checkTree(t, "<p>a<b>c<img src=x></p>d</zoo></page>e", pageBuilder([]int{0}, element(0, "p"), textNode(1, "a"), element(1, "b"), textNode(3, "c"), element(3, "img", attr("src", "x")), textNode(0, "d"), textNode(0, "e")))
	checkTree(t, "<p a=1 b=2><i c=3>", pageBuilder([]int{0, 1, 2}, element(0, "p", attrsOf("a", "1", "b", "2")...), element(1, "i", attr("c", "3"))))
	checkTree(t, "<img><link href=main>a<p>", pageBuilder([]int{0, 4}, element(0, "img"), element(0, "link", attr("href", "main")), textNode(0, "a"), element(0, "p")))
	// Texts that stand side by side stay apart.
	checkTree(t, "a<what?>b<>c", pageBuilder([]int{0}, textNode(0, "a"), textNode(0, "b"), textNode(0, "c")))
	// A closing tag without an opening one adds and closes nothing.
	checkTree(t, "</p>", pageBuilder([]int{0}))
	checkTree(t, "</p></p>a</p>", pageBuilder([]int{0}, textNode(0, "a")))
	checkTree(t, "<p></p></p>a", pageBuilder([]int{0}, element(0, "p"), textNode(0, "a")))
	checkTree(t, "<p></b>a", pageBuilder([]int{0, 1}, element(0, "p"), textNode(1, "a")))
	checkTree(t, "<p><b></i>a", pageBuilder([]int{0, 1, 2}, element(0, "p"), element(1, "b"), textNode(2, "a")))
	checkTree(t, "<p><b></b></b>a", pageBuilder([]int{0, 1}, element(0, "p"), element(1, "b"), textNode(1, "a")))
	// One that closes several elements, and one whose Name is open twice.
	checkTree(t, "<p><b><i></p>a", pageBuilder([]int{0}, element(0, "p"), element(1, "b"), element(2, "i"), textNode(0, "a")))
	checkTree(t, "<p><b><i></b>a", pageBuilder([]int{0, 1}, element(0, "p"), element(1, "b"), element(2, "i"), textNode(1, "a")))
	checkTree(t, "<p><b></p></b>a", pageBuilder([]int{0}, element(0, "p"), element(1, "b"), textNode(0, "a")))
	checkTree(t, "<p><p></p>a", pageBuilder([]int{0, 1}, element(0, "p"), element(1, "p"), textNode(1, "a")))
	checkTree(t, "<p><b><p><i></p>a</p>b", pageBuilder([]int{0}, element(0, "p"), element(1, "b"), element(2, "p"), element(3, "i"), textNode(2, "a"), textNode(0, "b")))
	// The root is never closed, but an element with its Name is.
	checkTree(t, "<p></page>a", pageBuilder([]int{0, 1}, element(0, "p"), textNode(1, "a")))
	checkTree(t, "<page><b></page>a</page>b", pageBuilder([]int{0}, element(0, "page"), element(1, "b"), textNode(0, "a"), textNode(0, "b")))
	checkTree(t, "<page><page></page>a", pageBuilder([]int{0, 1}, element(0, "page"), element(1, "page"), textNode(1, "a")))
	// A void element is never open, so there is nothing to close.
	checkTree(t, "<p><img></img>a</link>b", pageBuilder([]int{0, 1}, element(0, "p"), element(1, "img"), textNode(1, "a"), textNode(1, "b")))
	checkTree(t, "<img></p><link></link><p></img>", pageBuilder([]int{0, 3}, element(0, "img"), element(0, "link"), element(0, "p")))
}

func TestAddTokensOfNone(t *testing.T) {
	for _, b := range append(oddBuilders(), pageBuilder([]int{0}), someBuilder()) {
		checkBuilder(t, "nil", impl.AddTokens(b, nil), b)
		checkBuilder(t, "an empty list", impl.AddTokens(b, []impl.Token{}), b)
		checkBuilder(t, "tokens without a kind", impl.AddTokens(b, make([]impl.Token, 5)), b)
	}
}

func TestAddOpeningTags(t *testing.T) {
	b := someBuilder()
	checkOpened(t, b, openToken("p"), element(5, "p"))
	checkOpened(t, b, openToken("page"), element(5, "page"))
	checkOpened(t, b, openToken("abcdefgh", attrsOf("d", "4", "c", "3", "b", "2", "a", "1")...), element(5, "abcdefgh", attrsOf("d", "4", "c", "3", "b", "2", "a", "1")...))
	checkOpened(t, b, impl.Token{Kind: 1, Name: "p", Attrs: []impl.Attr{}}, element(5, "p"))
	checkOpened(t, pageBuilder([]int{0}), openToken("p", attr("a", "b")), element(0, "p", attr("a", "b")))
	for _, name := range []string{"img", "link"} {
		checkAppended(t, b, openToken(name), element(5, name))
		checkAppended(t, b, openToken(name, attrsOf("src", "x", "digest", "5")...), element(5, name, attrsOf("src", "x", "digest", "5")...))
		checkAppended(t, pageBuilder([]int{0}), openToken(name), element(0, name))
	}
	checkOpened(t, b, openToken("image"), element(5, "image"))
}

func TestAddTexts(t *testing.T) {
	b := someBuilder()
	for _, text := range []string{"x", " ", "<p>", "</p>", "\n", "\x00\xff", "img", strings.Repeat("long ", 1000)} {
		checkAppended(t, b, textToken(text), textNode(5, text))
		checkAppended(t, pageBuilder([]int{0}), textToken(text), textNode(0, text))
	}
	checkIgnored(t, b, textToken(""))
	checkIgnored(t, pageBuilder([]int{0}), textToken(""))
}

func TestAddClosingTags(t *testing.T) {
	b := someBuilder() // b and p are open
	checkClosed(t, b, closeToken("p"), 2)
	checkClosed(t, b, closeToken("b"), 1)
	for _, name := range []string{"page", "img", "link", "zoo", "i", "", "P", "pp", "a", "d"} {
		checkIgnored(t, b, closeToken(name))
	}
	for _, name := range []string{"page", "p", "img", ""} {
		checkIgnored(t, pageBuilder([]int{0}), closeToken(name))
		checkIgnored(t, pageBuilder([]int{0}, element(0, "p"), element(0, "img")), closeToken(name)) // nothing is open any more
	}
	twice := pageBuilder([]int{0, 1, 2, 3, 4}, element(0, "p"), element(1, "b"), element(2, "p"), element(3, "i"))
	checkClosed(t, twice, closeToken("p"), 3)
	checkClosed(t, twice, closeToken("b"), 2)
	checkClosed(t, twice, closeToken("i"), 4)
	checkClosed(t, chain(8), closeToken("p"), 7)
	inner := pageBuilder([]int{0, 1, 2}, element(0, "page"), element(1, "b"))
	checkClosed(t, inner, closeToken("page"), 1)
}

// A token gives only what belongs to its kind.
func TestAddTokensWithOtherFields(t *testing.T) {
	all := impl.Token{Name: "p", Text: "text", Attrs: attrsOf("a", "1")}
	b := someBuilder()
	for kind, check := range map[int]func(impl.Token){
		1: func(x impl.Token) { checkOpened(t, b, x, element(5, "p", attr("a", "1"))) },
		2: func(x impl.Token) { checkClosed(t, b, x, 2) },
		3: func(x impl.Token) { checkAppended(t, b, x, textNode(5, "text")) },
	} {
		x := all
		x.Kind = kind
		check(x)
	}
	checkIgnored(t, b, impl.Token{Kind: 3, Name: "p", Attrs: attrsOf("a", "1")})
	checkIgnored(t, b, impl.Token{Kind: 2, Text: "p", Attrs: attrsOf("p", "p")})
	checkAppended(t, b, impl.Token{Kind: 1, Name: "img", Text: "text"}, element(5, "img"))
}

func TestAddTokensOfAnotherKind(t *testing.T) {
	for _, kind := range []int{0, 4, 5, 100, -1, -2, -3, 257, 258, 259, 1 << 32, 1<<62 + 1, math.MinInt, math.MaxInt} {
		for _, x := range []impl.Token{{}, {Name: "p"}, {Text: "text"}, {Name: "p", Text: "text", Attrs: attrsOf("a", "b")}} {
			x.Kind = kind
			checkIgnored(t, someBuilder(), x)
			checkIgnored(t, impl.NewBuilder(), x)
			checkIgnored(t, impl.Builder{}, x)
		}
	}
}

// The document asks for no name here, so a token that is no tag is added as it is; the builder is not valid then.
func TestAddOddTokens(t *testing.T) {
	b := someBuilder()
	for _, name := range notNames {
		checkOpened(t, b, openToken(name, attr("a", "b")), element(5, name, attr("a", "b")))
		opened := impl.AddTokens(b, []impl.Token{openToken(name)})
		checkValid(t, "no name", opened, false)
		checkClosed(t, opened, closeToken(name), 3)
		checkClosed(t, opened, closeToken("p"), 2)
	}
	five := attrsOf("a", "1", "a", "2", "", "", "A B", "<", "e", "5")
	checkOpened(t, b, openToken("p", five...), element(5, "p", five...))
}

func TestAddToTheLastNodes(t *testing.T) {
	for size := 38; size <= 45; size++ {
		b := full(size)
		b.Nodes[1] = element(0, "p", attr("a", "b"))
		b.Open = []int{0, 1}
		if size < 40 {
			checkOpened(t, b, openToken("b"), element(1, "b"))
			checkAppended(t, b, openToken("img", attr("a", "b")), element(1, "img", attr("a", "b")))
			checkAppended(t, b, textToken("y"), textNode(1, "y"))
		} else {
			checkIgnored(t, b, openToken("b"))
			checkIgnored(t, b, openToken("img", attr("a", "b")))
			checkIgnored(t, b, textToken("y"))
		}
		checkIgnored(t, b, textToken(""))
		checkIgnored(t, b, closeToken("b"))
		checkClosed(t, b, closeToken("p"), 1)
	}
	// What was not opened is not closed either: the tag closes the outer element.
	b := full(40)
	b.Nodes[1], b.Nodes[2], b.Open = element(0, "p"), element(1, "b"), []int{0, 1, 2}
	tokens := []impl.Token{openToken("p"), textToken("x"), closeToken("p"), textToken("x")}
	checkBuilder(t, "in the last element", impl.AddTokens(b, tokens), builderOf([]int{0}, b.Nodes...))
}

func TestAddToTheLastOpenElements(t *testing.T) {
	for size := 6; size <= 12; size++ {
		b := chain(size)
		if size < 8 {
			checkOpened(t, b, openToken("b", attr("a", "b")), element(size-1, "b", attr("a", "b")))
		} else {
			checkIgnored(t, b, openToken("b", attr("a", "b")))
			checkIgnored(t, b, openToken("page"))
		}
		checkAppended(t, b, openToken("img", attr("a", "b")), element(size-1, "img", attr("a", "b")))
		checkAppended(t, b, openToken("link"), element(size-1, "link"))
		checkAppended(t, b, textToken("x"), textNode(size-1, "x"))
		checkClosed(t, b, closeToken("p"), size-1)
		checkIgnored(t, b, closeToken("b"))
	}
	// An element that was ignored leaves its text to the one around it, and its closing tag to none or another.
	checkTree(t, "<a><b><c><d><e><f><g><h>x</h>y</g>z", pageBuilder([]int{0, 1, 2, 3, 4, 5, 6}, element(0, "a"), element(1, "b"), element(2, "c"), element(3, "d"), element(4, "e"), element(5, "f"), element(6, "g"), textNode(7, "x"), textNode(7, "y"), textNode(6, "z")))
	checkTree(t, strings.Repeat("<p>", 20)+"x"+strings.Repeat("</p>", 7)+"y</p>", builderOf([]int{0}, slices.Concat(chain(8).Nodes, []impl.Node{textNode(7, "x"), textNode(0, "y")})...))
	// There is room again as soon as one is closed.
	checkTree(t, strings.Repeat("<p>", 8)+"</p><b>", builderOf([]int{0, 1, 2, 3, 4, 5, 6, 8}, append(chain(8).Nodes, element(6, "b"))...))
	both := full(40)
	both.Nodes[1], both.Open = element(0, "p"), []int{0, 1, 1, 1, 1, 1, 1, 1}
	for _, x := range []impl.Token{openToken("p"), openToken("img"), textToken("x")} {
		checkIgnored(t, both, x)
	}
}

func TestAddWithoutOpenElements(t *testing.T) {
	tokens := []impl.Token{openToken("p"), openToken("img"), textToken("x"), textToken(""), closeToken("p"), closeToken("page"), closeToken(""), {}}
	for _, b := range []impl.Builder{{}, {Nodes: []impl.Node{}, Open: []int{}}, builderOf(nil, element(-1, "page")), builderOf([]int{}, element(-1, "page"), element(0, "p", attr("a", "b"))), builderOf(nil, full(45).Nodes...)} {
		for _, x := range tokens {
			checkIgnored(t, b, x)
		}
		checkBuilder(t, "all of them", impl.AddTokens(b, tokens), b)
	}
}

// Whatever the innermost number of Open is, it becomes the Parent.
func TestAddToOddOpenElements(t *testing.T) {
	for _, last := range []int{-1, -2, 1, 2, 3, 4, 9, 100, math.MinInt, math.MaxInt} {
		for _, open := range [][]int{{last}, {0, last}, {last, last}, {0, 1, last}, {5, -7, last}} {
			b := pageBuilder(open, element(0, "p"), textNode(0, "x"), element(0, "img"))
			checkOpened(t, b, openToken("b", attr("a", "b")), element(last, "b", attr("a", "b")))
			checkAppended(t, b, openToken("link"), element(last, "link"))
			checkAppended(t, b, textToken("y"), textNode(last, "y"))
			checkIgnored(t, b, closeToken("zoo"))
			checkIgnored(t, b, closeToken("page"))
		}
	}
	// Without nodes, a number of Open can name the node that comes.
	checkOpened(t, builderOf([]int{0}), openToken("p"), element(0, "p"))
	checkAppended(t, builderOf([]int{0, 3}), textToken("x"), textNode(3, "x"))
}

func TestCloseOddOpenElements(t *testing.T) {
	nodes := []impl.Node{element(0, "p"), textNode(0, "x"), element(0, "img"), element(0, "b")}
	for _, c := range []struct {
		open []int
		name string
		want int
	}{
		// The first element of Open always stays, whatever it is.
		{[]int{1}, "p", 1}, {[]int{1, 4}, "p", 2}, {[]int{1, 1}, "p", 1}, {[]int{4, 1, 0}, "b", 3}, {[]int{2, 1}, "", 2}, {[]int{-1, 1}, "p", 1}, {[]int{99, 99}, "p", 2},
		// Another one is closed by the Name that it has, whatever it is.
		{[]int{0, 0}, "page", 1}, {[]int{0, 1, 0}, "page", 2}, {[]int{0, 3}, "img", 1}, {[]int{0, 3, 4}, "img", 1}, {[]int{0, 2}, "", 1}, {[]int{0, 1, 2, 4}, "", 2}, {[]int{0, 4, 1}, "b", 1}, {[]int{0, 1, 1, 1}, "p", 3},
		// A number without a node has no Name, not even an empty one; it goes with what is around it.
		{[]int{0, -1}, "", 2}, {[]int{0, 5}, "", 2}, {[]int{0, -1, 5, math.MinInt, math.MaxInt}, "", 5}, {[]int{0, -1}, "page", 2}, {[]int{0, 5}, "b", 2},
		{[]int{0, 1, -1}, "p", 1}, {[]int{0, 1, 99, 4}, "p", 1}, {[]int{0, 99, 1, -7}, "p", 2}, {[]int{0, -1, 4, -1}, "b", 2}, {[]int{0, 2, 5}, "", 1}, {[]int{0, 5, 2, 5}, "", 2},
		// Open may have more elements than are allowed.
		{make([]int, 20), "page", 19}, {append(make([]int, 20), 1, 4), "p", 20}, {append(make([]int, 20), 1, 4), "img", 22},
	} {
		checkClosed(t, pageBuilder(c.open, nodes...), closeToken(c.name), c.want)
	}
	checkIgnored(t, builderOf([]int{0, 1, 2}), closeToken(""))
	checkIgnored(t, builderOf([]int{0, 1, 2}), closeToken("page"))
}

// treeModel builds a tree in another way: it keeps the names of the open elements beside their numbers.
type treeModel struct {
	nodes   []impl.Node
	names   []string
	numbers []int
}

func (m *treeModel) add(x impl.Token) int {
	number, depth := len(m.nodes), len(m.names)
	isVoid := x.Name == "img" || x.Name == "link"
	switch {
	case x.Kind == 2:
		slices.Reverse(m.names)
		// The innermost one comes first now, and the root last.
		if place := slices.Index(m.names[:depth-1], x.Name); place >= 0 {
			m.names, m.numbers = m.names[place+1:], m.numbers[:depth-place-1]
		}
		slices.Reverse(m.names)
		return -1
	case number == 40 || x.Kind == 3 && x.Text == "" || x.Kind == 1 && !isVoid && depth == 8:
		return -1
	case x.Kind == 3:
		m.nodes = append(m.nodes, textNode(m.numbers[depth-1], x.Text))
		return number
	}
	m.nodes = append(m.nodes, element(m.numbers[depth-1], x.Name, x.Attrs...))
	if !isVoid {
		m.names, m.numbers = append(m.names, x.Name), append(m.numbers, number)
	}
	return number
}

func (m *treeModel) builder() impl.Builder {
	return builderOf(m.numbers, m.nodes...)
}

func someTokens(random *rand.Rand, size int) []impl.Token {
	treeNames := []string{"p", "p", "b", "i", "page", "img", "link", "script", "abcdefgh"}
	var tokens []impl.Token
	for range size {
		name := treeNames[random.IntN(len(treeNames))]
		switch random.IntN(8) {
		case 0, 1, 2:
			tokens = append(tokens, openToken(name, attrsOf("a", "1", "b", "2", "c", "3", "d", "4")[:random.IntN(5)]...))
		case 3, 4, 5:
			tokens = append(tokens, closeToken(name))
		case 6:
			tokens = append(tokens, textToken(strings.Repeat("x", random.IntN(3))))
		case 7:
			tokens = append(tokens, impl.Token{Kind: 3, Text: "y", Name: name})
		}
	}
	return tokens
}

// Every token adds at most one node, which is the last one, and leaves the others as they were; a valid builder stays valid.
func TestTokensAddAtMostOneNode(t *testing.T) {
	random := rand.New(rand.NewPCG(6, 6))
	for range 1000 {
		m := treeModel{[]impl.Node{element(-1, "page")}, []string{"page"}, []int{0}}
		b := impl.NewBuilder()
		tokens := someTokens(random, random.IntN(150))
		for _, x := range tokens {
			want := m.add(x)
			next, n := impl.AddToken(b, x)
			if n != want || len(next.Nodes)-len(b.Nodes) > 1 || n >= 0 && n != len(b.Nodes) || n < 0 && len(next.Nodes) != len(b.Nodes) {
				t.Fatalf("AddToken(%+v, %+v) is %+v, %d, not %d", b, x, next, n, want)
			}
			checkBuilder(t, "the nodes that were there", builderOf(nil, next.Nodes[:len(b.Nodes)]...), builderOf(nil, b.Nodes...))
			checkBuilder(t, "a token", next, m.builder())
			checkValid(t, "a token", next, true)
			b = next
		}
		checkBuilder(t, "all tokens", impl.AddTokens(impl.NewBuilder(), tokens), b)
		cut := random.IntN(len(tokens) + 1)
		checkBuilder(t, "two lists", impl.AddTokens(impl.AddTokens(impl.NewBuilder(), tokens[:cut]), tokens[cut:]), b)
	}
}

// This holds for builders that are not valid, too.
func TestTokensAddAtMostOneNodeToOddBuilders(t *testing.T) {
	random := rand.New(rand.NewPCG(66, 6))
	for _, b := range oddBuilders() {
		tokens := append(someTokens(random, 200), closeToken(""), openToken(""), impl.Token{Kind: 7, Name: "p", Text: "x"})
		for _, x := range tokens {
			next, n := impl.AddToken(b, x)
			added := 0
			if n >= 0 {
				added = 1
			}
			if n >= 0 && n != len(b.Nodes) || n < -1 || len(next.Nodes) != len(b.Nodes)+added || len(next.Open) > len(b.Open)+added {
				t.Fatalf("AddToken(%+v, %+v) is %+v, %d", b, x, next, n)
			}
			checkBuilder(t, "the nodes that were there", builderOf(nil, next.Nodes[:len(b.Nodes)]...), builderOf(nil, b.Nodes...))
		}
		one := b
		for _, x := range tokens {
			one, _ = impl.AddToken(one, x)
		}
		checkBuilder(t, "all tokens", impl.AddTokens(b, tokens), one)
	}
}

func TestManyTokens(t *testing.T) {
	tokens := impl.TokensOf(strings.Repeat("<p a=1>x</p>", 5000))
	b := impl.AddTokens(impl.NewBuilder(), tokens)
	if len(b.Nodes) != 40 || impl.CountName(b, "p") != 20 || impl.CountName(b, "") != 19 || !slices.Equal(b.Open, []int{0}) {
		t.Errorf("%d nodes, open %v", len(b.Nodes), b.Open)
	}
	checkValid(t, "many tokens", b, true)
}

func checkText(t *testing.T, b impl.Builder, n int, want string) {
	t.Helper()
	if got := impl.TextOf(b, n); got != want {
		t.Errorf("TextOf(%q, %d) is %q, not %q", fmt.Sprintf("%+v", b), n, got, want)
	}
}

func TestTextOf(t *testing.T) {
	b := impl.AddTokens(impl.NewBuilder(), impl.TokensOf("a<p>b<i>c</i>d<img>e</p>f<what?>g<b></b>\xff\x00"))
	for n, want := range map[int]string{0: "afg\xff\x00", 2: "bde", 4: "c"} {
		checkText(t, b, n, want)
	}
	for n := -5; n < 60; n++ {
		if n != 0 && n != 2 && n != 4 {
			checkText(t, b, n, "")
		}
	}
	for _, n := range []int{math.MinInt, math.MaxInt, 1 << 32, -1 << 32} {
		checkText(t, b, n, "")
	}
	checkText(t, impl.NewBuilder(), 0, "")
	checkText(t, impl.NewBuilder(), -1, "") // the root is no text
	long := strings.Repeat("long ", 1000)
	checkText(t, pageBuilder([]int{0}, slices.Repeat([]impl.Node{textNode(0, long)}, 39)...), 0, strings.Repeat(long, 39))
}

func TestTextOfOddBuilders(t *testing.T) {
	for _, n := range []int{-1, -2, 0, 1, 5, 40, 99, math.MinInt, math.MaxInt} {
		checkText(t, impl.Builder{}, n, "")
		checkText(t, builderOf([]int{0}), n, "")
		// The texts may be before their Parent, beside others, or have none; the first node may be one of them.
		b := builderOf(nil, textNode(n, "a"), textNode(n+1, "b"), impl.Node{Name: "p", Text: "c", Parent: n}, textNode(n, ""), impl.Node{Text: "d", Parent: n, Attrs: attrsOf("a", "b")}, textNode(n-1, "e"), textNode(n, "f"))
		checkText(t, b, n, "adf")
		checkText(t, b, n+1, "b")
		checkText(t, b, n-1, "e")
	}
	checkText(t, pageBuilder([]int{0}, textNode(1, "itself"), textNode(1, " and another")), 1, "itself and another")
	checkText(t, pageBuilder([]int{0}, slices.Repeat([]impl.Node{textNode(0, "x")}, 100)...), 0, strings.Repeat("x", 100))
}

func checkCount(t *testing.T, b impl.Builder, name string, want int) {
	t.Helper()
	if got := impl.CountName(b, name); got != want {
		t.Errorf("CountName(%q, %q) is %d, not %d", fmt.Sprintf("%+v", b), name, got, want)
	}
}

func TestCountName(t *testing.T) {
	b := impl.AddTokens(impl.NewBuilder(), impl.TokensOf("a<p>b<i>p</i><img>e</p><p></p><p><page></page><img src=p>"))
	for name, want := range map[string]int{"p": 3, "i": 1, "img": 2, "page": 2, "": 4, "link": 0, "b": 0, "a": 0, "P": 0, "pp": 0, "pag": 0, "/p": 0, " ": 0} {
		checkCount(t, b, name, want)
	}
	checkCount(t, impl.NewBuilder(), "page", 1)
	checkCount(t, impl.NewBuilder(), "", 0)
	checkCount(t, full(40), "", 39)
}

func TestCountNameOfOddBuilders(t *testing.T) {
	checkCount(t, impl.Builder{}, "", 0)
	checkCount(t, impl.Builder{}, "page", 0)
	checkCount(t, builderOf([]int{0, 1, 2}), "", 0)
	checkCount(t, builderOf(nil, make([]impl.Node, 100)...), "", 100)
	odd := builderOf([]int{-1}, impl.Node{Text: "p"}, impl.Node{Name: "A b", Parent: 9}, impl.Node{Name: "A b", Text: "x", Parent: -9}, element(3, "p", attr("p", "p")))
	for name, want := range map[string]int{"A b": 2, "p": 1, "": 1, "A": 0, "x": 0, "page": 0} {
		checkCount(t, odd, name, want)
	}
}

func checkEqual(t *testing.T, what string, a impl.Builder, b impl.Builder, want bool) {
	t.Helper()
	if impl.EqualBuilders(a, b) != want || impl.EqualBuilders(b, a) != want {
		t.Errorf("%s: EqualBuilders(%+v, %+v) is %t, the other way round %t", what, a, b, impl.EqualBuilders(a, b), impl.EqualBuilders(b, a))
	}
}

func TestEqualBuilders(t *testing.T) {
	all := append(oddBuilders(), impl.NewBuilder(), someBuilder(), full(39), full(40), full(41), chain(7), chain(8))
	for i, a := range all {
		checkEqual(t, "itself", a, a, true)
		checkEqual(t, "its copy", a, copyBuilder(a), true)
		for j, b := range all {
			// The zero builder stands in the list of odd ones twice, as nil and as empty.
			checkEqual(t, "two builders", a, b, i == j || i < 2 && j < 2)
		}
	}
	checkEqual(t, "nil and empty", impl.Builder{}, impl.Builder{Nodes: []impl.Node{}, Open: []int{}}, true)
	checkEqual(t, "nil and empty attributes", pageBuilder([]int{0}, impl.Node{Name: "p", Attrs: []impl.Attr{}}), pageBuilder([]int{0}, impl.Node{Name: "p"}), true)
}

// Each change alone makes a difference, wherever it is.
func TestBuildersThatDifferInOneField(t *testing.T) {
	for i, change := range []func(*impl.Builder, int){
		func(b *impl.Builder, n int) { b.Nodes[n].Name += "x" }, func(b *impl.Builder, n int) { b.Nodes[n].Text += "x" }, func(b *impl.Builder, n int) { b.Nodes[n].Name, b.Nodes[n].Text = b.Nodes[n].Text, b.Nodes[n].Name },
		func(b *impl.Builder, n int) { b.Nodes[n].Parent++ }, func(b *impl.Builder, n int) { b.Nodes[n].Parent = math.MinInt }, func(b *impl.Builder, n int) { b.Nodes[n].Attrs = append(b.Nodes[n].Attrs, impl.Attr{}) },
		func(b *impl.Builder, n int) { b.Nodes = append(b.Nodes, b.Nodes[n]) }, func(b *impl.Builder, n int) { b.Nodes = slices.Delete(b.Nodes, n, n+1) }, func(b *impl.Builder, n int) { b.Nodes = b.Nodes[:n] },
		func(b *impl.Builder, n int) { b.Nodes = slices.Insert(b.Nodes, n, impl.Node{}) }, func(b *impl.Builder, n int) { b.Open = append(b.Open, n) }, func(b *impl.Builder, n int) { b.Open = b.Open[:n%3] },
		func(b *impl.Builder, n int) { b.Open[n%3]++ }, func(b *impl.Builder, n int) { b.Open[n%3] = -1 }, func(b *impl.Builder, n int) { slices.Reverse(b.Open) }, func(b *impl.Builder, n int) { b.Open = nil },
	} {
		for n := range someBuilder().Nodes {
			a, b := someBuilder(), someBuilder()
			change(&b, n)
			checkEqual(t, fmt.Sprintf("change %d of node %d", i, n), a, b, false)
		}
	}
	attrs := attrsOf("a", "1", "b", "2", "c", "3")
	for i, other := range [][]impl.Attr{nil, attrs[:2], attrs[1:], attrsOf("b", "2", "a", "1", "c", "3"), attrsOf("a", "1", "c", "3", "b", "2"), attrsOf("a", "1", "b", "2", "c", "4"), attrsOf("a", "1", "b", "2", "d", "3"), attrsOf("1", "a", "b", "2", "c", "3"),
		attrsOf("a", "1", "b", "2", "c", "3", "d", "4"), attrsOf("a", "1", "b", "2", "c", "3", "c", "3"), attrsOf("a", "2", "b", "1", "c", "3"), make([]impl.Attr, 3)} {
		checkEqual(t, fmt.Sprint("attributes ", i), pageBuilder([]int{0}, element(0, "p", attrs...), textNode(0, "x")), pageBuilder([]int{0}, element(0, "p", other...), textNode(0, "x")), false)
	}
	checkEqual(t, "the order of the nodes", pageBuilder([]int{0}, element(0, "p"), textNode(0, "x")), pageBuilder([]int{0}, textNode(0, "x"), element(0, "p")), false)
}

// roomyBuilder returns a builder all of whose slices have spare capacity, and a function that shows all of their memory.
func roomyBuilder(b impl.Builder) (impl.Builder, func() string) {
	spareNode := impl.Node{Name: "spare", Text: "spare", Parent: 77, Attrs: attrsOf("spare", "spare")}
	nodes, nodesMemory := roomy(copyBuilder(b).Nodes, spareNode)
	open, openMemory := roomy(b.Open, 77)
	attrsMemory := make([][]impl.Attr, len(nodes))
	for i := range nodes {
		nodes[i].Attrs, attrsMemory[i] = roomy(nodes[i].Attrs, attr("spare", "spare"))
	}
	return builderOf(open, nodes...), func() string { return fmt.Sprintf("%+v %+v %+v", nodesMemory, openMemory, attrsMemory) }
}

// roomyToken is the same for a token.
func roomyToken(x impl.Token) (impl.Token, func() string) {
	attrs, memory := roomy(x.Attrs, attr("spare", "spare"))
	x.Attrs = attrs
	return x, func() string { return fmt.Sprintf("%+v %+v", x, memory) }
}

// overwriteBuilder changes all that a builder reaches.
func overwriteBuilder(b impl.Builder) {
	for _, x := range b.Nodes {
		overwrite(x.Attrs, attr("other", "other"))
	}
	overwrite(b.Nodes, impl.Node{Name: "other", Text: "other", Parent: 88})
	overwrite(b.Open, 88)
}

// treeTokens has a token of each sort that adds, closes or does nothing.
var treeTokens = []impl.Token{openToken("p"), openToken("p", attrsOf("a", "1", "b", "2")...), openToken("img", attr("src", "x")), textToken("x"), textToken(""), {Kind: 3, Text: "x", Attrs: attrsOf("a", "1")},
	closeToken("p"), closeToken("b"), closeToken("zoo"), {Kind: 2, Name: "p", Attrs: attrsOf("a", "1")}, {}, {Kind: 4, Attrs: attrsOf("a", "1")}}

// checkTreeApart checks that call, which takes a builder and a token, neither changes their memory nor returns a part of it.
func checkTreeApart(t *testing.T, what string, b impl.Builder, x impl.Token, call func(impl.Builder, impl.Token) impl.Builder) {
	t.Helper()
	givenBuilder, builderMemory := roomyBuilder(b)
	givenToken, tokenMemory := roomyToken(x)
	before := builderMemory() + tokenMemory()
	got := call(givenBuilder, givenToken)
	if after := builderMemory() + tokenMemory(); after != before {
		t.Errorf("%s changed the memory of its arguments: %s, not %s", what, after, before)
	}
	want := copyBuilder(got)
	checkOwnNodes(t, what, copyHeads(got))
	overwriteBuilder(got)
	if after := builderMemory() + tokenMemory(); after != before {
		t.Errorf("%s returned memory of its arguments: %s, not %s", what, after, before)
	}
	got = call(givenBuilder, givenToken)
	overwriteBuilder(givenBuilder)
	overwrite(givenToken.Attrs, attr("other", "other"))
	checkBuilder(t, what+" after its arguments have changed", got, want)
}

// copyHeads copies the nodes, but not their attributes.
func copyHeads(b impl.Builder) impl.Builder {
	return builderOf(b.Open, slices.Clone(b.Nodes)...)
}

// checkOwnNodes changes and extends the attributes of one node after the other, and looks whether those of another one change.
func checkOwnNodes(t *testing.T, what string, b impl.Builder) {
	t.Helper()
	for n := range b.Nodes {
		want := copyBuilder(b)
		_ = append(b.Nodes[n].Attrs, attr("more", "more"))
		checkBuilder(t, what+" after an append", b, want)
		before := slices.Clone(b.Nodes[n].Attrs)
		overwrite(b.Nodes[n].Attrs, attr("other", "other"))
		want.Nodes[n].Attrs = b.Nodes[n].Attrs
		checkBuilder(t, what+" after a change", b, want)
		copy(b.Nodes[n].Attrs, before)
	}
}

func TestTreesLeaveArgumentsAlone(t *testing.T) {
	calls := map[string]func(impl.Builder, impl.Token) impl.Builder{
		"AddToken":            func(b impl.Builder, x impl.Token) impl.Builder { c, _ := impl.AddToken(b, x); return c },
		"AddTokens":           func(b impl.Builder, x impl.Token) impl.Builder { return impl.AddTokens(b, []impl.Token{x}) },
		"AddTokens of a list": func(b impl.Builder, x impl.Token) impl.Builder { return impl.AddTokens(b, []impl.Token{x, x, x}) },
		"AddTokens of none":   func(b impl.Builder, x impl.Token) impl.Builder { return impl.AddTokens(b, nil) },
		"IsBuilder":           func(b impl.Builder, x impl.Token) impl.Builder { impl.IsBuilder(b); return impl.Builder{} },
		"TextOf":              func(b impl.Builder, x impl.Token) impl.Builder { impl.TextOf(b, 5); return impl.Builder{} },
		"CountName":           func(b impl.Builder, x impl.Token) impl.Builder { impl.CountName(b, x.Name); return impl.Builder{} },
		"EqualBuilders":       func(b impl.Builder, x impl.Token) impl.Builder { impl.EqualBuilders(b, b); return impl.Builder{} },
	}
	for name, call := range calls {
		for _, b := range append(oddBuilders(), impl.NewBuilder(), someBuilder(), full(40), chain(8)) {
			for _, x := range treeTokens {
				checkTreeApart(t, name, b, x, call)
			}
		}
	}
}

// A list of tokens is an argument, too.
func TestAddTokensLeavesTheListAlone(t *testing.T) {
	tokens, memory := roomy(copyTokens(treeTokens), textToken("spare"))
	before := copyTokens(memory)
	got := impl.AddTokens(someBuilder(), tokens)
	checkTokens(t, "the list", memory, before)
	want := copyBuilder(got)
	for _, x := range tokens {
		overwrite(x.Attrs, attr("other", "other"))
	}
	overwrite(memory, impl.Token{})
	checkBuilder(t, "after the list has changed", got, want)
	again := impl.AddTokens(someBuilder(), before[:len(tokens)])
	overwriteBuilder(again)
	checkTokens(t, "the list", before[:len(tokens)], treeTokens)
}

// A token may be added twice, and two nodes of an argument may have one list of attributes: what is returned has two.
func TestTreesReturnNewMemory(t *testing.T) {
	attrs := attrsOf("a", "1", "b", "2")
	x := openToken("p", attrs...)
	b := impl.AddTokens(pageBuilder([]int{0}, element(0, "b", attrs...), element(0, "i", attrs...)), []impl.Token{x, x, openToken("img", attrs...)})
	want := copyBuilder(b)
	checkOwnNodes(t, "one list of attributes", copyHeads(b))
	for n := 1; n < 6; n++ {
		if !slices.Equal(want.Nodes[n].Attrs, attrs) {
			t.Errorf("node %d has %v", n, want.Nodes[n].Attrs)
		}
	}
	// Two builders that come from one do not see one another's nodes and open elements.
	start, _ := roomyBuilder(someBuilder())
	first, _ := impl.AddToken(start, openToken("p", attr("a", "1")))
	second, _ := impl.AddToken(start, openToken("b", attr("b", "2")))
	third, _ := impl.AddToken(start, closeToken("p"))
	fourth, _ := impl.AddToken(third, openToken("i"))
	_ = append(third.Open, 99)
	checkBuilder(t, "the first", first, builderOf([]int{0, 3, 5, 7}, append(someBuilder().Nodes, element(5, "p", attr("a", "1")))...))
	checkBuilder(t, "the second", second, builderOf([]int{0, 3, 5, 7}, append(someBuilder().Nodes, element(5, "b", attr("b", "2")))...))
	checkBuilder(t, "the third", third, builderOf([]int{0, 3}, someBuilder().Nodes...))
	checkBuilder(t, "the fourth", fourth, builderOf([]int{0, 3, 7}, append(someBuilder().Nodes, element(3, "i"))...))
	checkBuilder(t, "the start", start, someBuilder())
	one, two := impl.NewBuilder(), impl.NewBuilder()
	overwriteBuilder(one)
	checkBuilder(t, "the second new builder", two, pageBuilder([]int{0}))
	checkBuilder(t, "another new builder", impl.NewBuilder(), pageBuilder([]int{0}))
}
