package tests

import (
	"fmt"
	"math"
	"math/rand/v2"
	"regexp"
	"slices"
	"strconv"
	"strings"
	"testing"

	"loop.example/g00586/impl"
)

var ruleForm = regexp.MustCompile(`^([a-z]{1,8}):([1-9][0-9]{0,2})$`)

func rule(name string, color int) impl.Rule {
	return impl.Rule{Name: name, Color: color}
}

func sheet(rules ...impl.Rule) impl.Sheet {
	return impl.Sheet{Rules: rules}
}

// someSheets has sheets that ParseSheet returns: without rules, with one and with several, with a Name twice in one and in several, and with MaxRules rules.
func someSheets() []impl.Sheet {
	return []impl.Sheet{sheet(), sheet(rule("p", 7)), sheet(rule("p", 7), rule("b", 999), rule("p", 8)), sheet(rule("b", 5), rule("page", 3)), sheet(rule("zoo", 1), rule("img", 2)), sheet(rule("p", 8)), sheet(rule("page", 4), rule("i", 6), rule("b", 1)),
		sheet(rule("h", 8), rule("g", 7), rule("f", 6), rule("e", 5), rule("d", 4), rule("c", 3), rule("b", 2), rule("a", 1)), sheet(slices.Repeat([]impl.Rule{rule("p", 9)}, 8)...)}
}

// oddSheets has sheets that no ParseSheet returns; functions are called on them all the same.
func oddSheets() []impl.Sheet {
	return []impl.Sheet{sheet(rule("p", 0)), sheet(rule("p", -1), rule("b", 1000), rule("page", math.MinInt)), sheet(rule("", 5)), sheet(rule("", 0), rule("A b", 7), rule("p", 3)), sheet(rule("b", 2), rule("b", 0)), sheet(make([]impl.Rule, 3)...),
		sheet(rule("abcdefghi", math.MaxInt), rule("\xff", 4), rule("a:1;b", 6)), sheet(slices.Repeat([]impl.Rule{rule("p", 1), rule("b", 2), rule("page", 3)}, 9)...)}
}

// sheetLists has lists of no sheet, of one, and of several in different orders, with valid and with odd ones.
func sheetLists() [][]impl.Sheet {
	lists := [][]impl.Sheet{nil, {}, make([]impl.Sheet, 4), someSheets(), oddSheets(), slices.Concat(someSheets(), oddSheets()), slices.Concat(oddSheets(), someSheets()), manyNames(60)}
	all := slices.Concat(someSheets(), oddSheets())
	for i, x := range all {
		lists = append(lists, []impl.Sheet{x}, []impl.Sheet{x, all[(i+1)%len(all)]}, []impl.Sheet{all[(i+5)%len(all)], {}, x})
	}
	backwards := slices.Clone(all)
	slices.Reverse(backwards)
	return append(lists, backwards)
}

// manyNames has rules for this number of Names, more than one sheet may have, from the last Name to the first.
func manyNames(count int) []impl.Sheet {
	l := []impl.Sheet{{}}
	for i := count - 1; i >= 0; i-- {
		if len(l[len(l)-1].Rules) == 8 {
			l = append(l, sheet())
		}
		last := &l[len(l)-1]
		last.Rules = append(last.Rules, rule(numberedName(i), i+1))
	}
	return l
}

// numberedName returns names in ascending order.
func numberedName(i int) string {
	return "n" + string(rune('a'+i/26)) + string(rune('a'+i%26))
}

func copySheets(l []impl.Sheet) []impl.Sheet {
	c := slices.Clone(l)
	for i := range c {
		c[i].Rules = slices.Clone(c[i].Rules)
	}
	return c
}

// The checks of styles end a test at the first failure: what they print may be long, and they are called very often.

// sameSheet does not use what it checks; nil and empty lists are the same.
func sameSheet(x impl.Sheet, y impl.Sheet) bool {
	return slices.Equal(x.Rules, y.Rules)
}

func checkSheet(t *testing.T, what string, got impl.Sheet, want impl.Sheet) {
	t.Helper()
	if !sameSheet(got, want) {
		// Names may be bytes that are no character, so all is quoted.
		t.Fatalf("%q: %q, not %q", what, fmt.Sprintf("%+v", got), fmt.Sprintf("%+v", want))
	}
}

func checkParsedSheet(t *testing.T, s string, want ...impl.Rule) {
	t.Helper()
	checkSheet(t, "ParseSheet("+s+")", impl.ParseSheet(s), sheet(want...))
}

func checkSheetForm(t *testing.T, x impl.Sheet, want string) {
	t.Helper()
	if got := impl.FormatSheet(x); got != want {
		t.Fatalf("FormatSheet(%q) is %q, not %q", fmt.Sprintf("%+v", x), got, want)
	}
}

func checkColor(t *testing.T, l []impl.Sheet, name string, want int) {
	t.Helper()
	if got := impl.ColorOf(l, name); got != want {
		t.Fatalf("ColorOf(%q, %q) is %d, not %d", fmt.Sprintf("%+v", l), name, got, want)
	}
}

func checkColorAt(t *testing.T, l []impl.Sheet, b impl.Builder, n int, want int) {
	t.Helper()
	if got := impl.ColorAt(l, b, n); got != want {
		t.Fatalf("ColorAt(%q, %q, %d) is %d, not %d", fmt.Sprintf("%+v", l), fmt.Sprintf("%+v", b), n, got, want)
	}
}

// checkColors has the colors of all nodes; there is no node beyond them.
func checkColors(t *testing.T, l []impl.Sheet, b impl.Builder, want ...int) {
	t.Helper()
	for n, color := range want {
		checkColorAt(t, l, b, n, color)
	}
	for _, n := range []int{-1, -2, len(want), len(want) + 1, math.MinInt, math.MaxInt, -1 << 32, 1 << 32} {
		checkColorAt(t, l, b, n, 0)
	}
}

func checkJoined(t *testing.T, l []impl.Sheet, want ...impl.Rule) {
	t.Helper()
	checkSheet(t, fmt.Sprintf("JoinSheets(%+v)", l), impl.JoinSheets(l), sheet(want...))
}

// sheetByForm takes the rules by the form that the document gives.
func sheetByForm(s string) impl.Sheet {
	x := sheet()
	for _, part := range strings.Split(s, ";") {
		if words := ruleForm.FindStringSubmatch(part); words != nil && len(x.Rules) < 8 {
			color, _ := strconv.Atoi(words[2])
			x.Rules = append(x.Rules, rule(words[1], color))
		}
	}
	return x
}

// lastColor looks for a Name from the end.
func lastColor(l []impl.Sheet, name string) int {
	for i := len(l) - 1; i >= 0; i-- {
		for k := len(l[i].Rules) - 1; k >= 0; k-- {
			if l[i].Rules[k].Name == name {
				return l[i].Rules[k].Color
			}
		}
	}
	return 0
}

// colorOnTheWay looks at this number of nodes at most.
func colorOnTheWay(l []impl.Sheet, b impl.Builder, n int, nodes int) int {
	if nodes == 0 || n < 0 || n >= len(b.Nodes) {
		return 0
	}
	if color := lastColor(l, b.Nodes[n].Name); color != 0 {
		return color
	}
	return colorOnTheWay(l, b, b.Nodes[n].Parent, nodes-1)
}

// namesOf has all Names that occur, each of them once and in ascending order.
func namesOf(l []impl.Sheet) []string {
	var all []string
	for _, x := range l {
		for _, r := range x.Rules {
			all = append(all, r.Name)
		}
	}
	slices.Sort(all)
	return slices.Compact(all)
}

func joinedByName(l []impl.Sheet) impl.Sheet {
	x := sheet()
	for _, name := range namesOf(l) {
		x.Rules = append(x.Rules, rule(name, lastColor(l, name)))
	}
	return x
}

func TestStyleConstants(t *testing.T) {
	if impl.MaxRules != 8 {
		t.Error(impl.MaxRules)
	}
}

func TestParseSheet(t *testing.T) {
	checkParsedSheet(t, "p:7", rule("p", 7))
	checkParsedSheet(t, "p:1", rule("p", 1))
	checkParsedSheet(t, "p:999", rule("p", 999))
	checkParsedSheet(t, "p:7;b:8", rule("p", 7), rule("b", 8))
	checkParsedSheet(t, "b:8;p:7", rule("b", 8), rule("p", 7)) // in order, not sorted
	checkParsedSheet(t, "p:7;b:0;P:1;b:999;p:8;;c", rule("p", 7), rule("b", 999), rule("p", 8))
	checkParsedSheet(t, "p:9;b:8", rule("p", 9), rule("b", 8))
	checkParsedSheet(t, "p:7;p:7;p:7", rule("p", 7), rule("p", 7), rule("p", 7)) // rules may be the same
	checkParsedSheet(t, "p:7;p:8;p:7", rule("p", 7), rule("p", 8), rule("p", 7))
	checkParsedSheet(t, "page:100;img:20;link:3;abcdefgh:450", rule("page", 100), rule("img", 20), rule("link", 3), rule("abcdefgh", 450))
	for _, name := range names {
		checkParsedSheet(t, name+":7", rule(name, 7))
	}
}

// Only these colors are in the range.
func TestParseSheetOfColors(t *testing.T) {
	for color := -20; color <= 2000; color++ {
		s := "p:" + strconv.Itoa(color)
		if color >= 1 && color <= 999 {
			checkParsedSheet(t, s, rule("p", color))
			checkParsedSheet(t, "p:0"+strconv.Itoa(color))
		} else {
			checkParsedSheet(t, s)
		}
	}
}

// notRules has parts of another form.
func notRules() []string {
	parts := []string{"", "p", "7", "p7", "p 7", "p=7", "p,7", ":", "::", ":7", "p:", "p::", "p::7", ":p:7", "p:7:", "p:7:8", "p:7:b", "p:b:7", "p:7:b:8", "7:p", "7:7", "p:b", "P:7", "a1:7",
		"p: 7", "p :7", " p:7", "p:7 ", "p:7\n", "\np:7", "p:\t7", "p:7\x00", "\x00p:7", "p:7,b:8", "p:7 b:8", "p：7", "p:７", "p:٧", "p:seven"}
	for _, color := range []string{"+7", "-7", "--7", "-0", "+0", "07", "007", "0007", "00", "0", "000", "1000", "1001", "9999", "1000000000000", "1000000000001", "9223372036854775807", "9223372036854775808", "18446744073709551623", strings.Repeat("9", 100),
		"7.0", "7.", ".7", "0x7", "7e0", "1e2", "1_0", "#7", "7px", "?"} {
		parts = append(parts, "p:"+color)
	}
	for _, name := range notNames {
		parts = append(parts, name+":7")
	}
	return parts
}

func TestParseSheetLeavesOtherPartsOut(t *testing.T) {
	for _, part := range notRules() {
		checkParsedSheet(t, part)
		checkParsedSheet(t, part+";"+part)
		checkParsedSheet(t, part+";p:8;b:9", rule("p", 8), rule("b", 9))
		checkParsedSheet(t, "p:8;"+part+";b:9", rule("p", 8), rule("b", 9))
		checkParsedSheet(t, "p:8;b:9;"+part, rule("p", 8), rule("b", 9))
	}
	checkParsedSheet(t, strings.Join(notRules(), ";"))
	for size := range 20 {
		checkParsedSheet(t, strings.Repeat(";", size))
		checkParsedSheet(t, strings.Repeat(":", size))
		checkParsedSheet(t, strings.Repeat(":;", size))
		checkParsedSheet(t, strings.Repeat(";", size)+"p:7"+strings.Repeat(";", size), rule("p", 7))
	}
}

func TestParseSheetOfShortStrings(t *testing.T) {
	for _, s := range allStrings("p1:;", 7) {
		checkSheet(t, s, impl.ParseSheet(s), sheetByForm(s))
	}
	for _, s := range allStrings("09", 4) {
		checkSheet(t, "p:"+s, impl.ParseSheet("p:"+s), sheetByForm("p:"+s))
	}
}

// The first MaxRules rules are taken; parts of another form do not count.
func TestParseSheetOfManyRules(t *testing.T) {
	var parts []string
	var rules []impl.Rule
	for i := range 12 {
		parts = append(parts, numberedName(i)+":"+strconv.Itoa(i+1))
		rules = append(rules, rule(numberedName(i), i+1))
	}
	for count := range len(parts) + 1 {
		want := rules[:min(count, 8)]
		checkParsedSheet(t, strings.Join(parts[:count], ";"), want...)
		for place := range count + 1 {
			for _, part := range []string{"", "p", "p:0", "P:7", "p:7:7", ";;;"} {
				checkParsedSheet(t, strings.Join(slices.Insert(slices.Clone(parts[:count]), place, part), ";"), want...)
				checkParsedSheet(t, strings.Join(slices.Insert(slices.Clone(parts[:count]), place, slices.Repeat([]string{part}, 20)...), ";"), want...)
			}
		}
	}
	// A rule for a Name that has one already counts, and beyond the limit it is left out like the others.
	checkParsedSheet(t, strings.Repeat("p:7;", 8)+"b:8", slices.Repeat([]impl.Rule{rule("p", 7)}, 8)...)
	checkParsedSheet(t, "p:1;"+strings.Repeat("b:2;", 7)+"p:9", append([]impl.Rule{rule("p", 1)}, slices.Repeat([]impl.Rule{rule("b", 2)}, 7)...)...)
	checkParsedSheet(t, strings.Repeat("p:7;", 100000), slices.Repeat([]impl.Rule{rule("p", 7)}, 8)...)
	checkParsedSheet(t, strings.Repeat("p:0;", 100000)+"p:7", rule("p", 7))
}

func TestParseSheetOfRandomTexts(t *testing.T) {
	random := rand.New(rand.NewPCG(7, 7))
	parts := append(notRules(), "p:7", "b:1", "page:999", "img:10", "abcdefgh:500", "p:8", "a:100", "zoo:99")
	for range 3000 {
		var s strings.Builder
		for range random.IntN(20) {
			if random.IntN(3) > 0 {
				s.WriteString(parts[len(parts)-1-random.IntN(8)])
			} else {
				s.WriteString(parts[random.IntN(len(parts))])
			}
			s.WriteString(strings.Repeat(";", min(random.IntN(12), 2)))
		}
		checkSheet(t, s.String(), impl.ParseSheet(s.String()), sheetByForm(s.String()))
	}
}

func TestFormatSheet(t *testing.T) {
	checkSheetForm(t, impl.Sheet{}, "")
	checkSheetForm(t, impl.Sheet{Rules: []impl.Rule{}}, "")
	checkSheetForm(t, sheet(rule("p", 7)), "p:7")
	checkSheetForm(t, sheet(rule("p", 1), rule("abcdefgh", 999)), "p:1;abcdefgh:999")
	checkSheetForm(t, sheet(rule("p", 7), rule("b", 100), rule("p", 7)), "p:7;b:100;p:7")
	checkSheetForm(t, sheet(rule("h", 1), rule("g", 2), rule("f", 3), rule("e", 4), rule("d", 5), rule("c", 6), rule("b", 7), rule("a", 8)), "h:1;g:2;f:3;e:4;d:5;c:6;b:7;a:8")
}

func TestFormatOddSheets(t *testing.T) {
	checkSheetForm(t, sheet(rule("p", 0)), "p:0")
	checkSheetForm(t, sheet(rule("p", -5), rule("b", 1000)), "p:-5;b:1000")
	checkSheetForm(t, sheet(rule("p", math.MinInt), rule("p", math.MaxInt)), "p:-9223372036854775808;p:9223372036854775807")
	checkSheetForm(t, sheet(rule("", 5)), ":5")
	checkSheetForm(t, sheet(rule("", 5), rule("p", 6), rule("", 7)), ":5;p:6;:7")
	checkSheetForm(t, sheet(make([]impl.Rule, 3)...), ":0;:0;:0")
	checkSheetForm(t, sheet(rule("A b", 1), rule("\xff;:", 2), rule("abcdefghi", 3)), "A b:1;\xff;::2;abcdefghi:3")
	for count := 1; count < 30; count++ {
		checkSheetForm(t, sheet(slices.Repeat([]impl.Rule{rule("p", 7)}, count)...), strings.Repeat("p:7;", count-1)+"p:7")
	}
}

func TestParseSheetInvertsFormatSheet(t *testing.T) {
	for _, x := range someSheets() {
		checkSheet(t, "ParseSheet of FormatSheet", impl.ParseSheet(impl.FormatSheet(x)), x)
	}
	for _, s := range []string{"", "p:7", "p:7;b:999;p:8", "h:1;g:2;f:3;e:4;d:5;c:6;b:7;a:8"} {
		checkSheetForm(t, impl.ParseSheet(s), s)
	}
	checkSheetForm(t, impl.ParseSheet(";;p:7;x;b:0;;c:10;"), "p:7;c:10")
}

func TestColorOf(t *testing.T) {
	first, second := sheet(rule("p", 7), rule("b", 999), rule("p", 8), rule("i", 1)), sheet(rule("b", 5), rule("page", 3))
	for _, c := range []struct {
		list []impl.Sheet
		want map[string]int
	}{
		{nil, map[string]int{"p": 0, "": 0}}, {[]impl.Sheet{}, map[string]int{"p": 0, "": 0}}, {make([]impl.Sheet, 5), map[string]int{"p": 0, "": 0}},
		{[]impl.Sheet{first}, map[string]int{"p": 8, "b": 999, "i": 1, "page": 0, "": 0, "P": 0, "pa": 0, "pp": 0, " p": 0, "p:7": 0}},
		{[]impl.Sheet{second}, map[string]int{"p": 0, "b": 5, "page": 3, "pag": 0, "pages": 0}},
		{[]impl.Sheet{first, second}, map[string]int{"p": 8, "b": 5, "i": 1, "page": 3, "c": 0}},
		{[]impl.Sheet{second, first}, map[string]int{"p": 8, "b": 999, "i": 1, "page": 3, "c": 0}},
		{[]impl.Sheet{{}, first, {}, second, {}, {}}, map[string]int{"p": 8, "b": 5, "i": 1, "page": 3}},
		{[]impl.Sheet{first, second, first}, map[string]int{"p": 8, "b": 999, "i": 1, "page": 3}},
		{[]impl.Sheet{sheet(rule("p", 9)), sheet(rule("p", 2)), sheet(rule("p", 5))}, map[string]int{"p": 5}},
		// The last sheet that has one: the rules in it may be fewer and less than those before.
		{[]impl.Sheet{sheet(rule("p", 9), rule("p", 9), rule("p", 9)), sheet(rule("p", 1), rule("b", 2))}, map[string]int{"p": 1, "b": 2}},
	} {
		for name, want := range c.want {
			checkColor(t, c.list, name, want)
		}
	}
}

// A rule of a Name that no element bears is one like others.
func TestColorOfUnknownElements(t *testing.T) {
	l := []impl.Sheet{sheet(rule("unknown", 7), rule("zzzzzzzz", 8)), sheet(rule("nothing", 9), rule("unknown", 6))}
	for name, want := range map[string]int{"unknown": 6, "zzzzzzzz": 8, "nothing": 9, "page": 0, "p": 0} {
		checkColor(t, l, name, want)
	}
	b := impl.AddTokens(impl.NewBuilder(), impl.TokensOf("a<p>b"))
	checkColors(t, l, b, 0, 0, 0, 0)
	checkColors(t, append(l, sheet(rule("p", 1))), b, 0, 0, 1, 1)
	checkJoined(t, l, rule("nothing", 9), rule("unknown", 6), rule("zzzzzzzz", 8))
}

// The Color of the last rule counts, whatever it is.
func TestColorOfOddSheets(t *testing.T) {
	before := sheet(rule("p", 7), rule("", 6), rule("b", 5))
	for _, color := range []int{0, -1, -7, 1000, 1001, math.MinInt, math.MaxInt, 1 << 32, -1 << 32} {
		for _, name := range []string{"p", "", "A b", "abcdefghi", "\xff", ";:"} {
			odd := sheet(rule(name, color))
			checkColor(t, []impl.Sheet{odd}, name, color)
			checkColor(t, []impl.Sheet{before, odd, {}}, name, color)
			checkColor(t, []impl.Sheet{sheet(rule(name, 3), rule(name, color))}, name, color)
			checkColor(t, []impl.Sheet{odd, before, sheet(rule(name, 3))}, name, 3)
			checkColor(t, []impl.Sheet{before, odd}, "b", 5)
		}
	}
	// All rules of a sheet count, also beyond MaxRules.
	for count := 1; count < 30; count++ {
		rules := slices.Concat(slices.Repeat([]impl.Rule{rule("p", 1)}, count), []impl.Rule{rule("b", 2), rule("p", 3)})
		checkColor(t, []impl.Sheet{sheet(rules...)}, "p", 3)
		checkColor(t, []impl.Sheet{sheet(rules[:count+1]...)}, "b", 2)
	}
	checkColor(t, slices.Repeat([]impl.Sheet{sheet(rule("p", 1)), sheet(rule("b", 2))}, 1000), "p", 1)
}

func TestColorAt(t *testing.T) {
	b := impl.AddTokens(impl.NewBuilder(), impl.TokensOf("<p>a</p><c>d"))
	checkColors(t, []impl.Sheet{sheet(rule("p", 7), rule("b", 999), rule("p", 8)), sheet(rule("b", 5), rule("page", 3))}, b, 3, 8, 8, 3, 3)
	b = impl.AddTokens(impl.NewBuilder(), impl.TokensOf("a<p>b<i>c<img src=x></i>d</p>e<link><b><p>f<i>g"))
	for form, want := range map[string][]int{
		"": make([]int, 15), "zoo:7": make([]int, 15), "page:3": slices.Repeat([]int{3}, 15),
		"p:7":          {0, 0, 7, 7, 7, 7, 7, 7, 0, 0, 0, 7, 7, 7, 7},
		"i:5":          {0, 0, 0, 0, 5, 5, 5, 0, 0, 0, 0, 0, 0, 5, 5},
		"b:9":          {0, 0, 0, 0, 0, 0, 0, 0, 0, 0, 9, 9, 9, 9, 9},
		"img:1;link:2": {0, 0, 0, 0, 0, 0, 1, 0, 0, 2, 0, 0, 0, 0, 0},
		// The nearest one counts: the order of the rules is only for rules of one Name.
		"p:7;i:5;page:3":               {3, 3, 7, 7, 5, 5, 5, 7, 3, 3, 3, 7, 7, 5, 5},
		"page:3;i:5;p:7;b:9;img:1;i:6": {3, 3, 7, 7, 6, 6, 1, 7, 3, 3, 9, 7, 7, 6, 6},
	} {
		checkColors(t, []impl.Sheet{impl.ParseSheet(form)}, b, want...)
		var l []impl.Sheet
		for _, part := range strings.Split(form, ";") {
			l = append(l, impl.ParseSheet(part), impl.Sheet{})
		}
		checkColors(t, l, b, want...)
		checkColors(t, l, builderOf(nil, b.Nodes...), want...) // what is open has nothing to do with it
	}
	checkColors(t, nil, b, make([]int, len(b.Nodes))...)
	checkColors(t, make([]impl.Sheet, 3), b, make([]int, len(b.Nodes))...)
	checkColors(t, []impl.Sheet{sheet(rule("page", 3), rule("", 4))}, impl.Builder{})
	checkColors(t, []impl.Sheet{sheet(rule("page", 3))}, builderOf([]int{0, 1, 2}))
}

// A text has the Name that is empty, so a rule of this Name is for it; no Text or attribute is a Name.
func TestColorAtTexts(t *testing.T) {
	b := pageBuilder([]int{0}, element(0, "p", attrsOf("b", "i", "i", "b")...), textNode(1, "b"), textNode(0, "p"), impl.Node{Name: "i", Text: "b", Parent: 0})
	checkColors(t, []impl.Sheet{sheet(rule("b", 5), rule("p", 7))}, b, 0, 7, 7, 0, 0)
	checkColors(t, []impl.Sheet{sheet(rule("", 4), rule("p", 7))}, b, 0, 7, 4, 4, 0)
	checkColors(t, []impl.Sheet{sheet(rule("", 4)), sheet(rule("", 0), rule("p", 7))}, b, 0, 7, 7, 0, 0)
}

// A Color of 0 is none, so the Parent is asked; every other one counts.
func TestColorAtOfOddSheets(t *testing.T) {
	b := pageBuilder([]int{0}, element(0, "p"), element(1, "A b"), textNode(2, "x"))
	checkColors(t, []impl.Sheet{sheet(rule("page", 3), rule("p", 0), rule("A b", 0))}, b, 3, 3, 3, 3)
	checkColors(t, []impl.Sheet{sheet(rule("page", 3), rule("p", 7)), sheet(rule("p", 0))}, b, 3, 3, 3, 3)
	checkColors(t, []impl.Sheet{sheet(rule("page", 3), rule("p", 0)), sheet(rule("p", 7))}, b, 3, 7, 7, 7)
	checkColors(t, []impl.Sheet{sheet(rule("page", 3), rule("p", -7), rule("A b", 1000))}, b, 3, -7, 1000, 1000)
	checkColors(t, []impl.Sheet{sheet(rule("page", math.MinInt), rule("A b", math.MaxInt))}, b, math.MinInt, math.MinInt, math.MaxInt, math.MaxInt)
}

func TestColorAtOddParents(t *testing.T) {
	l := []impl.Sheet{sheet(rule("page", 3), rule("b", 5))}
	// Where a Parent is no node, the way up ends.
	for _, parent := range []int{-1, -2, 6, 7, 40, 41, math.MinInt, math.MaxInt, 1 << 32, -1 << 32} {
		checkColors(t, l, pageBuilder([]int{0}, element(parent, "p"), textNode(parent, "x"), element(parent, "b"), textNode(1, "y"), textNode(3, "z")), 3, 0, 0, 5, 0, 5)
		checkColors(t, l, builderOf(nil, element(parent, "p"), element(0, "p"), element(1, "b")), 0, 0, 5)
	}
	// A Parent may be the node itself, or further on.
	checkColors(t, l, pageBuilder([]int{0}, element(1, "p"), textNode(2, "x"), element(3, "b"), textNode(1, "y")), 3, 0, 0, 5, 0)
	checkColors(t, l, pageBuilder([]int{0}, element(3, "p"), textNode(1, "x"), element(4, "i"), element(0, "b")), 3, 5, 5, 5, 5)
	checkColors(t, l, pageBuilder([]int{0}, element(2, "p"), element(3, "p"), element(0, "p")), 3, 3, 3, 3)
	checkColors(t, l, builderOf(nil, element(0, "p"), element(0, "b"), element(0, "i")), 0, 5, 0)
	// A way may go round for ever, with a color on it or without one.
	checkColors(t, l, pageBuilder([]int{0}, element(2, "p"), element(3, "i"), element(1, "p"), textNode(2, "x")), 3, 0, 0, 0, 0)
	checkColors(t, l, pageBuilder([]int{0}, element(2, "p"), element(3, "b"), element(1, "p"), textNode(3, "x")), 3, 5, 5, 5, 5)
	checkColors(t, l, builderOf(nil, element(1, "p"), element(0, "p")), 0, 0)
	// The Parent may be a text or a void element, and the first node may have any Name.
	checkColors(t, l, pageBuilder([]int{0}, textNode(0, "x"), element(1, "p"), element(0, "img"), textNode(3, "y")), 3, 3, 3, 3, 3)
	checkColors(t, l, builderOf(nil, textNode(-1, "x"), element(0, "b"), element(1, "page")), 0, 5, 3)
}

// wayUp has this number of nodes, each one with the one before it as its Parent.
func wayUp(size int) impl.Builder {
	b := pageBuilder(nil)
	for n := 1; n < size; n++ {
		b.Nodes = append(b.Nodes, element(n-1, "p"))
	}
	return b
}

func TestColorAtLongWays(t *testing.T) {
	for size := 1; size <= 100; size++ {
		b := wayUp(size)
		for n := range size {
			want := 0
			if n < 40 { // n+1 nodes are on the way to the root, both ends included
				want = 3
			}
			checkColorAt(t, []impl.Sheet{sheet(rule("page", 3))}, b, n, want)
		}
	}
	// The limit is for the nodes on the way, not for those of the builder.
	b := wayUp(100)
	b.Nodes[55].Name = "b"
	for n := range b.Nodes {
		want := 0
		if n >= 55 && n < 95 {
			want = 5
		}
		checkColorAt(t, []impl.Sheet{sheet(rule("b", 5))}, b, n, want)
	}
	// Further on, a way of MaxNodes nodes and of one more.
	b = pageBuilder(nil)
	for n := 1; n < 60; n++ {
		b.Nodes = append(b.Nodes, element(n+1, "p"))
	}
	b.Nodes[41].Name = "b"
	checkColorAt(t, []impl.Sheet{sheet(rule("b", 5))}, b, 2, 5)
	checkColorAt(t, []impl.Sheet{sheet(rule("b", 5))}, b, 1, 0)
}

func TestJoinSheets(t *testing.T) {
	checkJoined(t, nil)
	checkJoined(t, []impl.Sheet{})
	checkJoined(t, make([]impl.Sheet, 5))
	first, second := sheet(rule("p", 7), rule("b", 999), rule("p", 8)), sheet(rule("b", 5), rule("page", 3))
	checkJoined(t, []impl.Sheet{first}, rule("b", 999), rule("p", 8))
	checkJoined(t, []impl.Sheet{second}, rule("b", 5), rule("page", 3))
	checkJoined(t, []impl.Sheet{first, second}, rule("b", 5), rule("p", 8), rule("page", 3))
	checkJoined(t, []impl.Sheet{second, first}, rule("b", 999), rule("p", 8), rule("page", 3))
	checkJoined(t, []impl.Sheet{{}, first, {}, second, {}}, rule("b", 5), rule("p", 8), rule("page", 3))
	checkJoined(t, []impl.Sheet{first, first, first}, rule("b", 999), rule("p", 8))
	// The shorter one of two Names with the same beginning comes first; the rest goes by bytes.
	checkJoined(t, []impl.Sheet{sheet(rule("b", 1), rule("abc", 2), rule("ab", 3), rule("a", 4), rule("aba", 5), rule("ba", 6))}, rule("a", 4), rule("ab", 3), rule("aba", 5), rule("abc", 2), rule("b", 1), rule("ba", 6))
}

// Nothing is left out, whatever the Color and the Name are and however many there are.
func TestJoinOddSheets(t *testing.T) {
	checkJoined(t, []impl.Sheet{sheet(rule("p", -1), rule("b", 1000), rule("a", math.MinInt))}, rule("a", math.MinInt), rule("b", 1000), rule("p", -1))
	checkJoined(t, []impl.Sheet{sheet(rule("p", 7), rule("b", 0)), sheet(rule("p", 0))}, rule("b", 0), rule("p", 0))
	checkJoined(t, []impl.Sheet{sheet(rule("p", 0)), sheet(rule("p", 7))}, rule("p", 7))
	checkJoined(t, []impl.Sheet{sheet(rule("", 5), rule("p", 6)), sheet(rule("", 7))}, rule("", 7), rule("p", 6))
	checkJoined(t, []impl.Sheet{sheet(make([]impl.Rule, 20)...)}, rule("", 0))
	checkJoined(t, []impl.Sheet{sheet(rule("\xff", 1), rule("é", 2), rule("z", 3), rule("Z", 4), rule(" ", 5), rule("a\x00", 6), rule("a", 7))}, rule(" ", 5), rule("Z", 4), rule("a", 7), rule("a\x00", 6), rule("z", 3), rule("é", 2), rule("\xff", 1))
	for count := 1; count < 100; count++ {
		var want, backwards []impl.Rule
		for i := range count {
			want = append(want, rule(numberedName(i), i+1))
			backwards = slices.Insert(backwards, 0, want[i])
		}
		checkJoined(t, manyNames(count), want...)
		checkJoined(t, []impl.Sheet{sheet(backwards...)}, want...)
	}
}

// pageForms has pages with elements that have rules, that have none, and texts below them.
var pageForms = []string{"", "a", "<p>a</p><c>d", "<p>a<b>b<i>c<img src=x></p>d", "<b><p>a<zoo>b</b><img><link>c", "<page>a<p>b</page>c", "<a>1<b>2<c>3<d>4<e>5<f>6<g>7<h>8", "<naa>1<nbb>2<p>3</nbb>4"}

// checkJoining compares the colors of Names and nodes before and after the sheets are joined with what a search finds, so that not both can be wrong.
func checkJoining(t *testing.T, l []impl.Sheet, builders []impl.Builder) {
	t.Helper()
	x := impl.JoinSheets(l)
	joined := []impl.Sheet{x}
	checkSheet(t, "JoinSheets", x, joinedByName(l))
	for _, name := range slices.Concat(namesOf(l), names, []string{"", "p", "b", "page", "img", "unknown", "P", "A b"}) {
		want := lastColor(l, name)
		checkColor(t, l, name, want)
		checkColor(t, joined, name, want)
		checkColor(t, slices.Concat(joined, make([]impl.Sheet, 2)), name, want)
	}
	for _, b := range builders {
		for n := -2; n < len(b.Nodes)+2; n++ {
			want := colorOnTheWay(l, b, n, 40)
			checkColorAt(t, l, b, n, want)
			checkColorAt(t, joined, b, n, want)
		}
	}
	checkSheet(t, "joined once more", impl.JoinSheets(joined), x)
	for cut := range len(l) + 1 {
		// The first ones may be joined alone, and the last ones.
		checkSheet(t, "the first ones joined", impl.JoinSheets(slices.Concat([]impl.Sheet{impl.JoinSheets(l[:cut])}, l[cut:])), x)
		checkSheet(t, "the last ones joined", impl.JoinSheets(slices.Concat(l[:cut], []impl.Sheet{impl.JoinSheets(l[cut:])})), x)
	}
}

func TestJoiningChangesNoColor(t *testing.T) {
	builders := append(oddBuilders(), impl.NewBuilder(), someBuilder(), full(40), full(41), chain(8), wayUp(40), wayUp(41), wayUp(60))
	for _, page := range pageForms {
		builders = append(builders, impl.AddTokens(impl.NewBuilder(), impl.TokensOf(page)))
	}
	for _, l := range sheetLists() {
		checkJoining(t, l, builders)
	}
}

// randomBuilder has nodes of these Names with Parents of each sort; the first node is a root, without another node as its Parent.
func randomBuilder(random *rand.Rand, ruleNames []string) impl.Builder {
	b := pageBuilder(nil)
	size := 1 + random.IntN(50)
	for n := 1; n < size; n++ {
		parent := random.IntN(n)
		if random.IntN(4) == 0 {
			parent = random.IntN(size+4) - 2
		}
		b.Nodes = append(b.Nodes, element(parent, ruleNames[random.IntN(len(ruleNames))]))
	}
	return b
}

func TestJoiningRandomSheetsChangesNoColor(t *testing.T) {
	random := rand.New(rand.NewPCG(77, 7))
	ruleNames := []string{"p", "b", "i", "page", "img", "a", "aa", "ab", "zoo", "link", "script", "", "A b"}
	for round := range 1000 {
		l := make([]impl.Sheet, random.IntN(6))
		for i := range l {
			for range random.IntN(9) {
				// Every second list is of rules that ParseSheet returns.
				r := rule(ruleNames[random.IntN(len(ruleNames)-2)], 1+random.IntN(999))
				if round%2 == 1 {
					r = rule(ruleNames[random.IntN(len(ruleNames))], random.IntN(1003)*(random.IntN(3)-1))
				}
				l[i].Rules = append(l[i].Rules, r)
			}
		}
		checkJoining(t, l, []impl.Builder{randomBuilder(random, ruleNames), randomBuilder(random, ruleNames[:4])})
	}
}

// Parsed sheets keep their colors when they are joined, formatted and parsed again, if they have at most MaxRules Names.
func TestJoinedSheetsAsText(t *testing.T) {
	l := []impl.Sheet{impl.ParseSheet("p:7;b:999;p:8;i:1"), impl.ParseSheet("zoo:4;b:5;page:3;;x"), impl.ParseSheet("")}
	checkSheetForm(t, impl.JoinSheets(l), "b:5;i:1;p:8;page:3;zoo:4")
	again := []impl.Sheet{impl.ParseSheet(impl.FormatSheet(impl.JoinSheets(l)))}
	for name, want := range map[string]int{"p": 8, "b": 5, "i": 1, "page": 3, "zoo": 4, "x": 0, "": 0} {
		checkColor(t, l, name, want)
		checkColor(t, again, name, want)
	}
}

// The order of a map is another one each time; a result is always the same.
func TestJoinSheetsAgain(t *testing.T) {
	for _, l := range sheetLists() {
		want := joinedByName(l)
		for range 30 {
			checkSheet(t, "again", impl.JoinSheets(l), want)
		}
	}
}

func checkEqualSheets(t *testing.T, what string, a []impl.Sheet, b []impl.Sheet, want bool) {
	t.Helper()
	if impl.EqualSheets(a, b) != want || impl.EqualSheets(b, a) != want {
		t.Fatalf("%s: EqualSheets(%q, %q) is %t, the other way round %t", what, fmt.Sprintf("%+v", a), fmt.Sprintf("%+v", b), impl.EqualSheets(a, b), impl.EqualSheets(b, a))
	}
}

func TestEqualSheets(t *testing.T) {
	lists := sheetLists()
	for i, a := range lists {
		checkEqualSheets(t, "itself", a, a, true)
		checkEqualSheets(t, "its copy", a, copySheets(a), true)
		for j, b := range lists {
			// The list of no sheet comes twice, as nil and as empty; the others differ.
			checkEqualSheets(t, "two lists", a, b, i == j || i < 2 && j < 2)
		}
	}
	checkEqualSheets(t, "nil and empty", nil, []impl.Sheet{}, true)
	checkEqualSheets(t, "nil and empty rules", []impl.Sheet{{}, sheet(rule("p", 7))}, []impl.Sheet{{Rules: []impl.Rule{}}, sheet(rule("p", 7))}, true)
	checkEqualSheets(t, "no sheet and one without rules", nil, make([]impl.Sheet, 1), false)
	checkEqualSheets(t, "sheets without rules", make([]impl.Sheet, 2), make([]impl.Sheet, 3), false)
}

// sheetChanges change a list of three sheets of three rules at a place, and return it.
var sheetChanges = []func([]impl.Sheet, int, int) []impl.Sheet{
	func(l []impl.Sheet, n int, k int) []impl.Sheet { l[n].Rules[k].Name += "x"; return l },
	func(l []impl.Sheet, n int, k int) []impl.Sheet { l[n].Rules[k].Name = ""; return l },
	func(l []impl.Sheet, n int, k int) []impl.Sheet { l[n].Rules[k].Color++; return l },
	func(l []impl.Sheet, n int, k int) []impl.Sheet { l[n].Rules[k].Color = 0; return l },
	func(l []impl.Sheet, n int, k int) []impl.Sheet { l[n].Rules[k].Color *= -1; return l },
	func(l []impl.Sheet, n int, k int) []impl.Sheet { l[n].Rules[k] = impl.Rule{}; return l },
	func(l []impl.Sheet, n int, k int) []impl.Sheet { l[n].Rules = l[n].Rules[:k]; return l },
	func(l []impl.Sheet, n int, k int) []impl.Sheet {
		l[n].Rules = slices.Delete(l[n].Rules, k, k+1)
		return l
	},
	func(l []impl.Sheet, n int, k int) []impl.Sheet {
		l[n].Rules = slices.Insert(l[n].Rules, k, impl.Rule{})
		return l
	},
	func(l []impl.Sheet, n int, k int) []impl.Sheet {
		l[n].Rules = append(l[n].Rules, l[n].Rules[k])
		return l
	},
	func(l []impl.Sheet, n int, k int) []impl.Sheet {
		l[n].Rules[k], l[n].Rules[(k+1)%3] = l[n].Rules[(k+1)%3], l[n].Rules[k]
		return l
	},
	func(l []impl.Sheet, n int, k int) []impl.Sheet { l[n], l[(n+1)%3] = l[(n+1)%3], l[n]; return l },
	func(l []impl.Sheet, n int, k int) []impl.Sheet {
		l[n].Rules[k], l[(n+1)%3].Rules[k] = l[(n+1)%3].Rules[k], l[n].Rules[k]
		return l
	},
	func(l []impl.Sheet, n int, k int) []impl.Sheet { l[n].Rules = nil; return l },
	func(l []impl.Sheet, n int, k int) []impl.Sheet { return l[:n] },
	func(l []impl.Sheet, n int, k int) []impl.Sheet { return slices.Delete(l, n, n+1) },
	func(l []impl.Sheet, n int, k int) []impl.Sheet { return slices.Insert(l, n, impl.Sheet{}) },
	func(l []impl.Sheet, n int, k int) []impl.Sheet { return append(l, l[n]) },
	// The same rules in sheets of other sizes.
	func(l []impl.Sheet, n int, k int) []impl.Sheet {
		rules := l[n].Rules
		l[n].Rules = rules[:k]
		return slices.Insert(l, n+1, sheet(rules[k:]...))
	},
}

// Each change alone makes a difference, wherever it is.
func TestSheetsThatDiffer(t *testing.T) {
	some := func() []impl.Sheet {
		return []impl.Sheet{sheet(rule("p", 7), rule("b", 8), rule("i", 9)), sheet(rule("p", 1), rule("b", 2), rule("i", 3)), sheet(rule("a", 4), rule("c", 5), rule("d", 6))}
	}
	for i, change := range sheetChanges {
		for n := range 3 {
			for k := range 3 {
				checkEqualSheets(t, fmt.Sprintf("change %d of rule %d in sheet %d", i, k, n), some(), change(some(), n, k), false)
			}
		}
	}
	// The colors of these are the same.
	checkEqualSheets(t, "a rule twice", []impl.Sheet{sheet(rule("p", 7))}, []impl.Sheet{sheet(rule("p", 7), rule("p", 7))}, false)
	checkEqualSheets(t, "joined", []impl.Sheet{sheet(rule("p", 7), rule("b", 8))}, []impl.Sheet{impl.JoinSheets([]impl.Sheet{sheet(rule("p", 7), rule("b", 8))})}, false)
	// The forms of these are the same.
	checkEqualSheets(t, "one rule and two", []impl.Sheet{sheet(rule("a:1;b", 6))}, []impl.Sheet{sheet(rule("a", 1), rule("b", 6))}, false)
}

// roomySheets returns sheets all of whose slices have spare capacity, and a function that shows all of their memory.
func roomySheets(l []impl.Sheet) ([]impl.Sheet, func() string) {
	sheets, sheetsMemory := roomy(l, sheet(rule("spare", 77)))
	rulesMemory := make([][]impl.Rule, len(sheets))
	for i := range sheets {
		sheets[i].Rules, rulesMemory[i] = roomy(sheets[i].Rules, rule("spare", 77))
	}
	return sheets, func() string { return fmt.Sprintf("%+v %+v", sheetsMemory, rulesMemory) }
}

// overwriteSheets changes all that a list of sheets reaches.
func overwriteSheets(l []impl.Sheet) {
	for _, x := range l {
		overwrite(x.Rules, rule("other", 88))
	}
	overwrite(l, sheet(rule("other", 88)))
}

func TestStylesLeaveArgumentsAlone(t *testing.T) {
	calls := map[string]func([]impl.Sheet, impl.Builder) impl.Sheet{
		"JoinSheets":         func(l []impl.Sheet, _ impl.Builder) impl.Sheet { return impl.JoinSheets(l) },
		"JoinSheets of part": func(l []impl.Sheet, _ impl.Builder) impl.Sheet { return impl.JoinSheets(l[:len(l)/2]) },
		"FormatSheet": func(l []impl.Sheet, _ impl.Builder) impl.Sheet {
			for _, x := range l {
				impl.FormatSheet(x)
			}
			return sheet()
		},
		"ColorOf":         func(l []impl.Sheet, _ impl.Builder) impl.Sheet { return sheet(rule("p", impl.ColorOf(l, "p"))) },
		"ColorOf of none": func(l []impl.Sheet, _ impl.Builder) impl.Sheet { return sheet(rule("x", impl.ColorOf(l, "x"))) },
		"ColorAt": func(l []impl.Sheet, b impl.Builder) impl.Sheet {
			return sheet(rule("p", impl.ColorAt(l, b, 5)), rule("x", impl.ColorAt(l, b, -1)))
		},
		"EqualSheets": func(l []impl.Sheet, _ impl.Builder) impl.Sheet {
			impl.EqualSheets(l, copySheets(l))
			impl.EqualSheets(someSheets(), l)
			return sheet()
		},
	}
	for name, call := range calls {
		for _, l := range sheetLists() {
			for _, b := range []impl.Builder{{}, someBuilder(), wayUp(41)} {
				checkStylesApart(t, name, l, b, call)
			}
		}
	}
}

// checkStylesApart checks that call neither changes the memory of its arguments nor returns a part of it.
func checkStylesApart(t *testing.T, what string, l []impl.Sheet, b impl.Builder, call func([]impl.Sheet, impl.Builder) impl.Sheet) {
	t.Helper()
	givenSheets, sheetsMemory := roomySheets(l)
	givenBuilder, builderMemory := roomyBuilder(b)
	before := sheetsMemory() + builderMemory()
	got := call(givenSheets, givenBuilder)
	if after := sheetsMemory() + builderMemory(); after != before {
		t.Fatalf("%s changed the memory of its arguments: %q, not %q", what, after, before)
	}
	want := sheet(slices.Clone(got.Rules)...)
	_ = append(got.Rules, rule("more", 99))
	overwrite(got.Rules, rule("other", 88))
	if after := sheetsMemory() + builderMemory(); after != before {
		t.Fatalf("%s returned memory of its arguments: %q, not %q", what, after, before)
	}
	got = call(givenSheets, givenBuilder)
	overwriteSheets(givenSheets)
	overwriteBuilder(givenBuilder)
	checkSheet(t, what+" after its arguments have changed", got, want)
}

// What follows a slice in its memory is no part of it.
func TestStylesDoNotSeeSpareCapacity(t *testing.T) {
	l, _ := roomySheets([]impl.Sheet{sheet(rule("p", 7)), sheet(rule("b", 8)), {}})
	checkColor(t, l, "spare", 0)
	checkColor(t, l[:1], "b", 0)
	checkJoined(t, l, rule("b", 8), rule("p", 7))
	checkJoined(t, l[:1], rule("p", 7))
	checkSheetForm(t, l[0], "p:7")
	checkEqualSheets(t, "spare capacity", l, []impl.Sheet{sheet(rule("p", 7)), sheet(rule("b", 8)), {}}, true)
	checkEqualSheets(t, "parts of one list", l[:1], l[:2], false)
	b, _ := roomyBuilder(someBuilder())
	checkColorAt(t, []impl.Sheet{sheet(rule("spare", 7))}, b, len(b.Nodes), 0)
}

// Two results of the same argument are apart from one another, too.
func TestStylesReturnNewMemory(t *testing.T) {
	l := someSheets()
	for name, call := range map[string]func() impl.Sheet{
		"ParseSheet":                  func() impl.Sheet { return impl.ParseSheet("p:7;b:8;x;p:9") },
		"ParseSheet of MaxRules":      func() impl.Sheet { return impl.ParseSheet(strings.Repeat("p:7;", 9)) },
		"JoinSheets":                  func() impl.Sheet { return impl.JoinSheets(l) },
		"JoinSheets of a joined one":  func() impl.Sheet { return impl.JoinSheets(l[3:4]) },
		"JoinSheets of a single rule": func() impl.Sheet { return impl.JoinSheets(l[1:2]) },
	} {
		first, second := call(), call()
		want := sheet(slices.Clone(second.Rules)...)
		checkSheet(t, name, first, want)
		_ = append(first.Rules, rule("more", 99))
		overwrite(first.Rules, rule("other", 88))
		checkSheet(t, name+" again", second, want)
		checkSheet(t, name+" anew", call(), want)
	}
	checkEqualSheets(t, "the argument", l, someSheets(), true)
}
