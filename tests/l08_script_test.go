package tests

import (
	"fmt"
	"math"
	"math/rand/v2"
	"regexp"
	"slices"
	"strconv"
	"strings"
	"testing"

	"loop.example/g00586/impl"
)

var (
	textLine = regexp.MustCompile(`(?s)^(write|say) (.*)$`)
	nameLine = regexp.MustCompile(`^(add|count|look) ([a-z]{1,8})$`)
	nameForm = regexp.MustCompile(`^[a-z]{1,8}$`)
)

// lineWords has the words in the order of their numbers, which begin with 1.
var lineWords = []string{"write", "add", "count", "look", "say"}

// otherOps has numbers that are no Op.
var otherOps = []int{0, -1, -2, -3, -4, -5, -6, 6, 7, 9, 10, 255, 256, 257, math.MinInt, math.MaxInt, math.MinInt + 3, 1<<32 + 1, -1 << 32}

// lineTexts has texts that write and say take: empty, the longest ones, with spaces, with brackets, and with bytes that are no character.
var lineTexts = []string{"", " ", "  ", "x", "p", "hi", " hi", "hi ", "two words", " a  b ", "[p]x[/p]", "<p>x</p>", "[", "]", "][", "[]<>", "[img src=cdn/logo][link href=main]", "[b]a[/b][what?]", "say x", "write x", "add p", "p 7", "p:7", "é", "日本", "\xff", "\xff[\x80]", "\x00", "\n", "a\nb", "\t", ",", ":", "=", "%3b", "；",
	strings.Repeat("x", 59), strings.Repeat("x", 60), strings.Repeat(" ", 60), strings.Repeat("[", 30) + strings.Repeat("]", 30), strings.Repeat("é", 30), strings.Repeat("日", 20), strings.Repeat("🙂", 15), strings.Repeat("\xff", 60)}

// longTexts has texts beyond 60 bytes, some of them of fewer characters.
var longTexts = []string{strings.Repeat("x", 61), strings.Repeat("x", 62), strings.Repeat(" ", 61), strings.Repeat("é", 31), strings.Repeat("é", 30) + "x", strings.Repeat("日", 21), strings.Repeat("🙂", 16), strings.Repeat("\xff", 61), strings.Repeat("x", 100000)}

func line(op int, text string) impl.Line {
	return impl.Line{Op: op, Text: text}
}

// someLines has lines that ParseScript returns: of every Op, and of the shortest and the longest texts and names.
func someLines() []impl.Line {
	var l []impl.Line
	for _, op := range []int{1, 5} {
		for _, text := range lineTexts {
			l = append(l, line(op, text))
		}
	}
	for op := 2; op <= 4; op++ {
		for _, name := range slices.Concat(names, []string{"p", "b", "i", "img", "link", "page", "script", "zoo"}) {
			l = append(l, line(op, name))
		}
	}
	return l
}

// oddLines has lines that no ParseScript returns; functions are called on them all the same.
func oddLines() []impl.Line {
	l := []impl.Line{{}}
	for _, op := range otherOps {
		l = append(l, line(op, ""), line(op, "p"), line(op, "[p]"))
	}
	for op := 2; op <= 4; op++ {
		for _, text := range slices.Concat(notNames, []string{"p ", " p", "p;add b", ";"}) {
			l = append(l, line(op, text))
		}
	}
	for _, op := range []int{1, 5} {
		for _, text := range slices.Concat(longTexts, []string{";", "a;b", "x;say y", ";;;"}) {
			l = append(l, line(op, text))
		}
	}
	return l
}

// scriptBuilders has builders to run scripts on: new ones, pages, builders of about MaxNodes nodes, and builders that are not valid.
func scriptBuilders() []impl.Builder {
	builders := append(oddBuilders(), impl.NewBuilder(), someBuilder(), full(38), full(39), full(40), full(41), chain(8))
	for _, page := range pageForms {
		builders = append(builders, impl.AddTokens(impl.NewBuilder(), impl.TokensOf(page)))
	}
	return builders
}

// The checks of scripts end a test at the first failure: what they print may be long, and they are called very often.

func checkScript(t *testing.T, s string, want ...impl.Line) {
	t.Helper()
	if got, ok := impl.ParseScript(s); !ok || !slices.Equal(got, want) {
		t.Fatalf("ParseScript(%q) is %q, %t, not %q, true", s, fmt.Sprintf("%+v", got), ok, fmt.Sprintf("%+v", want))
	}
}

func checkNoScript(t *testing.T, s string) {
	t.Helper()
	if got, ok := impl.ParseScript(s); ok || len(got) != 0 {
		t.Fatalf("ParseScript(%q) is %q, %t", s, fmt.Sprintf("%+v", got), ok)
	}
}

func checkScriptForm(t *testing.T, want string, l ...impl.Line) {
	t.Helper()
	if got := impl.FormatScript(l); got != want {
		t.Fatalf("FormatScript(%q) is %q, not %q", fmt.Sprintf("%+v", l), got, want)
	}
}

func checkMarkup(t *testing.T, s string, want string) {
	t.Helper()
	if got := impl.MarkupOf(s); got != want {
		t.Fatalf("MarkupOf(%q) is %q, not %q", s, got, want)
	}
}

// outcome is what comes of a script.
type outcome struct {
	builder impl.Builder
	written string
	log     []string
}

func sameOutcome(a outcome, b outcome) bool {
	return sameBuilder(a.builder, b.builder) && a.written == b.written && slices.Equal(a.log, b.log)
}

func checkOutcome(t *testing.T, what string, got outcome, want outcome) {
	t.Helper()
	if !sameOutcome(got, want) {
		// Texts may be bytes that are no character, so all is quoted.
		t.Fatalf("%q: %q, not %q", what, fmt.Sprintf("%+v", got), fmt.Sprintf("%+v", want))
	}
}

func runWhole(b impl.Builder, sheets []impl.Sheet, l []impl.Line) outcome {
	builder, written, log := impl.RunScript(b, sheets, l)
	return outcome{builder, written, log}
}

// runOne runs one line by RunLine; an empty string is not logged.
func runOne(b impl.Builder, sheets []impl.Sheet, x impl.Line) outcome {
	builder, written, logged := impl.RunLine(b, sheets, x)
	if logged == "" {
		return outcome{builder, written, nil}
	}
	return outcome{builder, written, []string{logged}}
}

// followedBy is what comes of two scripts, the second one run on the builder of the first one.
func (first outcome) followedBy(second outcome) outcome {
	return outcome{second.builder, first.written + second.written, slices.Concat(first.log, second.log)}
}

// checkLine runs one line, alone and as a script.
func checkLine(t *testing.T, b impl.Builder, sheets []impl.Sheet, x impl.Line, want outcome) {
	t.Helper()
	what := fmt.Sprintf("%+v on %+v", x, b)
	checkOutcome(t, "RunLine "+what, runOne(b, sheets, x), want)
	checkOutcome(t, "RunScript "+what, runWhole(b, sheets, []impl.Line{x}), want)
}

// checkLogged runs a line that logs this, and nothing else.
func checkLogged(t *testing.T, b impl.Builder, sheets []impl.Sheet, x impl.Line, want string) {
	t.Helper()
	checkLine(t, b, sheets, x, outcome{b, "", []string{want}})
}

// checkNothing runs a line that does nothing.
func checkNothing(t *testing.T, b impl.Builder, sheets []impl.Sheet, x impl.Line) {
	t.Helper()
	checkLine(t, b, sheets, x, outcome{builder: b})
}

// checkSteps runs a script whole, line by line, and in two parts that are cut at every place; steps has what has come of it before the first line and after each one.
func checkSteps(t *testing.T, sheets []impl.Sheet, l []impl.Line, steps []outcome) {
	t.Helper()
	what := fmt.Sprintf("%+v on %+v", l, steps[0].builder)
	so := steps[0]
	for i, x := range l {
		so = so.followedBy(runOne(so.builder, sheets, x))
		checkOutcome(t, fmt.Sprint("RunLine ", i, " of ", what), so, steps[i+1])
	}
	for cut, step := range steps {
		checkOutcome(t, fmt.Sprint("the first ", cut, " of ", what), runWhole(steps[0].builder, sheets, l[:cut]), step)
		checkOutcome(t, fmt.Sprint("all but the first ", cut, " of ", what), step.followedBy(runWhole(step.builder, sheets, l[cut:])), steps[len(l)])
	}
}

// scriptByForm takes the lines by the form that the document gives.
func scriptByForm(s string) ([]impl.Line, bool) {
	if s == "" {
		return nil, true
	}
	var l []impl.Line
	for _, part := range strings.Split(s, ";") {
		words := nameLine.FindStringSubmatch(part)
		if words == nil {
			words = textLine.FindStringSubmatch(part)
		}
		if words == nil || len(words[2]) > 60 || len(l) == 6 {
			return nil, false
		}
		l = append(l, line(slices.Index(lineWords, words[1])+1, words[2]))
	}
	return l, true
}

func checkScriptByForm(t *testing.T, s string) {
	t.Helper()
	if l, ok := scriptByForm(s); ok {
		checkScript(t, s, l...)
	} else {
		checkNoScript(t, s)
	}
}

// markupByBytes looks at one byte after the other.
func markupByBytes(s string) string {
	b := []byte(s)
	for i, c := range b {
		switch c {
		case '[':
			b[i] = '<'
		case ']':
			b[i] = '>'
		}
	}
	return string(b)
}

// stepsByModel runs a script in another way, on one builder, and keeps what has come of it before the first line and after each one.
func stepsByModel(b impl.Builder, sheets []impl.Sheet, l []impl.Line) []outcome {
	so := outcome{builder: copyBuilder(b)}
	steps := []outcome{so}
	for _, x := range l {
		switch nodes := so.builder.Nodes; x.Op {
		case 1:
			so.written += markupByBytes(x.Text)
		case 2:
			if len(nodes) > 0 && len(nodes) < 40 && nameForm.MatchString(x.Text) {
				so.builder.Nodes = slices.Concat(nodes, []impl.Node{element(0, x.Text)})
			}
		case 3:
			others := slices.DeleteFunc(slices.Clone(nodes), func(y impl.Node) bool { return y.Name == x.Text })
			so.log = append(so.log, "count "+x.Text+" "+strconv.Itoa(len(nodes)-len(others)))
		case 4:
			so.log = append(so.log, "look "+x.Text+" "+strconv.Itoa(lastColor(sheets, x.Text)))
		case 5:
			so.log = append(so.log, "say "+x.Text)
		}
		so.log = slices.Clone(so.log)
		steps = append(steps, so)
	}
	return steps
}

func TestScriptConstants(t *testing.T) {
	if impl.MaxLines != 6 || impl.MaxLog != 40 {
		t.Error(impl.MaxLines, impl.MaxLog)
	}
	if impl.OpWrite != 1 || impl.OpAdd != 2 || impl.OpCount != 3 || impl.OpLook != 4 || impl.OpSay != 5 {
		t.Error(impl.OpWrite, impl.OpAdd, impl.OpCount, impl.OpLook, impl.OpSay)
	}
}

func TestParseScript(t *testing.T) {
	checkScript(t, "")
	checkScript(t, "write [p]x[/p]", line(1, "[p]x[/p]"))
	checkScript(t, "add p", line(2, "p"))
	checkScript(t, "count p", line(3, "p"))
	checkScript(t, "look p", line(4, "p"))
	checkScript(t, "say hi", line(5, "hi"))
	checkScript(t, "look p;write [b]x[/b]", line(4, "p"), line(1, "[b]x[/b]"))
	checkScript(t, "count p;add b;count b;write [p]x[/p];look p;say hi", line(3, "p"), line(2, "b"), line(3, "b"), line(1, "[p]x[/p]"), line(4, "p"), line(5, "hi"))
	checkScript(t, "say hi;say hi;say hi", line(5, "hi"), line(5, "hi"), line(5, "hi")) // lines may be the same
	// The brackets stay as they are until the line runs, and so do tags.
	checkScript(t, "write <p>[b];say [b]<p>", line(1, "<p>[b]"), line(5, "[b]<p>"))
	// A TEXT is all that follows the first space; the words of others are nothing special in it.
	checkScript(t, "say say say;write add p;say  x ", line(5, "say say"), line(1, "add p"), line(5, " x "))
	checkScript(t, "say ;write ;say ", line(5, ""), line(1, ""), line(5, ""))
}

func TestParseScriptOfLines(t *testing.T) {
	all := someLines()
	for i, x := range all {
		form := lineWords[x.Op-1] + " " + x.Text
		checkScript(t, form, x)
		checkScript(t, form+";"+form, x, x)
		y := all[(i*7+11)%len(all)]
		checkScript(t, lineWords[y.Op-1]+" "+y.Text+";"+form+";say z", y, x, line(5, "z"))
	}
}

func TestParseScriptOfTextLengths(t *testing.T) {
	for _, op := range []int{1, 5} {
		for size := range 200 {
			for _, character := range []string{"x", " ", "[", "é", "日", "\xff"} {
				text := strings.Repeat(character, size)
				if len(text) <= 60 {
					checkScript(t, lineWords[op-1]+" "+text, line(op, text))
					checkScript(t, "say a;"+lineWords[op-1]+" "+text+";add b", line(5, "a"), line(op, text), line(2, "b"))
				} else {
					checkNoScript(t, lineWords[op-1]+" "+text)
					checkNoScript(t, "say a;"+lineWords[op-1]+" "+text+";add b")
				}
			}
		}
	}
	// The limit is for each TEXT alone.
	checkScript(t, strings.Repeat("say "+strings.Repeat("x", 60)+";", 5)+"say "+strings.Repeat("x", 60), slices.Repeat([]impl.Line{line(5, strings.Repeat("x", 60))}, 6)...)
}

// Every byte but the separator may be in a TEXT, and only a to z in a NAME.
func TestParseScriptOfEveryByte(t *testing.T) {
	for c := range 256 {
		s := string([]byte{byte(c)})
		for _, text := range []string{s, s + "x", "x" + s, "x" + s + "y"} {
			for i, word := range lineWords {
				takesText := word == "write" || word == "say"
				if takesText && c != ';' || c >= 'a' && c <= 'z' {
					checkScript(t, word+" "+text, line(i+1, text))
				} else if !takesText {
					checkNoScript(t, word+" "+text)
				}
				checkScriptByForm(t, word+" "+text)
				checkScriptByForm(t, word+text)
				checkScriptByForm(t, text+word+" p")
				checkScriptByForm(t, word+text+" p")
				checkScriptByForm(t, word[:1]+s+word[2:]+" p")
				checkScriptByForm(t, "say a"+text+word+" p")
			}
		}
	}
}

// notLines has parts of another form.
func notLines() []string {
	parts := []string{"", " ", "  ", "   ", " say a", "  say a", " say ", " p", " add p", "\tsay a", "\nsay a", "\x00say a", "say\ta", "say\na", "say\x00a", "say\u00a0a", "say=a", "say:a", "saya", "say,a",
		"p", "7", "what", "what p", "what ", "Say a", "SAY a", "sAy a", "says a", "sa y a", "sa a", "ay a", "s a", "writes a", "writ a", "Write [p]", "adds p", "ad p", "Add p", "counts p", "coun p", "looks p", "loo p", "do p", "import a", "none p",
		"0 p", "1 p", "5 a", "-1 p", "TEXT a", "NAME p", "sayadd p", "say/a", "/say a", "[say a]", "\"say\" a", "ſay a", "ｓay a", "addcount p", "add,count p", "write", "add", "count", "look", "say", "x say a", "; say a"}
	for _, word := range []string{"add", "count", "look"} {
		parts = append(parts, word+" ", word+"  ", word+"  p", " "+word+" p", word+" p ", word+" p b", word+" p p", word+"\tp", word+"p", word+" p\n", word+" Q", word+" p:7", word+" [p]", word+" <p>", word+" p 7")
		for _, bad := range notNames {
			parts = append(parts, word+" "+bad, word+" p"+bad+"!")
		}
	}
	for _, word := range []string{"write", "say"} {
		for _, text := range longTexts {
			parts = append(parts, word+" "+text)
		}
	}
	return parts
}

func TestParseScriptRejects(t *testing.T) {
	checkScript(t, "") // the empty text is a script, but no line of one
	for _, part := range notLines() {
		if part != "" {
			checkNoScript(t, part)
		}
		for _, form := range []string{part + ";", ";" + part, part + ";" + part, part + ";say a", "say a;" + part, "say a;" + part + ";add p", "add p;look p;" + part, "say a;say b;say c;say d;say e;" + part, part + ";say b;say c;say d;say e;say f"} {
			checkNoScript(t, form)
		}
	}
}

func TestParseScriptOfSeparators(t *testing.T) {
	for size := 1; size < 20; size++ {
		separators := strings.Repeat(";", size)
		for _, form := range []string{separators, " " + separators, separators + " ", separators + "say a", "say a" + separators, "count p" + separators, separators + "say a" + separators, "say " + separators, separators + "say "} {
			checkNoScript(t, form)
		}
		if size > 1 {
			checkNoScript(t, "say a"+separators+"say b")
			checkNoScript(t, "say "+separators+"say ")
		}
	}
	checkScript(t, "say a;say b", line(5, "a"), line(5, "b"))
	checkScript(t, "say ;say ", line(5, ""), line(5, ""))
	// What is between the separators is a line of its own, also within a text.
	checkScript(t, "write a;say b", line(1, "a"), line(5, "b"))
	checkNoScript(t, "write a;b")
	checkNoScript(t, "say a; say b")
	checkScript(t, "say a ;say b", line(5, "a "), line(5, "b"))
	checkNoScript(t, "add a ;say b")
}

func TestParseScriptOfManyLines(t *testing.T) {
	for _, x := range []impl.Line{line(1, ""), line(1, "[p]"), line(2, "p"), line(3, "p"), line(4, "p"), line(5, ""), line(5, "a")} {
		form := lineWords[x.Op-1] + " " + x.Text
		for count := 1; count < 30; count++ {
			s := strings.Join(slices.Repeat([]string{form}, count), ";")
			if count <= 6 {
				checkScript(t, s, slices.Repeat([]impl.Line{x}, count)...)
			} else {
				checkNoScript(t, s)
			}
			checkNoScript(t, s+";")
			checkNoScript(t, ";"+s)
		}
	}
	checkScript(t, "say a;say b;say c;say d;say e;say f", line(5, "a"), line(5, "b"), line(5, "c"), line(5, "d"), line(5, "e"), line(5, "f"))
	checkNoScript(t, "say a;say b;say c;say d;say e;say f;say g")
	checkNoScript(t, strings.Repeat("say a;", 100000)+"say a")
	checkNoScript(t, strings.Repeat("say a", 100000))
	checkNoScript(t, strings.Repeat(";", 100000))
}

func TestParseScriptOfShortStrings(t *testing.T) {
	for _, s := range allStrings("say ;", 7) {
		checkScriptByForm(t, s)
	}
	for _, s := range allStrings("p ;A", 5) {
		for _, word := range lineWords {
			checkScriptByForm(t, word+s)
			checkScriptByForm(t, word+" "+s)
			checkScriptByForm(t, s+word+" p")
			checkScriptByForm(t, "say a;"+word+s)
		}
	}
}

func TestParseScriptOfRandomTexts(t *testing.T) {
	random := rand.New(rand.NewPCG(8, 8))
	all, bad := someLines(), notLines()
	accepted := 0
	for range 5000 {
		var parts []string
		for range random.IntN(9) {
			x := all[random.IntN(len(all))]
			parts = append(parts, lineWords[x.Op-1]+" "+x.Text)
		}
		if len(parts) > 0 && random.IntN(3) == 0 {
			parts[random.IntN(len(parts))] = bad[random.IntN(len(bad))]
		}
		s := strings.Join(parts, ";")
		checkScriptByForm(t, s)
		if l, ok := impl.ParseScript(s); ok {
			accepted++
			checkScriptForm(t, s, l...)
		}
	}
	if accepted < 1000 || accepted > 4000 {
		t.Errorf("%d of the texts are scripts", accepted)
	}
}

func TestFormatScript(t *testing.T) {
	checkScriptForm(t, "")
	checkScriptForm(t, "", []impl.Line{}...)
	checkScriptForm(t, "write [p]x[/p]", line(1, "[p]x[/p]"))
	checkScriptForm(t, "add p", line(2, "p"))
	checkScriptForm(t, "count p", line(3, "p"))
	checkScriptForm(t, "look p", line(4, "p"))
	checkScriptForm(t, "say hi", line(5, "hi"))
	checkScriptForm(t, "say hi;add p;write <b>;look b;count b;say ", line(5, "hi"), line(2, "p"), line(1, "<b>"), line(4, "b"), line(3, "b"), line(5, ""))
	checkScriptForm(t, "write ;say ;write ", line(1, ""), line(5, ""), line(1, ""))
}

// A line with another Op is left out together with its separator; all others have their form, whatever their Text is.
func TestFormatOddScripts(t *testing.T) {
	checkScriptForm(t, "say a", line(9, ""), line(5, "a"))
	for _, op := range otherOps {
		for _, text := range []string{"", "p", "[p]", "say a", ";"} {
			odd := line(op, text)
			checkScriptForm(t, "", odd)
			checkScriptForm(t, "", odd, odd, odd)
			checkScriptForm(t, "say a", odd, line(5, "a"))
			checkScriptForm(t, "say a", line(5, "a"), odd)
			checkScriptForm(t, "say a;add p", odd, line(5, "a"), odd, odd, line(2, "p"), odd)
		}
	}
	for i, word := range lineWords {
		for _, text := range slices.Concat(lineTexts, longTexts, notNames, names, []string{";", "a;b", ";;"}) {
			checkScriptForm(t, word+" "+text, line(i+1, text))
			checkScriptForm(t, "say a;"+word+" "+text+";add p", line(5, "a"), line(i+1, text), line(2, "p"))
		}
	}
	for count := 1; count < 30; count++ {
		checkScriptForm(t, strings.Repeat("say a;", count-1)+"say a", slices.Repeat([]impl.Line{line(5, "a")}, count)...)
	}
}

func TestParseScriptInvertsFormatScript(t *testing.T) {
	all := someLines()
	for start := range all {
		for size := range 7 {
			l := slices.Concat(all, all)[start : start+size]
			checkScript(t, impl.FormatScript(l), l...)
		}
		checkNoScript(t, impl.FormatScript(slices.Concat(all, all)[start:start+7]))
	}
	// What is not of the form of a line is none when it is parsed again, or other lines.
	checkNoScript(t, impl.FormatScript([]impl.Line{line(2, "P")}))
	checkNoScript(t, impl.FormatScript([]impl.Line{line(5, strings.Repeat("x", 61))}))
	checkScript(t, impl.FormatScript([]impl.Line{line(5, "a;add b"), line(0, "p")}), line(5, "a"), line(2, "b"))
}

func TestMarkupOf(t *testing.T) {
	for s, want := range map[string]string{"": "", "a": "a", "[": "<", "]": ">", "[]": "<>", "][": "><", "[[]]": "<<>>", "[p]": "<p>", "[/p]": "</p>", "[p]<]": "<p><>", "<p>": "<p>", "<[>]": "<<>>", "[p]x[/p]": "<p>x</p>",
		"a[b a=1 b=2]c[/b]d": "a<b a=1 b=2>c</b>d", "(p){p}": "(p){p}", " [ p ] ": " < p > ", "\xff[\x80]\x00": "\xff<\x80>\x00", "é[日]": "é<日>", "［p］": "［p］", "&lt;": "&lt;", "\\[p\\]": "\\<p\\>", "a;b": "a;b"} {
		checkMarkup(t, s, want)
		checkMarkup(t, want, want)
	}
	for _, s := range slices.Concat(lineTexts, longTexts, somePages, allStrings("[]<>a", 5)) {
		checkMarkup(t, s, markupByBytes(s))
	}
	for c := range 256 {
		s := string([]byte{byte(c)})
		checkMarkup(t, s, markupByBytes(s))
		checkMarkup(t, "["+s+"]", "<"+markupByBytes(s)+">")
	}
	checkMarkup(t, strings.Repeat("[p]", 100000), strings.Repeat("<p>", 100000))
}

func TestRunWrite(t *testing.T) {
	for _, b := range scriptBuilders() {
		for _, text := range slices.Concat(lineTexts, longTexts, []string{";", "a;b"}) {
			checkLine(t, b, someSheets(), line(1, text), outcome{builder: b, written: markupByBytes(text)})
		}
	}
	checkLine(t, someBuilder(), nil, line(1, "[b]x[/b]"), outcome{builder: someBuilder(), written: "<b>x</b>"})
	checkLine(t, someBuilder(), nil, line(1, "<b>]"), outcome{builder: someBuilder(), written: "<b>>"})
}

func TestRunAdd(t *testing.T) {
	checkLine(t, impl.NewBuilder(), nil, line(2, "p"), outcome{builder: pageBuilder([]int{0}, element(0, "p"))})
	checkLine(t, pageBuilder([]int{0, 1}, element(0, "p")), nil, line(2, "b"), outcome{builder: pageBuilder([]int{0, 1}, element(0, "p"), element(0, "b"))})
	// The node is a child of the root, whatever is open, and is not opened itself; it may be void and have a Name that occurs already.
	for _, name := range slices.Concat(names, []string{"img", "link", "page", "p", "script"}) {
		for _, b := range []impl.Builder{impl.NewBuilder(), someBuilder(), chain(8), full(38), full(39)} {
			want := builderOf(b.Open, slices.Concat(b.Nodes, []impl.Node{element(0, name)})...)
			checkLine(t, b, someSheets(), line(2, name), outcome{builder: want})
			checkValid(t, "after add", want, true)
		}
	}
	for _, name := range notNames {
		for _, b := range scriptBuilders() {
			checkNothing(t, b, someSheets(), line(2, name))
		}
	}
}

func TestRunAddToTheLastNodes(t *testing.T) {
	for size := range 100 {
		b := full(size)
		if size == 0 {
			b = impl.Builder{Open: []int{0}}
		}
		if size >= 1 && size < 40 {
			checkLine(t, b, nil, line(2, "p"), outcome{builder: builderOf(b.Open, slices.Concat(b.Nodes, []impl.Node{element(0, "p")})...)})
		} else {
			checkNothing(t, b, nil, line(2, "p"))
		}
	}
	// Only as many lines add a node as there is room for.
	l := []impl.Line{line(2, "p"), line(2, "b"), line(3, "p"), line(2, "p"), line(3, "p")}
	got := runWhole(full(39), nil, l)
	checkOutcome(t, "one fewer than MaxNodes", got, outcome{builderOf([]int{0}, append(full(39).Nodes, element(0, "p"))...), "", []string{"count p 1", "count p 1"}})
	got = runWhole(full(40), nil, l)
	checkOutcome(t, "MaxNodes", got, outcome{full(40), "", []string{"count p 0", "count p 0"}})
}

// Nothing but the number of nodes counts: neither what the first node is, nor what is open.
func TestRunAddToOddBuilders(t *testing.T) {
	for _, b := range append(oddBuilders(), builderOf(nil, textNode(-1, "x")), builderOf(nil, element(7, "img")), builderOf([]int{5}, element(0, "p"), textNode(0, "x")), builderOf([]int{-1, 99}, element(-1, "page")), builderOf(make([]int, 20), element(-1, "page"))) {
		if len(b.Nodes) >= 1 && len(b.Nodes) < 40 {
			checkLine(t, b, nil, line(2, "p"), outcome{builder: builderOf(b.Open, slices.Concat(b.Nodes, []impl.Node{element(0, "p")})...)})
		} else {
			checkNothing(t, b, nil, line(2, "p"))
		}
	}
}

// A tag after add goes where it would have gone before.
func TestTokensAfterAdd(t *testing.T) {
	b, _, _ := impl.RunLine(impl.AddTokens(impl.NewBuilder(), impl.TokensOf("<p>")), nil, line(2, "b"))
	b = impl.AddTokens(b, impl.TokensOf("x</b>y</p>z"))
	checkBuilder(t, "after add", b, pageBuilder([]int{0}, element(0, "p"), element(0, "b"), textNode(1, "x"), textNode(1, "y"), textNode(0, "z")))
}

func TestRunCount(t *testing.T) {
	b := impl.AddTokens(impl.NewBuilder(), impl.TokensOf("a<p>b<i>p</i><img>e</p><p></p><p><page></page><img src=p>"))
	for name, want := range map[string]int{"p": 3, "i": 1, "img": 2, "page": 2, "link": 0, "b": 0, "pp": 0, "zzzzzzzz": 0} {
		checkLogged(t, b, someSheets(), line(3, name), "count "+name+" "+strconv.Itoa(want))
	}
	// The Name need not be a name; the empty one is that of the texts.
	for name, want := range map[string]int{"": 4, " ": 0, "P": 0, "p ": 0, "p b": 0, "p;say x": 0, "\xff": 0, "abcdefghi": 0, "[p]": 0} {
		checkLogged(t, b, nil, line(3, name), "count "+name+" "+strconv.Itoa(want))
	}
	checkLogged(t, impl.NewBuilder(), nil, line(3, ""), "count  0")
	checkLogged(t, impl.NewBuilder(), nil, line(3, "page"), "count page 1")
	checkLogged(t, full(40), nil, line(3, ""), "count  39")
	checkLogged(t, impl.Builder{}, nil, line(3, "page"), "count page 0")
	checkLogged(t, builderOf(nil, make([]impl.Node, 100)...), nil, line(3, ""), "count  100")
	odd := builderOf([]int{-1}, impl.Node{Text: "p"}, impl.Node{Name: "A b", Parent: 9}, impl.Node{Name: "A b", Text: "x", Parent: -9}, element(3, "p", attr("p", "p")))
	checkLogged(t, odd, nil, line(3, "A b"), "count A b 2")
	checkLogged(t, odd, nil, line(3, "p"), "count p 1")
}

func TestRunLook(t *testing.T) {
	l := []impl.Sheet{sheet(rule("p", 7), rule("b", 999), rule("p", 8)), sheet(rule("b", 5), rule("page", 3))}
	for _, b := range scriptBuilders() {
		for name, want := range map[string]int{"p": 8, "b": 5, "page": 3, "i": 0, "img": 0, "": 0, "P": 0, "p ": 0} {
			checkLogged(t, b, l, line(4, name), "look "+name+" "+strconv.Itoa(want)) // the Name need not be that of a node
			checkLogged(t, b, nil, line(4, name), "look "+name+" 0")
			checkLogged(t, b, make([]impl.Sheet, 3), line(4, name), "look "+name+" 0")
		}
	}
	// The color of the Name is looked at, not that of a node around one.
	checkLogged(t, impl.AddTokens(impl.NewBuilder(), impl.TokensOf("<p><b>")), []impl.Sheet{sheet(rule("p", 7), rule("page", 3))}, line(4, "b"), "look b 0")
	// The Color of the last rule counts, whatever it is.
	for _, color := range []int{0, -1, -7, 1000, math.MinInt, math.MaxInt} {
		for _, name := range []string{"p", "", "A b", "abcdefghi", "\xff", ";"} {
			checkLogged(t, someBuilder(), []impl.Sheet{sheet(rule(name, 7)), sheet(rule(name, color))}, line(4, name), "look "+name+" "+strconv.Itoa(color))
		}
	}
	for _, sheets := range sheetLists() {
		for _, name := range append(namesOf(sheets), "p", "", "none") {
			checkLogged(t, someBuilder(), sheets, line(4, name), "look "+name+" "+strconv.Itoa(lastColor(sheets, name)))
		}
	}
}

func TestRunSay(t *testing.T) {
	for _, b := range scriptBuilders() {
		for _, text := range slices.Concat(lineTexts, longTexts, []string{";", "a;b"}) {
			checkLogged(t, b, someSheets(), line(5, text), "say "+text) // brackets stay brackets
		}
	}
	checkLogged(t, someBuilder(), nil, line(5, ""), "say ")
	checkLogged(t, someBuilder(), nil, line(5, "[b]"), "say [b]")
}

func TestRunLinesWithAnotherOp(t *testing.T) {
	for _, b := range scriptBuilders() {
		for _, op := range otherOps {
			for _, text := range []string{"", "p", "[p]", "say a", strings.Repeat("x", 61)} {
				checkNothing(t, b, someSheets(), line(op, text))
			}
		}
	}
	// Among others, they make no difference.
	l := []impl.Line{line(3, "p"), line(2, "p"), line(1, "[p]"), line(5, "a")}
	want := runWhole(someBuilder(), someSheets(), l)
	for place := range len(l) + 1 {
		for _, op := range otherOps {
			checkOutcome(t, "with another Op", runWhole(someBuilder(), someSheets(), slices.Insert(slices.Clone(l), place, line(op, "p"), line(op, ""))), want)
		}
	}
}

// What a line sees is what the lines before it have done.
func TestScriptsRunLineByLine(t *testing.T) {
	b := impl.AddTokens(impl.NewBuilder(), impl.TokensOf("<p>"))
	more := pageBuilder([]int{0, 1}, element(0, "p"), element(0, "b"))
	sheets := []impl.Sheet{sheet(rule("p", 7))}
	checkSteps(t, sheets, []impl.Line{line(3, "p"), line(2, "b"), line(3, "b"), line(1, "[p]x[/p]"), line(4, "p"), line(5, "hi")}, []outcome{
		{builder: b}, {b, "", []string{"count p 1"}}, {more, "", []string{"count p 1"}}, {more, "", []string{"count p 1", "count b 1"}}, {more, "<p>x</p>", []string{"count p 1", "count b 1"}},
		{more, "<p>x</p>", []string{"count p 1", "count b 1", "look p 7"}}, {more, "<p>x</p>", []string{"count p 1", "count b 1", "look p 7", "say hi"}},
	})
	// What is written is joined, and is no node of the tree.
	start, one := impl.NewBuilder(), pageBuilder([]int{0}, element(0, "i"))
	checkSteps(t, sheets, []impl.Line{line(1, "[i]"), line(3, "i"), line(1, ""), line(2, "i"), line(1, "a["), line(3, "i"), line(1, "/i]")}, []outcome{
		{builder: start}, {start, "<i>", nil}, {start, "<i>", []string{"count i 0"}}, {start, "<i>", []string{"count i 0"}}, {one, "<i>", []string{"count i 0"}},
		{one, "<i>a<", []string{"count i 0"}}, {one, "<i>a<", []string{"count i 0", "count i 1"}}, {one, "<i>a</i>", []string{"count i 0", "count i 1"}},
	})
	// Lines that log the same log it again, and an empty TEXT is logged.
	checkSteps(t, nil, []impl.Line{line(5, ""), line(5, ""), line(4, "p"), line(4, "p")}, []outcome{
		{builder: start}, {start, "", []string{"say "}}, {start, "", []string{"say ", "say "}}, {start, "", []string{"say ", "say ", "look p 0"}}, {start, "", []string{"say ", "say ", "look p 0", "look p 0"}},
	})
	// A script without lines, and one that logs nothing.
	checkSteps(t, sheets, nil, []outcome{{builder: b}})
	checkSteps(t, sheets, []impl.Line{}, []outcome{{builder: someBuilder()}})
	checkSteps(t, sheets, []impl.Line{line(1, "[b]"), line(2, "b"), line(0, "x")}, []outcome{{builder: b}, {b, "<b>", nil}, {more, "<b>", nil}, {more, "<b>", nil}})
}

func TestScriptsOfServersRunLineByLine(t *testing.T) {
	b := impl.AddTokens(impl.NewBuilder(), impl.TokensOf("<p>n</p>"))
	sheets := []impl.Sheet{impl.ParseSheet("p:7"), impl.ParseSheet("p:9;b:8")}
	for s, want := range map[string]outcome{"": {}, "look p;write [b]x[/b]": {b, "<b>x</b>", []string{"look p 9"}}, "say new;write [b]": {b, "<b>", []string{"say new"}}, "count p": {b, "", []string{"count p 1"}}, "say lib": {b, "", []string{"say lib"}}} {
		want.builder = b
		l, ok := impl.ParseScript(s)
		if !ok {
			t.Fatalf("%q is no script", s)
		}
		checkOutcome(t, s, runWhole(b, sheets, l), want)
		checkSteps(t, sheets, l, stepsByModel(b, sheets, l))
	}
}

func TestScriptsOfOddLines(t *testing.T) {
	all := slices.Concat(oddLines(), someLines())
	for _, b := range scriptBuilders() {
		l := []impl.Line{line(2, "p"), {}, line(3, ""), line(-1, "x"), line(4, "A b"), line(1, "a;[b]"), line(2, "Q"), line(5, strings.Repeat("x", 61)), line(3, "p"), line(7, "p")}
		checkSteps(t, oddSheets(), l, stepsByModel(b, oddSheets(), l))
		steps := stepsByModel(b, someSheets(), all)
		checkOutcome(t, "all lines", runWhole(b, someSheets(), all), steps[len(all)])
	}
}

func TestRandomScriptsRunLineByLine(t *testing.T) {
	random := rand.New(rand.NewPCG(88, 8))
	builders, lists, some, odd := scriptBuilders(), sheetLists(), someLines(), oddLines()
	for round := range 1500 {
		l := make([]impl.Line, random.IntN(7))
		if round%10 == 0 {
			l = make([]impl.Line, random.IntN(60))
		}
		for i := range l {
			l[i] = some[random.IntN(len(some))]
			if round%2 == 1 && random.IntN(3) == 0 {
				l[i] = odd[random.IntN(len(odd))]
			}
			// Few Names, so that lines meet what others have added.
			if l[i].Op >= 2 && l[i].Op <= 4 && random.IntN(2) == 0 {
				l[i].Text = []string{"p", "b", "page"}[random.IntN(3)]
			}
		}
		b, sheets := builders[random.IntN(len(builders))], lists[random.IntN(len(lists))]
		checkSteps(t, sheets, l, stepsByModel(b, sheets, l))
	}
}

// There is no limit to the lines that are run, or to what they log.
func TestManyLines(t *testing.T) {
	for _, count := range []int{6, 7, 8, 39, 40, 41, 100, 5000} {
		l := slices.Repeat([]impl.Line{line(5, "a"), line(1, "[b]"), line(2, "i")}, count)
		b := impl.NewBuilder()
		for len(b.Nodes) < min(count+1, 40) {
			b.Nodes = append(b.Nodes, element(0, "i"))
		}
		checkOutcome(t, "many lines", runWhole(impl.NewBuilder(), nil, l), outcome{b, strings.Repeat("<b>", count), slices.Repeat([]string{"say a"}, count)})
	}
}

func checkPassive(t *testing.T, want bool, l ...impl.Line) {
	t.Helper()
	if got := impl.IsPassive(l); got != want {
		t.Fatalf("IsPassive(%q) is %t", fmt.Sprintf("%+v", l), got)
	}
}

func TestIsPassive(t *testing.T) {
	checkPassive(t, true)
	checkPassive(t, true, []impl.Line{}...)
	checkPassive(t, false, line(1, "[p]"))
	checkPassive(t, false, line(2, "p"))
	checkPassive(t, true, line(3, "p"))
	checkPassive(t, true, line(4, "p"))
	checkPassive(t, true, line(5, "hi"))
	checkPassive(t, true, line(5, "write [p]"), line(5, "add p"), line(3, "add"), line(4, "write"))
	// The Op counts, whether or not the line does something.
	for _, text := range []string{"", "Q", ";", strings.Repeat("x", 61)} {
		checkPassive(t, false, line(1, text))
		checkPassive(t, false, line(2, text))
		checkPassive(t, true, line(3, text), line(4, text), line(5, text))
	}
	for _, op := range otherOps {
		checkPassive(t, true, line(op, "p"))
		checkPassive(t, true, line(op, "p"), line(3, "p"), line(op, "p"))
		checkPassive(t, false, line(op, "p"), line(1, "p"), line(op, "p"))
	}
	passive := []impl.Line{line(3, "p"), line(4, "p"), line(5, "a"), {}, line(9, "p"), line(3, "b")}
	checkPassive(t, true, passive...)
	for place := range len(passive) + 1 {
		checkPassive(t, false, slices.Insert(slices.Clone(passive), place, line(1, ""))...)
		checkPassive(t, false, slices.Insert(slices.Clone(passive), place, line(2, "p"))...)
	}
	checkPassive(t, true, slices.Repeat(passive, 1000)...)
	checkPassive(t, false, append(slices.Repeat(passive, 1000), line(2, "p"))...)
}

// Passive scripts leave the tree as it is, and write nothing.
func TestPassiveScripts(t *testing.T) {
	for _, b := range scriptBuilders() {
		for _, x := range slices.Concat(someLines(), oddLines()) {
			l := []impl.Line{line(5, "a"), x, line(3, "p")}
			got := runWhole(b, someSheets(), l)
			if impl.IsPassive(l) && (!sameBuilder(got.builder, b) || got.written != "") {
				t.Fatalf("%q is passive and comes to %q on %q", fmt.Sprintf("%+v", l), fmt.Sprintf("%+v", got), fmt.Sprintf("%+v", b))
			}
		}
	}
}

// scriptMemory is what a function of scripts returns that has memory of its own.
type scriptMemory struct {
	builder impl.Builder
	lines   []impl.Line
	log     []string
}

func (m scriptMemory) copy() scriptMemory {
	return scriptMemory{copyBuilder(m.builder), slices.Clone(m.lines), slices.Clone(m.log)}
}

func (m scriptMemory) overwrite() {
	overwriteBuilder(m.builder)
	overwrite(m.lines, line(9, "other"))
	overwrite(m.log, "other")
}

// scriptCalls has a call of each function that takes memory or returns it.
var scriptCalls = map[string]func(impl.Builder, []impl.Sheet, []impl.Line) scriptMemory{
	"ParseScript": func(_ impl.Builder, _ []impl.Sheet, l []impl.Line) scriptMemory {
		lines, _ := impl.ParseScript(impl.FormatScript(l))
		return scriptMemory{lines: lines}
	},
	"FormatScript": func(_ impl.Builder, _ []impl.Sheet, l []impl.Line) scriptMemory {
		return scriptMemory{log: []string{impl.FormatScript(l)}}
	},
	"IsPassive": func(_ impl.Builder, _ []impl.Sheet, l []impl.Line) scriptMemory {
		return scriptMemory{log: []string{strconv.FormatBool(impl.IsPassive(l))}}
	},
	"RunLine": func(b impl.Builder, sheets []impl.Sheet, l []impl.Line) scriptMemory {
		var log []string
		for _, x := range l {
			_, _, logged := impl.RunLine(b, sheets, x)
			log = append(log, logged)
		}
		return scriptMemory{log: log}
	},
	"RunLine of write":      runLineOf(line(1, "[p]")),
	"RunLine of add":        runLineOf(line(2, "b")),
	"RunLine of add of one": runLineOf(line(2, "Q")),
	"RunLine of count":      runLineOf(line(3, "p")),
	"RunLine of look":       runLineOf(line(4, "p")),
	"RunLine of say":        runLineOf(line(5, "a")),
	"RunLine of another Op": runLineOf(line(0, "p")),
	"RunScript": func(b impl.Builder, sheets []impl.Sheet, l []impl.Line) scriptMemory {
		builder, _, log := impl.RunScript(b, sheets, l)
		return scriptMemory{builder: builder, log: log}
	},
	"RunScript of a part": func(b impl.Builder, sheets []impl.Sheet, l []impl.Line) scriptMemory {
		builder, _, log := impl.RunScript(b, sheets[:len(sheets)/2], l[:len(l)/2])
		return scriptMemory{builder: builder, log: log}
	},
	"RunScript of none": func(b impl.Builder, _ []impl.Sheet, _ []impl.Line) scriptMemory {
		builder, _, log := impl.RunScript(b, nil, nil)
		return scriptMemory{builder: builder, log: log}
	},
}

func runLineOf(x impl.Line) func(impl.Builder, []impl.Sheet, []impl.Line) scriptMemory {
	return func(b impl.Builder, sheets []impl.Sheet, _ []impl.Line) scriptMemory {
		builder, _, _ := impl.RunLine(b, sheets, x)
		return scriptMemory{builder: builder}
	}
}

// memoryScripts has scripts of every Op, with lines of another Op, and without lines.
func memoryScripts() [][]impl.Line {
	return [][]impl.Line{nil, {line(5, "a")}, {line(2, "p"), line(2, "b"), line(3, "p"), line(1, "[p]"), line(4, "p"), line(5, "a")}, {line(2, "Q"), {}, line(9, "p"), line(5, "")}, {line(1, "a"), line(2, "img")}}
}

func TestScriptsLeaveArgumentsAlone(t *testing.T) {
	builders := append(oddBuilders(), impl.NewBuilder(), someBuilder(), full(39), full(40), chain(8))
	for name, call := range scriptCalls {
		for _, b := range builders {
			for _, l := range memoryScripts() {
				checkScriptsApart(t, name, b, someSheets(), l, call)
				checkScriptsApart(t, name, b, nil, l, call)
			}
		}
	}
}

// checkScriptsApart checks that call neither changes the memory of its arguments nor returns a part of it.
func checkScriptsApart(t *testing.T, what string, b impl.Builder, sheets []impl.Sheet, l []impl.Line, call func(impl.Builder, []impl.Sheet, []impl.Line) scriptMemory) {
	t.Helper()
	givenBuilder, builderMemory := roomyBuilder(b)
	givenSheets, sheetsMemory := roomySheets(sheets)
	givenLines, linesMemory := roomy(l, line(5, "spare"))
	memory := func() string { return fmt.Sprintf("%s %s %+v", builderMemory(), sheetsMemory(), linesMemory) }
	before := memory()
	got := call(givenBuilder, givenSheets, givenLines)
	if after := memory(); after != before {
		t.Fatalf("%s changed the memory of its arguments: %q, not %q", what, after, before)
	}
	want := got.copy()
	checkOwnNodes(t, what, copyHeads(got.builder))
	got.overwrite()
	if after := memory(); after != before {
		t.Fatalf("%s returned memory of its arguments: %q, not %q", what, after, before)
	}
	got = call(givenBuilder, givenSheets, givenLines)
	overwriteBuilder(givenBuilder)
	overwriteSheets(givenSheets)
	overwrite(givenLines, line(5, "other"))
	checkBuilder(t, what+" after its arguments have changed", got.builder, want.builder)
	if !slices.Equal(got.lines, want.lines) || !slices.Equal(got.log, want.log) {
		t.Fatalf("%s: %q became %q after its arguments have changed", what, fmt.Sprintf("%+v", want), fmt.Sprintf("%+v", got))
	}
}

// What follows a slice in its memory is no part of it.
func TestScriptsDoNotSeeSpareCapacity(t *testing.T) {
	b, _ := roomyBuilder(someBuilder())
	sheets, _ := roomySheets([]impl.Sheet{sheet(rule("p", 7)), sheet(rule("p", 8))})
	lines, _ := roomy([]impl.Line{line(3, "spare"), line(4, "spare"), line(4, "p"), line(2, "b")}, line(1, "spare"))
	want := builderOf([]int{0, 3, 5}, append(someBuilder().Nodes, element(0, "b"))...)
	checkOutcome(t, "spare capacity", runWhole(b, sheets, lines), outcome{want, "", []string{"count spare 0", "look spare 0", "look p 8"}})
	checkOutcome(t, "a part", runWhole(b, sheets[:1], lines[:3]), outcome{someBuilder(), "", []string{"count spare 0", "look spare 0", "look p 7"}})
	checkScriptForm(t, "count spare;look spare", lines[:2]...)
	checkPassive(t, true, lines[:3]...)
	checkPassive(t, false, lines...)
}

// Two results of the same arguments are apart from one another, too.
func TestScriptsReturnNewMemory(t *testing.T) {
	for name, call := range scriptCalls {
		for _, l := range memoryScripts() {
			b, sheets := someBuilder(), someSheets()
			first, second := call(b, sheets, l), call(b, sheets, l)
			want := second.copy()
			_ = append(first.builder.Nodes, element(0, "more"))
			_ = append(first.builder.Open, 99)
			_ = append(first.lines, line(5, "more"))
			_ = append(first.log, "more")
			first.overwrite()
			third := call(b, sheets, l)
			for _, again := range []scriptMemory{second, third} {
				checkBuilder(t, name+" again", again.builder, want.builder)
				if !slices.Equal(again.lines, want.lines) || !slices.Equal(again.log, want.log) {
					t.Fatalf("%s again: %q, not %q", name, fmt.Sprintf("%+v", again), fmt.Sprintf("%+v", want))
				}
			}
		}
	}
	// Two builders that come from one do not see one another's nodes.
	start, _ := roomyBuilder(someBuilder())
	first, _, _ := impl.RunLine(start, nil, line(2, "p"))
	second, _, _ := impl.RunLine(start, nil, line(2, "b"))
	third, _, _ := impl.RunLine(second, nil, line(2, "i"))
	fourth, _, _ := impl.RunLine(second, nil, line(2, "img"))
	checkBuilder(t, "the first", first, builderOf([]int{0, 3, 5}, append(someBuilder().Nodes, element(0, "p"))...))
	checkBuilder(t, "the second", second, builderOf([]int{0, 3, 5}, append(someBuilder().Nodes, element(0, "b"))...))
	checkBuilder(t, "the third", third, builderOf([]int{0, 3, 5}, append(someBuilder().Nodes, element(0, "b"), element(0, "i"))...))
	checkBuilder(t, "the fourth", fourth, builderOf([]int{0, 3, 5}, append(someBuilder().Nodes, element(0, "b"), element(0, "img"))...))
	checkBuilder(t, "the start", start, someBuilder())
}
