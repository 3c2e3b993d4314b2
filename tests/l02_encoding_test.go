package tests

import (
	"bytes"
	"encoding/binary"
	"math"
	"slices"
	"testing"

	"loop.example/g00586/impl"
)

// varintForms has the first and the last integer of each length, and some between them.
var varintForms = []struct {
	n    int
	form []byte
}{
	{0, []byte{0}},
	{1, []byte{1}},
	{127, []byte{127}},
	{128, []byte{128, 1}},
	{129, []byte{129, 1}},
	{255, []byte{255, 1}},
	{256, []byte{128, 2}},
	{300, []byte{172, 2}},
	{1<<14 - 1, []byte{255, 127}},
	{1 << 14, []byte{128, 128, 1}},
	{1<<21 - 1, []byte{255, 255, 127}},
	{1 << 21, []byte{128, 128, 128, 1}},
	{1<<28 - 1, []byte{255, 255, 255, 127}},
	{1 << 28, []byte{128, 128, 128, 128, 1}},
	{1<<35 - 1, []byte{255, 255, 255, 255, 127}},
	{1 << 35, []byte{128, 128, 128, 128, 128, 1}},
	{impl.MaxValue - 1, []byte{255, 159, 148, 165, 141, 29}},
	{impl.MaxValue, []byte{128, 160, 148, 165, 141, 29}},
}

// notEncoded has integers that the encoding does not carry.
var notEncoded = []int{-1, -2, -127, -128, -300, -impl.MaxValue, impl.MaxValue + 1, impl.MaxValue + 128,
	1<<42 - 1, 1 << 42, 1<<42 + 5, 1 << 56, math.MaxInt32 * math.MaxInt32, math.MaxInt, math.MinInt, math.MinInt + 5}

// farOffsets has offsets that no input has; a sum with one of them may wrap around.
var farOffsets = []int{-1, -2, -6, -100, math.MinInt, math.MinInt + 6, 1000, impl.MaxValue, math.MaxInt - 6, math.MaxInt - 5, math.MaxInt}

// prefixes has bytes that stand before an encoding: it is the same wherever it starts.
var prefixes = [][]byte{nil, {}, {9}, {128}, {255, 255, 0}, {128, 128, 128, 128, 128, 128, 128}}

func checkBytes(t *testing.T, what string, got []byte, want []byte) {
	t.Helper()
	if !bytes.Equal(got, want) {
		t.Errorf("%s: %v, not %v", what, got, want)
	}
}

func checkVarint(t *testing.T, b []byte, offset int, want int, wantNext int, wantOk bool) {
	t.Helper()
	if n, next, ok := impl.ReadUvarint(b, offset); n != want || next != wantNext || ok != wantOk {
		t.Errorf("ReadUvarint(%v, %d) is %d, %d, %t, not %d, %d, %t", b, offset, n, next, ok, want, wantNext, wantOk)
	}
}

func checkNoVarint(t *testing.T, b []byte, offset int) {
	t.Helper()
	checkVarint(t, b, offset, 0, 0, false)
}

func checkTaken(t *testing.T, b []byte, offset int, maxLen int, want []byte, wantNext int) {
	t.Helper()
	data, next, ok := impl.ReadBytes(b, offset, maxLen)
	if !bytes.Equal(data, want) || next != wantNext || !ok {
		t.Errorf("ReadBytes(%v, %d, %d) is %v, %d, %t, not %v, %d, true", b, offset, maxLen, data, next, ok, want, wantNext)
	}
}

func checkNotTaken(t *testing.T, b []byte, offset int, maxLen int) {
	t.Helper()
	if data, next, ok := impl.ReadBytes(b, offset, maxLen); len(data) != 0 || next != 0 || ok {
		t.Errorf("ReadBytes(%v, %d, %d) is %v, %d, %t", b, offset, maxLen, data, next, ok)
	}
}

func checkInts(t *testing.T, b []byte, offset int, count int, want []int, wantNext int) {
	t.Helper()
	values, next, ok := impl.DecodeInts(b, offset, count)
	if !slices.Equal(values, want) || next != wantNext || !ok {
		t.Errorf("DecodeInts(%v, %d, %d) is %v, %d, %t, not %v, %d, true", b, offset, count, values, next, ok, want, wantNext)
	}
}

func checkNoInts(t *testing.T, b []byte, offset int, count int) {
	t.Helper()
	if values, next, ok := impl.DecodeInts(b, offset, count); len(values) != 0 || next != 0 || ok {
		t.Errorf("DecodeInts(%v, %d, %d) is %v, %d, %t", b, offset, count, values, next, ok)
	}
}

func TestAppendUvarint(t *testing.T) {
	for _, c := range varintForms {
		for _, prefix := range prefixes {
			checkBytes(t, "AppendUvarint of "+impl.FormatInt(c.n), impl.AppendUvarint(prefix, c.n), slices.Concat(prefix, c.form))
		}
	}
}

func TestAppendUvarintOfOthers(t *testing.T) {
	for _, n := range notEncoded {
		for _, prefix := range prefixes {
			checkBytes(t, "AppendUvarint of "+impl.FormatInt(n), impl.AppendUvarint(prefix, n), prefix)
		}
	}
}

func TestReadUvarint(t *testing.T) {
	for _, c := range varintForms {
		for _, prefix := range prefixes {
			for _, rest := range prefixes {
				checkVarint(t, slices.Concat(prefix, c.form, rest), len(prefix), c.n, len(prefix)+len(c.form), true)
			}
		}
	}
}

func TestReadUvarintInvertsAppendUvarint(t *testing.T) {
	check := func(n int) {
		if n < 0 || n > impl.MaxValue {
			checkBytes(t, "AppendUvarint of "+impl.FormatInt(n), impl.AppendUvarint([]byte{7}, n), []byte{7})
			return
		}
		form := binary.AppendUvarint([]byte{7}, uint64(n))
		b := impl.AppendUvarint([]byte{7}, n)
		checkBytes(t, "AppendUvarint of "+impl.FormatInt(n), b, form)
		checkVarint(t, b, 1, n, len(form), true)
	}
	for n := -300; n <= 20000; n++ {
		check(n)
		check(impl.MaxValue + n)
	}
	for power := 1; power < 1<<43; power *= 2 {
		for n := -20; n <= 20; n++ {
			check(power + n)
		}
	}
	for power := 1; power <= impl.MaxValue*10; power *= 10 {
		check(power)
		check(-power)
	}
}

func TestReadUvarintBeyondTheInput(t *testing.T) {
	for _, b := range [][]byte{nil, {}, {5}, {128, 1}, {1, 2, 3, 4, 5, 6, 7}} {
		checkNoVarint(t, b, len(b))
		checkNoVarint(t, b, len(b)+1)
		for _, offset := range farOffsets {
			checkNoVarint(t, b, offset)
		}
	}
	// What follows the slice in its memory is not part of the input.
	whole := []byte{128, 1, 2}
	checkNoVarint(t, whole[:1], 0)
	checkNoVarint(t, whole[:1], 1)
	checkNoVarint(t, whole[:2], 2)
}

func TestReadUvarintThatEndsEarly(t *testing.T) {
	for _, c := range varintForms {
		for _, prefix := range prefixes {
			for size := range len(c.form) {
				checkNoVarint(t, slices.Concat(prefix, c.form[:size]), len(prefix))
			}
		}
	}
}

func TestReadUvarintRejects(t *testing.T) {
	groups := map[string][][]byte{
		"a last group of zero": {{128, 0}, {129, 0}, {255, 0}, {128, 128, 0}, {255, 255, 0}, {128, 1 + 128, 0},
			{128, 128, 128, 0}, {128, 128, 128, 128, 0}, {128, 128, 128, 128, 128, 0}, {255, 255, 255, 255, 255, 0}},
		"more than six bytes": {{128, 128, 128, 128, 128, 128, 0}, {128, 128, 128, 128, 128, 128, 1},
			{129, 128, 128, 128, 128, 128, 0}, {255, 255, 255, 255, 255, 255, 127}, {128, 160, 148, 165, 141, 157, 0},
			{128, 128, 128, 128, 128, 128, 128, 128, 128, 1}, {255, 255, 255, 255, 255, 255, 255, 255, 255, 1},
			{129, 128, 128, 128, 128, 128, 128, 128, 128, 0}, bytes.Repeat([]byte{128}, 100),
			append(bytes.Repeat([]byte{128}, 9), 2), append(bytes.Repeat([]byte{128}, 63), 1)},
		"beyond MaxValue": {{129, 160, 148, 165, 141, 29}, {255, 255, 255, 255, 255, 29}, {128, 128, 128, 128, 128, 30},
			{128, 128, 128, 128, 128, 32}, {255, 255, 255, 255, 255, 127}},
		"no last group": {{128}, {255}, {128, 128}, {128, 128, 128, 128, 128}, {128, 128, 128, 128, 128, 128}},
	}
	for name, list := range groups {
		t.Run(name, func(t *testing.T) {
			for _, b := range list {
				checkNoVarint(t, b, 0)
				checkNoVarint(t, append([]byte{3, 128}, b...), 2)
				if name != "no last group" {
					checkNoVarint(t, append(slices.Clone(b), 1, 1), 0)
				}
			}
		})
	}
}

// checkAgainstLibrary compares ReadUvarint with the standard library's varints, which have no limits of their own up to ten bytes.
func checkAgainstLibrary(t *testing.T, b []byte) {
	t.Helper()
	n, size := binary.Uvarint(b)
	minimal := size == 1 || size > 1 && b[size-1] != 0
	if minimal && size <= 6 && n <= impl.MaxValue {
		checkVarint(t, b, 0, int(n), size, true)
	} else {
		checkNoVarint(t, b, 0)
	}
}

func TestReadUvarintOfAllShortInputs(t *testing.T) {
	checkAgainstLibrary(t, nil)
	for first := range 256 {
		checkAgainstLibrary(t, []byte{byte(first)})
		for second := range 256 {
			checkAgainstLibrary(t, []byte{byte(first), byte(second)})
		}
	}
}

func TestReadUvarintOfLongInputs(t *testing.T) {
	// The groups of MaxValue, which are 128, 160, 148, 165, 141 and 29, and those beside them are among these.
	alphabets := [][]byte{{0, 1, 127, 128, 129, 255}, {1, 128, 159, 160, 161}, {1, 128, 147, 148, 149}, {1, 128, 164, 165, 166},
		{1, 128, 140, 141, 142}, {0, 1, 28, 29, 30, 31, 127, 128, 255}, {0, 1, 128}}
	inputs := [][]byte{{}}
	for _, alphabet := range alphabets {
		longer := [][]byte{}
		for _, b := range inputs {
			for _, last := range alphabet {
				longer = append(longer, append(slices.Clone(b), last))
			}
		}
		inputs = longer
		for _, b := range inputs {
			checkAgainstLibrary(t, b)
		}
	}
}

// someBytes returns bytes of which none equals its neighbours.
func someBytes(size int) []byte {
	b := make([]byte, size)
	for i := range b {
		b[i] = byte(i*37 + 130)
	}
	return b
}

func TestAppendBytes(t *testing.T) {
	cases := []struct{ data, form []byte }{
		{nil, []byte{0}},
		{[]byte{}, []byte{0}},
		{[]byte{0}, []byte{1, 0}},
		{[]byte{255}, []byte{1, 255}},
		{[]byte{7, 8}, []byte{2, 7, 8}},
		{[]byte("page"), []byte("\x04page")},
		{someBytes(127), append([]byte{127}, someBytes(127)...)},
		{someBytes(128), append([]byte{128, 1}, someBytes(128)...)},
		{someBytes(300), append([]byte{172, 2}, someBytes(300)...)},
		{someBytes(1 << 14), append([]byte{128, 128, 1}, someBytes(1<<14)...)},
	}
	for _, c := range cases {
		for _, prefix := range prefixes {
			checkBytes(t, "AppendBytes", impl.AppendBytes(prefix, c.data), slices.Concat(prefix, c.form))
		}
	}
}

func TestReadBytesInvertsAppendBytes(t *testing.T) {
	for _, size := range []int{0, 1, 2, 3, 20, 126, 127, 128, 129, 255, 256, 300, 1<<14 - 1, 1 << 14, 100000} {
		for _, prefix := range prefixes {
			for _, rest := range prefixes {
				b := append(impl.AppendBytes(prefix, someBytes(size)), rest...)
				next := len(b) - len(rest)
				checkTaken(t, b, len(prefix), size, someBytes(size), next)
				checkTaken(t, b, len(prefix), size+1, someBytes(size), next)
				checkTaken(t, b, len(prefix), math.MaxInt, someBytes(size), next)
				for _, most := range []int{size - 1, -1, -size - 1, math.MinInt} {
					checkNotTaken(t, b, len(prefix), most)
				}
			}
		}
	}
}

func TestReadBytesOneAfterTheOther(t *testing.T) {
	texts := []string{"home", "", "cdn/lib", "evil", ""}
	b := []byte{}
	for _, text := range texts {
		b = impl.AppendBytes(b, []byte(text))
	}
	offset := 0
	for _, text := range texts {
		next := offset + 1 + len(text)
		checkTaken(t, b, offset, 7, []byte(text), next)
		offset = next
	}
	checkNotTaken(t, b, offset, 7)
}

func TestReadBytesThatEndsEarly(t *testing.T) {
	for _, size := range []int{1, 2, 20, 127, 128, 300} {
		whole := impl.AppendBytes([]byte{1}, someBytes(size))
		for end := 1; end < len(whole); end++ {
			// The missing bytes are still in the memory behind the slice.
			checkNotTaken(t, whole[:end], 1, math.MaxInt)
			checkNotTaken(t, slices.Clone(whole[:end]), 1, math.MaxInt)
		}
	}
	for _, size := range []int{1, 1 << 20, 1 << 35, impl.MaxValue} {
		b := impl.AppendUvarint(nil, size)
		checkNotTaken(t, b, 0, math.MaxInt)
		checkNotTaken(t, b, 0, size)
	}
}

func TestReadBytesWithoutLength(t *testing.T) {
	inputs := [][]byte{nil, {}, {128}, {128, 0}, {129, 0, 5}, {130, 128, 0, 5, 5}, {129, 128, 128, 128, 128, 128, 0, 5},
		{129, 160, 148, 165, 141, 29}, {255, 255, 255, 255, 255, 255, 255, 255, 255, 1}}
	for _, b := range inputs {
		checkNotTaken(t, b, 0, 10)
		checkNotTaken(t, b, 0, math.MaxInt)
	}
	b := []byte{1, 5, 0}
	checkNotTaken(t, b, 3, 10)
	checkNotTaken(t, b, 4, 10)
	for _, offset := range farOffsets {
		checkNotTaken(t, b, offset, 10)
		checkNotTaken(t, nil, offset, 10)
	}
}

func TestEncodeInts(t *testing.T) {
	cases := []struct {
		values []int
		form   []byte
	}{
		{nil, nil},
		{[]int{}, nil},
		{[]int{0}, []byte{0}},
		{[]int{5, 300}, []byte{5, 172, 2}},
		{[]int{300, 5, 0, 0, 128}, []byte{172, 2, 5, 0, 0, 128, 1}},
		{[]int{impl.MaxValue, 1}, []byte{128, 160, 148, 165, 141, 29, 1}},
		{[]int{-1}, nil},
		{[]int{impl.MaxValue + 1}, nil},
		{[]int{-1, 5, impl.MaxValue + 1, 300, math.MinInt}, []byte{5, 172, 2}},
	}
	for _, c := range cases {
		checkBytes(t, "EncodeInts", impl.EncodeInts(c.values), c.form)
	}
	checkBytes(t, "EncodeInts of what is omitted", impl.EncodeInts(notEncoded), nil)
	form := []byte{}
	for range 250 { // the limit of DecodeInts is not one of EncodeInts
		form = append(form, 172, 2)
	}
	checkBytes(t, "EncodeInts of many", impl.EncodeInts(slices.Repeat([]int{300}, 250)), form)
}

// someInts returns integers of one to six bytes.
func someInts(count int) []int {
	values := make([]int, count)
	for i := range values {
		values[i] = varintForms[i%len(varintForms)].n
	}
	return values
}

func TestDecodeIntsInvertsEncodeInts(t *testing.T) {
	for _, count := range []int{0, 1, 2, 3, 18, 19, 50, 99, 100} {
		for _, prefix := range prefixes {
			for _, rest := range prefixes {
				b := slices.Concat(prefix, impl.EncodeInts(someInts(count)), rest)
				checkInts(t, b, len(prefix), count, someInts(count), len(b)-len(rest))
			}
		}
	}
	b := impl.EncodeInts([]int{-1, 5, impl.MaxValue + 1, 300})
	checkInts(t, b, 0, 2, []int{5, 300}, 3)
}

func TestDecodeIntsCounts(t *testing.T) {
	b := impl.EncodeInts(someInts(200))
	checkInts(t, b, 0, 0, nil, 0)
	checkInts(t, b, 0, 1, []int{0}, 1)
	checkInts(t, b, 0, 99, someInts(99), len(impl.EncodeInts(someInts(99))))
	checkInts(t, b, 0, 100, someInts(100), len(impl.EncodeInts(someInts(100))))
	for _, count := range []int{101, 102, 200, 201, 1 << 32, impl.MaxValue, math.MaxInt, -1, -100, math.MinInt} {
		checkNoInts(t, b, 0, count)
		checkNoInts(t, b, len(b), count)
		checkNoInts(t, nil, 0, count)
	}
}

func TestDecodeIntsOffsets(t *testing.T) {
	b := impl.EncodeInts([]int{5, 300})
	checkInts(t, b, 1, 1, []int{300}, 3)
	checkInts(t, b, 2, 1, []int{2}, 3)
	for offset := range 4 {
		checkInts(t, b, offset, 0, nil, offset)
	}
	checkInts(t, nil, 0, 0, nil, 0)
	checkNoInts(t, b, 3, 1)
	checkNoInts(t, nil, 0, 1)
	for _, count := range []int{0, 1, 2, 100, 101, -1} {
		checkNoInts(t, b, 4, count)
		checkNoInts(t, nil, 1, count)
		for _, offset := range farOffsets {
			checkNoInts(t, b, offset, count)
			checkNoInts(t, nil, offset, count)
		}
	}
}

func TestDecodeIntsRejects(t *testing.T) {
	whole := impl.EncodeInts(someInts(18))
	for end := range len(whole) {
		checkNoInts(t, whole[:end], 0, 18)
	}
	notVarints := [][]byte{{}, {128}, {128, 0}, {128, 128, 128, 128, 128, 128, 1}, {129, 160, 148, 165, 141, 29}}
	for _, b := range notVarints {
		for before := range 3 {
			prefix := impl.EncodeInts(someInts(before))
			checkNoInts(t, slices.Concat(prefix, b), 0, before+1)
			checkInts(t, slices.Concat(prefix, b), 0, before, someInts(before), len(prefix))
		}
		if len(b) > 1 {
			checkNoInts(t, slices.Concat(b, []byte{1, 1}), 0, 2)
		}
	}
}

func TestEqualBytes(t *testing.T) {
	lists := [][]byte{{}, {0}, {1}, {0, 0}, {0, 1}, {1, 0}, {1, 2}, {129, 2}, {1, 130}, {1, 2, 0}, {0, 1, 2}, {1, 2, 3}, someBytes(200), someBytes(201)}
	for i, a := range lists {
		for j, b := range lists {
			if got := impl.EqualBytes(a, slices.Clone(b)); got != (i == j) {
				t.Errorf("EqualBytes(%v, %v) is %t", a, b, got)
			}
		}
		if got := impl.EqualBytes(a, nil); got != (i == 0) {
			t.Errorf("EqualBytes(%v, nil) is %t", a, got)
		}
		if got := impl.EqualBytes(nil, a); got != (i == 0) {
			t.Errorf("EqualBytes(nil, %v) is %t", a, got)
		}
	}
	if !impl.EqualBytes(nil, nil) {
		t.Error("EqualBytes(nil, nil) is false")
	}
	whole := []byte{1, 2, 3, 1, 2, 4}
	if !impl.EqualBytes(whole[:2], whole[3:5]) || impl.EqualBytes(whole[:3], whole[3:]) || impl.EqualBytes(whole[:2], whole[:3]) {
		t.Error("EqualBytes of parts of one slice")
	}
}

// roomy returns a slice with these elements, and the memory with spare capacity that it is a part of.
func roomy[E any](elements []E, spare E) ([]E, []E) {
	memory := slices.Concat(elements, slices.Repeat([]E{spare}, 40))
	return memory[:len(elements)], memory
}

// overwrite changes all that a slice reaches, its spare capacity included.
func overwrite[E any](l []E, with E) {
	l = l[:cap(l)]
	for i := range l {
		l[i] = with
	}
}

// checkApart checks that call neither changes the memory of its argument nor returns a part of it.
func checkApart[A comparable, R comparable](t *testing.T, what string, elements []A, spare A, other R, call func([]A) []R, changed A) {
	t.Helper()
	argument, memory := roomy(elements, spare)
	before := slices.Clone(memory)
	got := call(argument)
	if !slices.Equal(memory, before) {
		t.Errorf("%s changed the memory of its argument: %v, not %v", what, memory, before)
	}
	want := slices.Clone(got)
	overwrite(memory, changed)
	if !slices.Equal(got, want) {
		t.Errorf("%s returned memory of its argument: %v became %v", what, want, got)
	}
	copy(memory, before)
	overwrite(got, other)
	if !slices.Equal(memory, before) {
		t.Errorf("%s returned memory of its argument: %v, not %v", what, memory, before)
	}
}

func TestEncodingLeavesArgumentsAlone(t *testing.T) {
	input := slices.Concat([]byte{1}, impl.AppendBytes(nil, []byte("page")), []byte{172, 2, 0})
	calls := map[string]func(b []byte) []byte{
		"AppendUvarint":                 func(b []byte) []byte { return impl.AppendUvarint(b, 300) },
		"AppendUvarint of a negative":   func(b []byte) []byte { return impl.AppendUvarint(b, -1) },
		"AppendUvarint of too much":     func(b []byte) []byte { return impl.AppendUvarint(b, impl.MaxValue+1) },
		"AppendBytes to it":             func(b []byte) []byte { return impl.AppendBytes(b, []byte{7, 8}) },
		"AppendBytes of nothing to it":  func(b []byte) []byte { return impl.AppendBytes(b, nil) },
		"AppendBytes of it":             func(b []byte) []byte { return impl.AppendBytes(nil, b) },
		"AppendBytes of it to itself":   func(b []byte) []byte { return impl.AppendBytes(b, b) },
		"AppendBytes of its part to it": func(b []byte) []byte { return impl.AppendBytes(b[:len(b)/2], b[len(b)/2:]) },
		"ReadBytes":                     func(b []byte) []byte { data, _, _ := impl.ReadBytes(b, 1, 4); return data },
		"ReadBytes of all":              func(b []byte) []byte { data, _, _ := impl.ReadBytes(b, 0, 4); return data },
		"ReadBytes of nothing":          func(b []byte) []byte { data, _, _ := impl.ReadBytes(b, len(b)-1, 4); return data },
		"ReadBytes that fails":          func(b []byte) []byte { data, _, _ := impl.ReadBytes(b, 1, 3); return data },
		"ReadUvarint":                   func(b []byte) []byte { impl.ReadUvarint(b, 0); return nil },
		"ReadUvarint that fails":        func(b []byte) []byte { impl.ReadUvarint(b, len(b)); return nil },
		"EqualBytes":                    func(b []byte) []byte { impl.EqualBytes(b, b[1:]); return nil },
	}
	for name, call := range calls {
		for _, elements := range [][]byte{input, {3, 1, 2, 3}, {0}} {
			checkApart(t, name, elements, 170, 0, call, 85)
		}
	}
	checkApart(t, "DecodeInts", input, 170, 0, func(b []byte) []int { values, _, _ := impl.DecodeInts(b, 0, 7); return values }, 85)
	checkApart(t, "DecodeInts that fails", input, 170, 0, func(b []byte) []int { values, _, _ := impl.DecodeInts(b, 0, 9); return values }, 85)
	for _, values := range [][]int{{5, 300}, {-1, 5, impl.MaxValue + 1}, {0}, {-1}} {
		checkApart(t, "EncodeInts", values, 170, 0, impl.EncodeInts, 85)
	}
}

// Two results of the same argument are apart from one another, too: an append to one is not seen in the other.
func TestEncodingReturnsNewMemory(t *testing.T) {
	b, _ := roomy([]byte{1, 2}, 170)
	one := impl.AppendUvarint(b, 3)
	two := impl.AppendUvarint(b, 4)
	three := impl.AppendBytes(b, []byte{5})
	checkBytes(t, "the first result", one, []byte{1, 2, 3})
	checkBytes(t, "the second result", two, []byte{1, 2, 4})
	checkBytes(t, "the third result", three, []byte{1, 2, 1, 5})
	x := impl.AppendBytes(nil, []byte{7, 8})
	first, _, _ := impl.ReadBytes(x, 0, 2)
	second, _, _ := impl.ReadBytes(x, 0, 2)
	overwrite(first, 0)
	checkBytes(t, "the second string that was read", second, []byte{7, 8})
	checkBytes(t, "the input", x, []byte{2, 7, 8})
}
