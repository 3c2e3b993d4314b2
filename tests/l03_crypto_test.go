package tests

import (
	"math"
	"math/big"
	"slices"
	"strings"
	"testing"

	"loop.example/g00586/impl"
)

// someKeys has keys of which no two are equal modulo Modulus, and some that are; the cipher takes invalid keys too.
var someKeys = []int{0, 1, 2, 77, impl.Modulus - 1, impl.Modulus, impl.Modulus + 1, 2*impl.Modulus - 1, -1, -2, -77, -impl.Modulus,
	-impl.Modulus - 1, impl.MaxValue, math.MaxInt, math.MinInt}

// someLists has lists of values for hashes.
var someLists = [][]int{nil, {}, {0}, {5}, {-1}, {0, 0}, {1, 2, 3}, {-1, -2, -3}, {300, -300, 300}, {impl.Modulus - 1, impl.Modulus, impl.Modulus + 1},
	{-impl.Modulus, 1 - impl.Modulus, -impl.Modulus - 1}, {math.MaxInt, math.MinInt}, {math.MinInt, 0, math.MaxInt, 0, math.MinInt},
	{impl.MaxValue, -impl.MaxValue}}

// foldedHash folds the values without a limit of 64 bits; big.Int's Mod is never negative.
func foldedHash(values []int) int {
	modulus := big.NewInt(2147483647)
	folded := big.NewInt(11)
	for _, v := range values {
		folded.Mul(folded, big.NewInt(1000003))
		folded.Add(folded, new(big.Int).Mod(big.NewInt(int64(v)), modulus))
		folded.Add(folded, big.NewInt(13))
		folded.Mod(folded, modulus)
	}
	return int(folded.Int64())
}

func foldedKeyedHash(key int, values []int) int {
	return foldedHash(slices.Concat([]int{key}, values, []int{key}))
}

func checkHash(t *testing.T, values []int, want int) {
	t.Helper()
	if got := impl.Hash(values); got != want {
		t.Errorf("Hash(%v) is %d, not %d", values, got, want)
	}
}

func checkKeyedHash(t *testing.T, key int, values []int, want int) {
	t.Helper()
	if got := impl.KeyedHash(key, values); got != want {
		t.Errorf("KeyedHash(%d, %v) is %d, not %d", key, values, got, want)
	}
}

func TestModulus(t *testing.T) {
	if impl.Modulus != 2147483647 {
		t.Errorf("Modulus is %d", impl.Modulus)
	}
}

func TestHash(t *testing.T) {
	cases := []struct {
		values []int
		want   int
	}{
		{nil, 11},
		{[]int{}, 11},
		{[]int{0}, 11000046},
		{[]int{5}, 11000051},
		{[]int{-1}, 11000045},
		{[]int{impl.Modulus - 1}, 11000045},
		{[]int{impl.Modulus}, 11000046},
		{[]int{impl.Modulus + 1}, 11000047},
		{[]int{-impl.Modulus}, 11000046},
		{[]int{-impl.Modulus - 1}, 11000045},
		{[]int{math.MaxInt}, 11000047},
		{[]int{math.MinInt}, 11000044},
		{[]int{2136483600}, impl.Modulus - 1},
		{[]int{2136483601}, 0},
		{[]int{0, 0}, 667760217},
		{[]int{1, 2}, 668760222},
		{[]int{2, 1}, 669760224},
		{[]int{1, 2, 3}, 1460866530},
		{[]int{-1, -2, -3}, 752141851},
		{[]int{5, 300, -7, math.MaxInt, math.MinInt}, 906368604},
		{[]int{impl.MaxValue}, 1431104191},
	}
	for _, c := range cases {
		checkHash(t, c.values, c.want)
	}
}

func TestHashFoldsAllValues(t *testing.T) {
	for _, values := range someLists {
		checkHash(t, values, foldedHash(values))
	}
	for n := -3000; n <= 3000; n++ {
		for _, around := range []int{0, impl.Modulus, -impl.Modulus, math.MaxInt - 3000, math.MinInt + 3000} {
			checkHash(t, []int{around + n, n}, foldedHash([]int{around + n, n}))
		}
	}
	long := []int{}
	for i := range 500 {
		long = append(long, (i-250)*9000000000000001)
		checkHash(t, long, foldedHash(long))
	}
}

func TestHashIsInRange(t *testing.T) {
	for _, values := range someLists {
		for n := -200; n <= 200; n++ {
			longer := append(slices.Clone(values), n*1000000007)
			if got := impl.Hash(longer); got < 0 || got >= impl.Modulus {
				t.Errorf("Hash(%v) is %d", longer, got)
			}
		}
	}
}

// checkDependence checks that a hash changes with each of its values, but not when a multiple of Modulus is added to one.
func checkDependence(t *testing.T, what string, hash func([]int) int) {
	t.Helper()
	values := []int{5, 0, -7, 300, impl.Modulus - 1, 0, 5}
	before := hash(values)
	for i := range values {
		changed := slices.Clone(values)
		for _, times := range []int{1, 2, 1000, 1 << 31, -1, -2, -1000, -1 << 31} {
			changed[i] = values[i] + times*impl.Modulus
			if got := hash(changed); got != before {
				t.Errorf("%s of %v is %d, but %d of %v", what, changed, got, before, values)
			}
		}
		for _, by := range []int{1, -1, 2, 256, -256, 1000003, impl.Modulus - 1, impl.Modulus + 1, 1 << 31, 1 << 32, -1 << 32} {
			changed[i] = values[i] + by
			if hash(changed) == before {
				t.Errorf("%s of %v and of %v is %d", what, changed, values, before)
			}
		}
	}
}

func TestHashDependsOnEachValue(t *testing.T) {
	checkDependence(t, "Hash", impl.Hash)
	for _, key := range someKeys {
		checkDependence(t, "KeyedHash with "+impl.FormatInt(key), func(values []int) int { return impl.KeyedHash(key, values) })
	}
	checkDependence(t, "KeyedHash of its key and values", func(values []int) int { return impl.KeyedHash(values[0], values[1:]) })
}

// The lists differ in order, in length, or in where the values of one end and those of the other go on.
func TestHashTellsListsApart(t *testing.T) {
	lists := [][]int{{}, {0}, {0, 0}, {0, 0, 0}, {1}, {1, 0}, {0, 1}, {1, 2, 3}, {3, 2, 1}, {2, 1, 3}, {1, 3, 2}, {1, 2}, {2, 3}, {12, 3}, {1, 23}, {123}, {6}, {-1}, {-6}}
	hashes := map[string]func([]int) int{
		"Hash":             impl.Hash,
		"KeyedHash with 0": func(values []int) int { return impl.KeyedHash(0, values) },
		"KeyedHash with 9": func(values []int) int { return impl.KeyedHash(9, values) },
	}
	for name, hash := range hashes {
		for i, a := range lists {
			for j, b := range lists {
				if (hash(a) == hash(b)) != (i == j) {
					t.Errorf("%s of %v is %d, of %v %d", name, a, hash(a), b, hash(b))
				}
			}
		}
	}
}

func TestKeyedHash(t *testing.T) {
	cases := []struct {
		key    int
		values []int
		want   int
	}{
		{0, nil, 667760217},
		{0, []int{}, 667760217},
		{1, nil, 668760221},
		{-1, nil, 666760213},
		{impl.Modulus - 1, nil, 666760213},
		{impl.Modulus, nil, 667760217},
		{3, []int{4}, 20107550},
		{7, []int{1, 2, 3}, 1633700111},
		{-7, []int{-1, 0, impl.Modulus}, 2132719685},
		{math.MaxInt, []int{math.MinInt}, 1456866516},
		{math.MinInt, []int{math.MaxInt}, 1476521354},
	}
	for _, c := range cases {
		checkKeyedHash(t, c.key, c.values, c.want)
	}
}

func TestKeyedHashPutsTheKeyAtBothEnds(t *testing.T) {
	for _, key := range someKeys {
		for _, values := range someLists {
			checkKeyedHash(t, key, values, foldedKeyedHash(key, values))
			checkKeyedHash(t, key, values, impl.Hash(slices.Concat([]int{key}, values, []int{key})))
		}
	}
}

func TestIsValidKey(t *testing.T) {
	for _, key := range []int{1, 2, 77, 1000003, impl.Modulus / 2, impl.Modulus - 2, impl.Modulus - 1} {
		if !impl.IsValidKey(key) {
			t.Errorf("IsValidKey(%d) is false", key)
		}
	}
	for _, key := range []int{0, -1, -2, impl.Modulus, impl.Modulus + 1, 1 - impl.Modulus, -impl.Modulus, -impl.Modulus - 1, 2*impl.Modulus - 1,
		1 << 31, 1 << 32, 1<<32 + 1, impl.MaxValue, math.MaxInt, math.MinInt, math.MinInt + 1} {
		if impl.IsValidKey(key) {
			t.Errorf("IsValidKey(%d) is true", key)
		}
	}
}

func TestBytesToInts(t *testing.T) {
	cases := []struct {
		b    []byte
		want []int
	}{
		{nil, []int{0}},
		{[]byte{}, []int{0}},
		{[]byte{0}, []int{1, 0}},
		{[]byte{255}, []int{1, 255}},
		{[]byte{9, 8}, []int{2, 9, 8}},
		{[]byte{0, 255, 0, 127, 128}, []int{5, 0, 255, 0, 127, 128}},
		{[]byte("page"), []int{4, 112, 97, 103, 101}},
		{[]byte("\u00e9"), []int{2, 195, 169}},
	}
	for _, c := range cases {
		if got := impl.BytesToInts(c.b); !slices.Equal(got, c.want) {
			t.Errorf("BytesToInts(%v) is %v, not %v", c.b, got, c.want)
		}
	}
	for _, size := range []int{255, 256, 300, 1000} { // the length is not one of a byte
		got := impl.BytesToInts(someBytes(size))
		if len(got) != size+1 || got[0] != size {
			t.Fatalf("BytesToInts of %d bytes is %v", size, got)
		}
		for i, c := range someBytes(size) {
			if got[i+1] != int(c) {
				t.Errorf("BytesToInts of %d bytes has %d, not %d, for byte %d", size, got[i+1], c, i)
			}
		}
	}
}

// someTexts has byte strings for the cipher; the indices of the long one are not all those of a byte.
var someTexts = [][]byte{nil, {}, {0}, {255}, {0, 255, 0, 255}, []byte("hello"), slices.Repeat([]byte{0}, 20), slices.Repeat([]byte{255}, 20), someBytes(600)}

func TestEncryptAndDecryptKnownTexts(t *testing.T) {
	cases := []struct {
		key               int
		plain, ciphertext []byte
	}{
		{77, []byte("hello"), []byte{249, 57, 131, 198, 12}},
		{78, []byte("hello"), []byte{84, 148, 222, 33, 103}},
		{0, []byte{0, 0, 0, 0}, []byte{255, 66, 133, 200}},
		{1, []byte{255, 255, 255, 255}, []byte{89, 156, 223, 34}},
		{-1, []byte{0, 255, 0, 255}, []byte{163, 229, 41, 107}},
		{impl.Modulus - 1, []byte{0, 255, 0, 255}, []byte{163, 229, 41, 107}},
		{impl.Modulus, []byte{0, 0, 0, 0}, []byte{255, 66, 133, 200}},
		{math.MinInt, []byte("page"), []byte{183, 235, 52, 117}},
		{math.MaxInt, []byte("page"), []byte{202, 254, 71, 136}},
	}
	for _, c := range cases {
		checkBytes(t, "Encrypt with "+impl.FormatInt(c.key), impl.Encrypt(c.key, c.plain), c.ciphertext)
		checkBytes(t, "Decrypt with "+impl.FormatInt(c.key), impl.Decrypt(c.key, c.ciphertext), c.plain)
	}
}

func TestEncryptAddsTheKeyStream(t *testing.T) {
	for _, key := range someKeys {
		for _, text := range someTexts {
			added, subtracted := make([]byte, len(text)), make([]byte, len(text))
			for i, c := range text {
				value := foldedKeyedHash(key, []int{i})
				added[i] = byte((int(c) + value) % 256)
				subtracted[i] = byte(((int(c)-value)%256 + 256) % 256)
			}
			checkBytes(t, "Encrypt with "+impl.FormatInt(key), impl.Encrypt(key, text), added)
			checkBytes(t, "Decrypt with "+impl.FormatInt(key), impl.Decrypt(key, text), subtracted)
		}
	}
}

func TestDecryptInvertsEncrypt(t *testing.T) {
	every := make([]byte, 256)
	for i := range every {
		every[i] = byte(i)
	}
	for _, key := range someKeys {
		for _, text := range append(slices.Clone(someTexts), every) {
			checkBytes(t, "Decrypt of Encrypt with "+impl.FormatInt(key), impl.Decrypt(key, impl.Encrypt(key, text)), text)
			checkBytes(t, "Encrypt of Decrypt with "+impl.FormatInt(key), impl.Encrypt(key, impl.Decrypt(key, text)), text)
		}
	}
}

func TestDecryptWithAnotherKey(t *testing.T) {
	text := []byte("the same page in the end")
	for _, key := range someKeys {
		for _, other := range someKeys {
			same := impl.Mod(key, impl.Modulus) == impl.Mod(other, impl.Modulus)
			if got := slices.Equal(impl.Decrypt(other, impl.Encrypt(key, text)), text); got != same {
				t.Errorf("Decrypt with %d of Encrypt with %d returns the text: %t", other, key, got)
			}
		}
	}
}

func TestEncryptHidesTheText(t *testing.T) {
	for _, key := range someKeys {
		for _, text := range someTexts {
			if len(text) > 3 && slices.Equal(impl.Encrypt(key, text), text) {
				t.Errorf("Encrypt(%d, %v) is the text", key, text)
			}
		}
	}
}

// A stream goes from index to index, but it starts anew in each call, and a byte is the same whatever follows it.
func TestEncryptStartsAnew(t *testing.T) {
	whole := impl.Encrypt(77, someBytes(300))
	for size := range 300 {
		checkBytes(t, "Encrypt of a first part", impl.Encrypt(77, someBytes(size)), whole[:size])
	}
	checkBytes(t, "Encrypt once more", impl.Encrypt(77, someBytes(300)), whole)
}

func checkDerived(t *testing.T, key int, label string, want int) {
	t.Helper()
	if got := impl.DeriveFromString(key, label); got != want {
		t.Errorf("DeriveFromString(%d, %q) is %d, not %d", key, label, got, want)
	}
}

func TestDeriveFromString(t *testing.T) {
	cases := []struct {
		key   int
		label string
		want  int
	}{
		{5, "ab", 1905036959},
		{5, "", 720832201},
		{0, "", 32762367},
		{impl.Modulus, "", 32762367},
		{-5, "page", 1468059965},
		{impl.Modulus - 5, "page", 1468059965},
		{impl.Modulus - 1, "page", 1124695773},
		{-1, "page", 1124695773},
		{77, "\u00e9", 1712503975},
		{77, "\xff\x00", 1210406828},
	}
	for _, c := range cases {
		checkDerived(t, c.key, c.label, c.want)
	}
}

// For each of these labels there is one key, modulo Modulus, with which the keyed hash is 0.
func TestDeriveFromStringIsNeverZero(t *testing.T) {
	cases := []struct {
		key   int
		label string
	}{
		{1310415589, ""},
		{1310415589 - impl.Modulus, ""},
		{1310415589 + impl.Modulus, ""},
		{916074962, "ab"},
		{1579372020, "page"},
	}
	for _, c := range cases {
		checkKeyedHash(t, c.key, impl.BytesToInts([]byte(c.label)), 0)
		checkDerived(t, c.key, c.label, 1)
		if impl.DeriveFromString(c.key+1, c.label) == 1 || impl.DeriveFromString(c.key-1, c.label) == 1 {
			t.Errorf("DeriveFromString is 1 beside %d, %q", c.key, c.label)
		}
	}
}

func TestDeriveFromStringOfLabels(t *testing.T) {
	labels := []string{"", "a", "b", "ab", "ba", "abc", "A", "\x00", "\x00\x00", "a\x00", "\xff", "\u00e9", "\u4e16\u754c", "e\u0301", strings.Repeat("long", 100)}
	for _, key := range someKeys {
		derived := map[int]string{}
		for _, label := range labels {
			values := []int{len(label)}
			for _, c := range []byte(label) {
				values = append(values, int(c))
			}
			checkDerived(t, key, label, foldedKeyedHash(key, values))
			n := impl.DeriveFromString(key, label)
			if !impl.IsValidKey(n) {
				t.Errorf("DeriveFromString(%d, %q) is %d, which is no key", key, label, n)
			}
			if other, taken := derived[n]; taken {
				t.Errorf("DeriveFromString(%d, label) is %d for %q and for %q", key, n, label, other)
			}
			derived[n] = label
		}
	}
}

func TestEqualInts(t *testing.T) {
	lists := [][]int{{}, {0}, {1}, {-1}, {0, 0}, {0, 1}, {1, 0}, {1, 2}, {1, 2, 0}, {0, 1, 2}, {1, 2, 3}, {1, 258}, {257, 2},
		{1 << 32}, {1<<32 + 1}, {math.MaxInt}, {math.MinInt}, {math.MaxInt, math.MinInt}}
	for i, a := range lists {
		for j, b := range lists {
			if got := impl.EqualInts(a, slices.Clone(b)); got != (i == j) {
				t.Errorf("EqualInts(%v, %v) is %t", a, b, got)
			}
		}
		if impl.EqualInts(a, nil) != (i == 0) || impl.EqualInts(nil, a) != (i == 0) {
			t.Errorf("EqualInts of %v and nil", a)
		}
	}
	if !impl.EqualInts(nil, nil) {
		t.Error("EqualInts(nil, nil) is false")
	}
}

func TestCryptoLeavesArgumentsAlone(t *testing.T) {
	ints := map[string]func([]int) []int{
		"Hash":      func(l []int) []int { return []int{impl.Hash(l)} },
		"KeyedHash": func(l []int) []int { return []int{impl.KeyedHash(77, l)} },
		"EqualInts": func(l []int) []int { impl.EqualInts(l, l[1:]); return nil },
	}
	for name, call := range ints {
		for _, values := range [][]int{{5, 300}, {0}, {-1, impl.Modulus, math.MinInt, math.MaxInt}} {
			checkApart(t, name, values, 170, 0, call, 85)
		}
	}
	texts := map[string]func([]byte) []byte{
		"Encrypt": func(b []byte) []byte { return impl.Encrypt(77, b) },
		"Decrypt": func(b []byte) []byte { return impl.Decrypt(77, b) },
	}
	for _, text := range [][]byte{{}, {0}, {255}, []byte("hello"), someBytes(300)} {
		for name, call := range texts {
			checkApart(t, name, text, 170, 0, call, 85)
		}
		checkApart(t, "BytesToInts", text, 170, 0, impl.BytesToInts, 85)
	}
}

// Two results of the same argument are apart from one another, too.
func TestCryptoReturnsNewMemory(t *testing.T) {
	text := []byte("hello")
	first, second := impl.Encrypt(77, text), impl.Encrypt(77, text)
	overwrite(first, 0)
	checkBytes(t, "the second ciphertext", second, []byte{249, 57, 131, 198, 12})
	third, fourth := impl.Decrypt(77, second), impl.Decrypt(77, second)
	overwrite(third, 0)
	checkBytes(t, "the second plaintext", fourth, text)
	fifth, sixth := impl.BytesToInts(text), impl.BytesToInts(text)
	overwrite(fifth, 0)
	if !slices.Equal(sixth, []int{5, 104, 101, 108, 108, 111}) {
		t.Errorf("the second list of integers: %v", sixth)
	}
}
