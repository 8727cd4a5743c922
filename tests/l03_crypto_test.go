package tests

import (
	"bytes"
	"math"
	"slices"
	"testing"

	"loop.example/g03002/impl"
)

// Promise 3: decryption inverts encryption; a keyed hash depends on each of its values.

// roomyInts returns values as the beginning of a larger piece of memory, and all of this memory.
func roomyInts(values []int) ([]int, []int) {
	whole := append(slices.Clone(values), slices.Repeat([]int{-7}, 32)...)
	return whole[:len(values)], whole
}

// anyKeys are keys at the limits of what is valid, beyond them, and within them.
var anyKeys = []int{0, 1, 2, 77, impl.Modulus - 2, impl.Modulus - 1, impl.Modulus, impl.Modulus + 1, -1, -77, -impl.Modulus, 1 << 40, math.MinInt, math.MaxInt}

// anyBytes are byte slices with the least and the greatest bytes, and of more than 256 bytes.
func anyBytes() [][]byte {
	every := []byte{}
	for i := range 600 {
		every = append(every, byte(i*7))
	}
	return [][]byte{nil, {}, {0}, {255}, {0, 255}, {255, 0, 255, 0}, {128, 127}, []byte("hello"), []byte("h\xe9\x00"), bytes.Repeat([]byte{0}, 300), bytes.Repeat([]byte{255}, 300), every}
}

func TestHash(t *testing.T) {
	cases := []struct {
		values []int
		want   int
	}{
		{nil, 11},
		{[]int{}, 11},
		{[]int{0}, 11000046},
		{[]int{1}, 11000047},
		{[]int{5}, 11000051},
		{[]int{0, 0}, 667760217},
		{[]int{1, 2, 3}, 1460866530},
		{[]int{3, 2, 1}, 18107542},
		{[]int{255, 0, 255}, 764585549},
		{[]int{0, 0, 0, 0}, 454768482},
		{[]int{1000000000000}, 1431104191},
		{[]int{1000000000001}, 1431104192},
	}
	for _, c := range cases {
		if got := impl.Hash(c.values); got != c.want {
			t.Errorf("Hash(%v) = %d, want %d", c.values, got, c.want)
		}
	}
}

func TestHashOfValuesOutsideOfTheModulus(t *testing.T) {
	cases := []struct {
		values []int
		want   int
	}{
		{[]int{-1}, 11000045},
		{[]int{-5}, 11000041},
		{[]int{impl.Modulus - 1}, 11000045},
		{[]int{impl.Modulus}, 11000046},
		{[]int{impl.Modulus + 1}, 11000047},
		{[]int{2 * impl.Modulus}, 11000046},
		{[]int{2*impl.Modulus + 3}, 11000049},
		{[]int{-impl.Modulus + 1}, 11000047},
		{[]int{-impl.Modulus}, 11000046},
		{[]int{-impl.Modulus - 1}, 11000045},
		{[]int{math.MinInt}, 11000044},
		{[]int{math.MaxInt}, 11000047},
		{[]int{math.MinInt, math.MaxInt}, 665760212},
		{[]int{math.MaxInt, math.MinInt}, 668760218},
		{slices.Repeat([]int{impl.Modulus - 1}, 5), 1743082082},
	}
	for _, c := range cases {
		if got := impl.Hash(c.values); got != c.want {
			t.Errorf("Hash(%v) = %d, want %d", c.values, got, c.want)
		}
	}
}

func TestHashOfValuesThatDifferByTheModulus(t *testing.T) {
	values := []int{4, -9, 0, 1 << 40}
	want := impl.Hash(values)
	for i := range values {
		for _, times := range []int{-3, -1, 1, 2, 1000000} {
			other := slices.Clone(values)
			other[i] += times * impl.Modulus
			if got := impl.Hash(other); got != want {
				t.Errorf("Hash(%v) = %d, and Hash(%v) = %d", other, got, values, want)
			}
		}
	}
}

func TestHashStaysInRange(t *testing.T) {
	for first := -300; first <= 300; first++ {
		values := []int{}
		for i := range 40 {
			values = append(values, first*(i*i*i+1)*123456789)
			if got := impl.Hash(values); got < 0 || got >= impl.Modulus {
				t.Fatalf("Hash(%v) = %d", values, got)
			}
		}
	}
}

func TestHashDependsOnOrderAndLength(t *testing.T) {
	lists := [][]int{nil, {0}, {0, 0}, {0, 0, 0}, {1}, {1, 0}, {0, 1}, {1, 2}, {2, 1}, {-1}, {-1, 0}, {1, 2, 3}, {2, 1, 3}, {1, 3, 2}}
	for i, a := range lists {
		for j, b := range lists {
			if i != j && impl.Hash(a) == impl.Hash(b) {
				t.Errorf("Hash(%v) and Hash(%v) are both %d", a, b, impl.Hash(a))
			}
		}
	}
}

func TestKeyedHash(t *testing.T) {
	cases := []struct {
		key    int
		values []int
		want   int
	}{
		{0, nil, 667760217},
		{0, []int{0}, 32762367},
		{0, []int{4}, 36762379},
		{1, []int{}, 668760221},
		{1, []int{1, 2, 3}, 596233557},
		{2, []int{0}, 737487030},
		{77, nil, 744760525},
		{77, []int{-1}, 320116302},
		{77, []int{math.MinInt, math.MaxInt}, 1110404559},
		{impl.Modulus - 1, nil, 666760213},
		{impl.Modulus - 1, []int{4}, 758141871},
		{impl.Modulus, nil, 667760217},
		{impl.Modulus, []int{4}, 36762379},
		{impl.Modulus + 1, []int{1, 2, 3}, 596233557},
		{-1, []int{4}, 758141871},
		{-77, []int{1, 2, 3}, 2141553884},
		{-impl.Modulus, []int{0}, 32762367},
		{math.MinInt, nil, 665760209},
		{math.MinInt, []int{1, 2, 3}, 77500280},
		{math.MaxInt, []int{-1}, 1457866519},
	}
	for _, c := range cases {
		if got := impl.KeyedHash(c.key, c.values); got != c.want {
			t.Errorf("KeyedHash(%d, %v) = %d, want %d", c.key, c.values, got, c.want)
		}
	}
}

func TestKeyedHashIsTheHashBetweenTwoKeys(t *testing.T) {
	for _, key := range anyKeys {
		for _, values := range [][]int{nil, {}, {0}, {key}, {1, 2}, {-1, math.MinInt, math.MaxInt}, slices.Repeat([]int{9}, 100)} {
			between := append([]int{key}, values...)
			between = append(between, key)
			if got, want := impl.KeyedHash(key, values), impl.Hash(between); got != want {
				t.Errorf("KeyedHash(%d, %v) = %d, want %d", key, values, got, want)
			}
		}
	}
}

func TestKeyedHashDependsOnEachValue(t *testing.T) {
	changes := []int{1, -1, 2, 13, 256, -256, 1000003, impl.Modulus - 1, impl.Modulus + 1, 1 << 40}
	for _, key := range anyKeys {
		for _, values := range [][]int{{0}, {5}, {1, 2, 3}, {-4, 0, impl.Modulus, 1 << 40}, slices.Repeat([]int{0}, 60)} {
			plain := impl.KeyedHash(key, values)
			for i := range values {
				for _, change := range changes {
					other := slices.Clone(values)
					other[i] += change
					if impl.KeyedHash(key, other) == plain {
						t.Errorf("KeyedHash(%d, %v) = KeyedHash(%d, %v)", key, other, key, values)
					}
				}
			}
		}
	}
}

func TestKeyedHashDependsOnItsKey(t *testing.T) {
	for _, values := range [][]int{nil, {0}, {1, 2, 3}, slices.Repeat([]int{7}, 30)} {
		for _, key := range anyKeys {
			for _, change := range []int{1, -1, 77, 1000003} {
				if impl.KeyedHash(key, values) == impl.KeyedHash(key+change, values) {
					t.Errorf("KeyedHash of %v is the same for the keys %d and %d", values, key, key+change)
				}
			}
		}
	}
}

func TestIsValidKey(t *testing.T) {
	for _, key := range []int{1, 2, 77, 1000003, 1 << 30, impl.Modulus - 2, impl.Modulus - 1} {
		if !impl.IsValidKey(key) {
			t.Errorf("IsValidKey(%d) = false", key)
		}
	}
}

func TestIsValidKeyRejects(t *testing.T) {
	for _, key := range []int{0, -1, -2, -impl.Modulus + 1, -impl.Modulus, impl.Modulus, impl.Modulus + 1, 2 * impl.Modulus, impl.MaxValue, math.MinInt, math.MaxInt} {
		if impl.IsValidKey(key) {
			t.Errorf("IsValidKey(%d) = true", key)
		}
	}
}

func TestBytesToInts(t *testing.T) {
	cases := []struct {
		b    []byte
		want []int
	}{
		{nil, []int{0}},
		{[]byte{}, []int{0}},
		{[]byte{0}, []int{1, 0}},
		{[]byte{255}, []int{1, 255}},
		{[]byte{0, 255}, []int{2, 0, 255}},
		{[]byte{127, 128, 129}, []int{3, 127, 128, 129}},
		{[]byte("ab"), []int{2, 97, 98}},
		{bytes.Repeat([]byte{200}, 300), append([]int{300}, slices.Repeat([]int{200}, 300)...)},
	}
	for _, c := range cases {
		if got := impl.BytesToInts(c.b); !slices.Equal(got, c.want) {
			t.Errorf("BytesToInts(%v) = %v, want %v", c.b, got, c.want)
		}
	}
}

func TestEncrypt(t *testing.T) {
	cases := []struct {
		key       int
		plaintext []byte
		want      []byte
	}{
		{0, []byte("hello"), []byte{103, 167, 241, 52, 122}},
		{1, []byte("hello"), []byte{194, 2, 76, 143, 213}},
		{77, []byte("hello"), []byte{249, 57, 131, 198, 12}},
		{77, []byte{0, 255, 0, 255}, []byte{145, 211, 23, 89}},
		{77, []byte{0, 0, 0, 0}, []byte{145, 212, 23, 90}},
		{impl.Modulus - 1, []byte("hello"), []byte{11, 75, 149, 216, 30}},
		{impl.Modulus, []byte("hello"), []byte{103, 167, 241, 52, 122}},
		{-1, []byte{0, 255, 0, 255}, []byte{163, 229, 41, 107}},
		{-77, []byte("hello"), []byte{212, 20, 94, 161, 231}},
		{math.MinInt, []byte("hello"), []byte{175, 239, 57, 124, 194}},
		{math.MaxInt, []byte("hello"), []byte{194, 2, 76, 143, 213}},
	}
	for _, c := range cases {
		if got := impl.Encrypt(c.key, c.plaintext); !bytes.Equal(got, c.want) {
			t.Errorf("Encrypt(%d, %v) = %v, want %v", c.key, c.plaintext, got, c.want)
		}
		if got := impl.Decrypt(c.key, c.want); !bytes.Equal(got, c.plaintext) {
			t.Errorf("Decrypt(%d, %v) = %v, want %v", c.key, c.want, got, c.plaintext)
		}
	}
}

func TestCiphersShiftEachByteByAKeyedHashOfItsIndex(t *testing.T) {
	for _, key := range anyKeys {
		for _, b := range anyBytes() {
			encrypted, decrypted := impl.Encrypt(key, b), impl.Decrypt(key, b)
			if len(encrypted) != len(b) || len(decrypted) != len(b) {
				t.Fatalf("key %d: of %d bytes %d are encrypted and %d decrypted", key, len(b), len(encrypted), len(decrypted))
			}
			for i, c := range b {
				shift := impl.KeyedHash(key, []int{i})
				if want := impl.Mod(int(c)+shift, 256); int(encrypted[i]) != want {
					t.Errorf("key %d: byte %d at %d is encrypted as %d, want %d", key, c, i, encrypted[i], want)
				}
				if want := impl.Mod(int(c)-shift, 256); int(decrypted[i]) != want {
					t.Errorf("key %d: byte %d at %d is decrypted as %d, want %d", key, c, i, decrypted[i], want)
				}
			}
		}
	}
}

func TestDecryptInvertsEncrypt(t *testing.T) {
	for _, key := range anyKeys {
		for _, b := range anyBytes() {
			if got := impl.Decrypt(key, impl.Encrypt(key, b)); !bytes.Equal(got, b) {
				t.Errorf("Decrypt(%d, Encrypt(%d, %v)) = %v", key, key, b, got)
			}
			if got := impl.Encrypt(key, impl.Decrypt(key, b)); !bytes.Equal(got, b) {
				t.Errorf("Encrypt(%d, Decrypt(%d, %v)) = %v", key, key, b, got)
			}
		}
	}
}

func TestDecryptWithAnotherKeyDoesNotInvert(t *testing.T) {
	b := []byte("hello, world")
	for _, key := range []int{1, 77, impl.Modulus - 2} {
		if got := impl.Decrypt(key+1, impl.Encrypt(key, b)); bytes.Equal(got, b) {
			t.Errorf("Decrypt(%d, Encrypt(%d, %v)) = %v", key+1, key, b, got)
		}
	}
}

func TestDeriveFromString(t *testing.T) {
	cases := []struct {
		key   int
		label string
		want  int
	}{
		{0, "", 32762367},
		{1, "", 1458866522},
		{5, "", 720832201},
		{5, "a", 783230796},
		{5, "ab", 1905036959},
		{5, "a\x00", 1807036665},
		{5, "\xff\x80", 1773710446},
		{5, "\u00e9", 323562},
		{0, "ab", 324653615},
		{impl.Modulus - 1, "\xff\x80", 736243892},
		{impl.Modulus, "ab", 324653615},
		{-1, "\xff\x80", 736243892},
	}
	for _, c := range cases {
		if got := impl.DeriveFromString(c.key, c.label); got != c.want {
			t.Errorf("DeriveFromString(%d, %q) = %d, want %d", c.key, c.label, got, c.want)
		}
	}
}

func TestDeriveFromStringIsAValidKey(t *testing.T) {
	for _, key := range anyKeys {
		for _, label := range []string{"", "a", "ab", "b\x00", "\x80\xff", "\u00e9\u4e16", "a longer label, with words"} {
			got := impl.DeriveFromString(key, label)
			if !impl.IsValidKey(got) {
				t.Errorf("DeriveFromString(%d, %q) = %d", key, label, got)
			}
			if want := impl.KeyedHash(key, impl.BytesToInts([]byte(label))); got != want {
				t.Errorf("DeriveFromString(%d, %q) = %d, want %d", key, label, got, want)
			}
		}
	}
}

func TestDeriveFromStringWhereTheHashIsZero(t *testing.T) {
	// For these keys, the keyed hash of the label is 0, and that of the next key is not.
	cases := []struct {
		key   int
		label string
	}{
		{1310415589, ""},
		{1465621127, "a"},
		{971690925, "label"},
		{757200574, "\xff\x80"},
		{1310415589 - impl.Modulus, ""},
		{1310415589 + impl.Modulus, ""},
	}
	for _, c := range cases {
		if hash := impl.KeyedHash(c.key, impl.BytesToInts([]byte(c.label))); hash != 0 {
			t.Errorf("the keyed hash of %d and %q is %d", c.key, c.label, hash)
		}
		if got := impl.DeriveFromString(c.key, c.label); got != 1 {
			t.Errorf("DeriveFromString(%d, %q) = %d, want 1", c.key, c.label, got)
		}
		if got := impl.DeriveFromString(c.key+1, c.label); got == 1 {
			t.Errorf("DeriveFromString(%d, %q) = 1", c.key+1, c.label)
		}
	}
}

func TestHashesLeaveTheirArguments(t *testing.T) {
	for _, values := range [][]int{nil, {}, {5}, {-1, math.MinInt, math.MaxInt, impl.Modulus}} {
		part, whole := roomyInts(values)
		before := slices.Clone(whole)
		first, second := impl.Hash(part), impl.KeyedHash(77, part)
		if !slices.Equal(whole, before) {
			t.Errorf("the memory of %v became %v", values, whole)
		}
		if impl.Hash(part) != first || impl.KeyedHash(77, part) != second {
			t.Errorf("the hashes of %v change from call to call", values)
		}
	}
}

func TestCryptoResultsHaveTheirOwnMemory(t *testing.T) {
	ciphers := map[string]func(int, []byte) []byte{"Encrypt": impl.Encrypt, "Decrypt": impl.Decrypt}
	for name, cipher := range ciphers {
		for _, b := range anyBytes() {
			part, whole := roomy(b)
			before := slices.Clone(whole)
			first, second := cipher(77, part), cipher(77, part)
			kept := slices.Clone(second)
			for i := range first[:cap(first)] {
				first[:cap(first)][i] ^= 0x55
			}
			if !bytes.Equal(whole, before) {
				t.Errorf("%s: the memory of %v changed", name, b)
			}
			if !bytes.Equal(second, kept) {
				t.Errorf("%s: two results of %v share memory", name, b)
			}
		}
	}
}

func TestBytesToIntsHasItsOwnMemory(t *testing.T) {
	for _, b := range anyBytes() {
		part, whole := roomy(b)
		before := slices.Clone(whole)
		first, second := impl.BytesToInts(part), impl.BytesToInts(part)
		kept := slices.Clone(second)
		for i := range first[:cap(first)] {
			first[:cap(first)][i]++
		}
		if !bytes.Equal(whole, before) || !slices.Equal(second, kept) {
			t.Errorf("BytesToInts(%v) shares memory", b)
		}
	}
}

func TestEqualInts(t *testing.T) {
	lists := [][]int{{}, {0}, {0, 0}, {1}, {-1}, {1, 2}, {2, 1}, {2, 2}, {1, 3}, {1, 2, 3}, {1, 0, 3}, {math.MinInt}, {math.MaxInt}, {impl.Modulus}}
	for i, a := range lists {
		for j, b := range lists {
			if got := impl.EqualInts(slices.Clone(a), slices.Clone(b)); got != (i == j) {
				t.Errorf("EqualInts(%v, %v) = %v", a, b, got)
			}
		}
		if got := impl.EqualInts(nil, a); got != (len(a) == 0) {
			t.Errorf("EqualInts(nil, %v) = %v", a, got)
		}
		if got := impl.EqualInts(a, nil); got != (len(a) == 0) {
			t.Errorf("EqualInts(%v, nil) = %v", a, got)
		}
	}
	if !impl.EqualInts(nil, nil) {
		t.Error("EqualInts(nil, nil) = false")
	}
}

func TestEqualIntsFindsADifferenceAnywhere(t *testing.T) {
	a := []int{}
	for i := range 40 {
		a = append(a, i*impl.Modulus)
	}
	if !impl.EqualInts(a, slices.Clone(a)) {
		t.Error("EqualInts does not hold for a copy")
	}
	for i := range a {
		b := slices.Clone(a)
		b[i]++
		if impl.EqualInts(a, b) || impl.EqualInts(b, a) || impl.EqualInts(a, a[:i]) || impl.EqualInts(a[:i], a) {
			t.Errorf("EqualInts misses what differs at %d", i)
		}
	}
}
