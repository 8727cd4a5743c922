package tests

import (
	"bytes"
	"encoding/binary"
	"math"
	"slices"
	"testing"

	"loop.example/g03002/impl"
)

// Promise 2: integers and byte strings are decoded from their encodings.

// roomy returns b as the beginning of a larger piece of memory, and all of this memory.
func roomy(b []byte) ([]byte, []byte) {
	whole := append(slices.Clone(b), bytes.Repeat([]byte{0xAA}, 32)...)
	return whole[:len(b)], whole
}

// uvarintForms are integers with their varints, at the places where the length changes and at the limits.
var uvarintForms = []struct {
	n    int
	form []byte
}{
	{0, []byte{0}},
	{1, []byte{1}},
	{127, []byte{127}},
	{128, []byte{128, 1}},
	{129, []byte{129, 1}},
	{255, []byte{255, 1}},
	{256, []byte{128, 2}},
	{300, []byte{172, 2}},
	{1<<14 - 1, []byte{255, 127}},
	{1 << 14, []byte{128, 128, 1}},
	{1<<21 - 1, []byte{255, 255, 127}},
	{1 << 21, []byte{128, 128, 128, 1}},
	{1<<28 - 1, []byte{255, 255, 255, 127}},
	{1 << 28, []byte{128, 128, 128, 128, 1}},
	{1<<35 - 1, []byte{255, 255, 255, 255, 127}},
	{1 << 35, []byte{128, 128, 128, 128, 128, 1}},
	{impl.MaxValue - 1, []byte{255, 159, 148, 165, 141, 29}},
	{impl.MaxValue, []byte{128, 160, 148, 165, 141, 29}},
}

func TestAppendUvarint(t *testing.T) {
	for _, c := range uvarintForms {
		if got := impl.AppendUvarint(nil, c.n); !bytes.Equal(got, c.form) {
			t.Errorf("AppendUvarint(nil, %d) = %v, want %v", c.n, got, c.form)
		}
		want := append([]byte{9, 128}, c.form...)
		if got := impl.AppendUvarint([]byte{9, 128}, c.n); !bytes.Equal(got, want) {
			t.Errorf("AppendUvarint([9 128], %d) = %v, want %v", c.n, got, want)
		}
	}
}

func TestAppendUvarintLeavesOutWhatIsOutOfRange(t *testing.T) {
	for _, n := range []int{-1, -2, -127, -128, -300, -impl.MaxValue, impl.MaxValue + 1, 1 << 42, 1 << 62, math.MaxInt, math.MinInt} {
		for _, b := range [][]byte{nil, {}, {0}, {9}, {1, 2, 3}} {
			if got := impl.AppendUvarint(b, n); !bytes.Equal(got, b) {
				t.Errorf("AppendUvarint(%v, %d) = %v, want %v", b, n, got, b)
			}
		}
	}
}

func TestReadUvarint(t *testing.T) {
	for _, c := range uvarintForms {
		for _, before := range [][]byte{nil, {128}, {1, 255, 0}} {
			for _, behind := range [][]byte{nil, {0}, {128}, {255, 255}} {
				b := slices.Concat(before, c.form, behind)
				n, next, ok := impl.ReadUvarint(b, len(before))
				if n != c.n || next != len(before)+len(c.form) || !ok {
					t.Errorf("ReadUvarint(%v, %d) = %d, %d, %v, want %d", b, len(before), n, next, ok, c.n)
				}
			}
		}
	}
}

func wantNoUvarint(t *testing.T, why string, b []byte, offset int) {
	t.Helper()
	if n, next, ok := impl.ReadUvarint(b, offset); n != 0 || next != 0 || ok {
		t.Errorf("%s: ReadUvarint(%v, %d) = %d, %d, %v, want 0, 0, false", why, b, offset, n, next, ok)
	}
}

func TestReadUvarintRejects(t *testing.T) {
	groups := map[string][][]byte{
		"empty": {nil, {}},
		"ends inside": {
			{128}, {255}, {172}, {128, 128}, {255, 255}, {129, 128, 255},
			{128, 128, 128, 128}, {128, 128, 128, 128, 128}, {255, 255, 255, 255, 255},
			{128, 160, 148, 165, 141},
		},
		"not minimal": {
			{128, 0}, {129, 0}, {255, 0}, {128, 128, 0}, {172, 130, 0}, {255, 255, 255, 0},
			{128, 128, 128, 128, 0}, {129, 128, 128, 128, 128, 0}, {255, 255, 255, 255, 255, 0},
		},
		"more than six bytes": {
			{128, 128, 128, 128, 128, 128}, {128, 128, 128, 128, 128, 128, 0}, {128, 128, 128, 128, 128, 128, 1},
			{129, 128, 128, 128, 128, 128, 0}, {128, 160, 148, 165, 141, 157, 0},
			{255, 255, 255, 255, 255, 255, 127}, {128, 128, 128, 128, 128, 128, 128, 128, 128, 1},
			{128, 128, 128, 128, 128, 128, 128, 128, 128, 2}, {128, 128, 128, 128, 128, 128, 128, 128, 128, 128, 1},
			bytes.Repeat([]byte{128}, 64), append(bytes.Repeat([]byte{128}, 64), 1), bytes.Repeat([]byte{255}, 1000),
		},
		"above MaxValue": {
			{129, 160, 148, 165, 141, 29}, {128, 161, 148, 165, 141, 29}, {128, 160, 148, 165, 141, 30},
			{255, 255, 255, 255, 255, 127}, {128, 128, 128, 128, 128, 64}, {128, 128, 128, 128, 128, 30},
		},
	}
	for why, inputs := range groups {
		for _, b := range inputs {
			wantNoUvarint(t, why, b, 0)
			wantNoUvarint(t, why+", with a byte before", append([]byte{5}, b...), 1)
		}
	}
}

func TestReadUvarintOffsets(t *testing.T) {
	b := []byte{5, 172, 2, 0}
	for offset, want := range map[int][2]int{0: {5, 1}, 1: {300, 3}, 2: {2, 3}, 3: {0, 4}} {
		if n, next, ok := impl.ReadUvarint(b, offset); n != want[0] || next != want[1] || !ok {
			t.Errorf("ReadUvarint(%v, %d) = %d, %d, %v, want %v", b, offset, n, next, ok, want)
		}
	}
	for _, offset := range []int{-1, -2, -4, -5, 4, 5, 6, 100, math.MinInt, math.MinInt + 1, math.MaxInt, math.MaxInt - 1, math.MaxInt - 5} {
		wantNoUvarint(t, "offset", b, offset)
		wantNoUvarint(t, "offset in nothing", nil, offset)
	}
	hidden, _ := roomy([]byte{128})
	wantNoUvarint(t, "the varint goes on in the spare capacity", hidden, 0)
	hidden, _ = roomy([]byte{1})
	wantNoUvarint(t, "the varint begins in the spare capacity", hidden, 1)
}

// judgedUvarint reads a varint in another way than the program.
func judgedUvarint(b []byte, offset int) (int, int, bool) {
	n, length := binary.Uvarint(b[offset:])
	if length < 1 || length > 6 || n > impl.MaxValue || length > 1 && b[offset+length-1] == 0 {
		return 0, 0, false
	}
	return int(n), offset + length, true
}

func checkUvarint(t *testing.T, b []byte) {
	t.Helper()
	for offset := range len(b) {
		n, next, ok := impl.ReadUvarint(b, offset)
		wantN, wantNext, wantOK := judgedUvarint(b, offset)
		if n != wantN || next != wantNext || ok != wantOK {
			t.Fatalf("ReadUvarint(%v, %d) = %d, %d, %v, want %d, %d, %v", b, offset, n, next, ok, wantN, wantNext, wantOK)
		}
	}
}

func TestReadUvarintOfAllShortInputs(t *testing.T) {
	for first := range 256 {
		checkUvarint(t, []byte{byte(first)})
		for second := range 256 {
			checkUvarint(t, []byte{byte(first), byte(second)})
		}
	}
	letters := []byte{0, 1, 29, 30, 127, 128, 129, 255}
	inputs := [][]byte{{}}
	for i := 0; i < len(inputs); i++ {
		checkUvarint(t, inputs[i])
		for j := 0; j < len(letters) && len(inputs[i]) < 5; j++ {
			inputs = append(inputs, append(slices.Clone(inputs[i]), letters[j]))
		}
	}
	for _, low := range inputs {
		checkUvarint(t, slices.Concat([]byte{128, 160, 148}, low))
	}
}

func TestReadUvarintInvertsAppendUvarint(t *testing.T) {
	check := func(n int) {
		b := impl.AppendUvarint([]byte{7}, n)
		if want := binary.AppendUvarint([]byte{7}, uint64(n)); !bytes.Equal(b, want) {
			t.Errorf("AppendUvarint([7], %d) = %v, want %v", n, b, want)
		}
		if got, next, ok := impl.ReadUvarint(b, 1); got != n || next != len(b) || !ok {
			t.Errorf("ReadUvarint of the varint of %d = %d, %d, %v", n, got, next, ok)
		}
	}
	for n := range 70000 {
		check(n)
		check(impl.MaxValue - n)
		check(1<<35 - 35000 + n)
	}
	for power := 1; power <= impl.MaxValue/2; power *= 2 {
		check(power - 1)
		check(power)
		check(power + 1)
	}
}

func TestAppendBytes(t *testing.T) {
	long := bytes.Repeat([]byte{200, 3}, 150)
	cases := []struct{ b, data, want []byte }{
		{nil, nil, []byte{0}},
		{[]byte{}, []byte{}, []byte{0}},
		{[]byte{1}, nil, []byte{1, 0}},
		{nil, []byte{0}, []byte{1, 0}},
		{[]byte{1}, []byte{7, 8}, []byte{1, 2, 7, 8}},
		{[]byte{128}, []byte{128}, []byte{128, 1, 128}},
		{nil, long[:127], append([]byte{127}, long[:127]...)},
		{nil, long[:128], append([]byte{128, 1}, long[:128]...)},
		{[]byte{4, 5}, long, append([]byte{4, 5, 172, 2}, long...)},
	}
	for _, c := range cases {
		if got := impl.AppendBytes(c.b, c.data); !bytes.Equal(got, c.want) {
			t.Errorf("AppendBytes(%v, %v) = %v, want %v", c.b, c.data, got, c.want)
		}
	}
}

func TestReadBytesInvertsAppendBytes(t *testing.T) {
	for _, length := range []int{0, 1, 2, 126, 127, 128, 129, 300, 1<<14 - 1, 1 << 14, 70000} {
		data := make([]byte, length)
		for i := range data {
			data[i] = byte(i * 7)
		}
		for _, before := range [][]byte{nil, {9}, {128, 255}} {
			b := impl.AppendBytes(before, data)
			for _, maxLen := range []int{length, length + 1, math.MaxInt} {
				for _, behind := range [][]byte{nil, {0, 200}} {
					whole := slices.Concat(b, behind)
					got, next, ok := impl.ReadBytes(whole, len(before), maxLen)
					if !bytes.Equal(got, data) || next != len(b) || !ok {
						t.Errorf("length %d, maxLen %d: ReadBytes = %d bytes, %d, %v", length, maxLen, len(got), next, ok)
					}
				}
			}
		}
	}
}

func wantNoBytes(t *testing.T, why string, b []byte, offset int, maxLen int) {
	t.Helper()
	if data, next, ok := impl.ReadBytes(b, offset, maxLen); len(data) != 0 || next != 0 || ok {
		t.Errorf("%s: ReadBytes(%v, %d, %d) = %v, %d, %v, want [], 0, false", why, b, offset, maxLen, data, next, ok)
	}
}

func TestReadBytesRejects(t *testing.T) {
	for _, b := range [][]byte{nil, {}, {128}, {255, 255}, {128, 0}, {129, 0, 5}, {128, 128, 128, 128, 128, 128, 1}, {129, 160, 148, 165, 141, 29}} {
		wantNoBytes(t, "no length", b, 0, 100)
		wantNoBytes(t, "no length, with a byte before", append([]byte{0}, b...), 1, 100)
	}
	for _, offset := range []int{-1, -3, 3, 4, math.MinInt, math.MaxInt} {
		wantNoBytes(t, "offset", []byte{2, 7, 8}, offset, 100)
		wantNoBytes(t, "offset in nothing", nil, offset, 100)
	}
	for _, maxLen := range []int{1, 0, -1, -2, math.MinInt} {
		wantNoBytes(t, "longer than maxLen", []byte{2, 7, 8}, 0, maxLen)
	}
	for _, maxLen := range []int{-1, math.MinInt} {
		wantNoBytes(t, "the empty string is longer than a negative maxLen", []byte{0}, 0, maxLen)
	}
	wantNoBytes(t, "a long string above maxLen", append([]byte{172, 2}, make([]byte, 300)...), 0, 299)
	for _, b := range [][]byte{{1}, {2, 7}, {3, 7, 8}, {127, 1}, {172, 2, 9}, append([]byte{172, 2}, make([]byte, 299)...), {128, 160, 148, 165, 141, 29}, {128, 160, 148, 165, 141, 29, 7}} {
		wantNoBytes(t, "too short", b, 0, math.MaxInt)
	}
	hidden, _ := roomy([]byte{3, 7, 8})
	wantNoBytes(t, "the data goes on in the spare capacity", hidden, 0, 100)
}

func TestReadBytesAtTheLimits(t *testing.T) {
	cases := []struct {
		b              []byte
		offset, maxLen int
		want           []byte
		next           int
	}{
		{[]byte{0}, 0, 0, nil, 1},
		{[]byte{0, 9}, 0, 5, nil, 1},
		{[]byte{9, 0}, 1, 0, nil, 2},
		{[]byte{2, 7, 8}, 0, 2, []byte{7, 8}, 3},
		{[]byte{2, 7, 8, 9}, 0, 3, []byte{7, 8}, 3},
		{[]byte{2, 1, 8}, 1, 1, []byte{8}, 3},
		{append([]byte{128, 1}, make([]byte, 128)...), 0, 128, make([]byte, 128), 130},
	}
	for _, c := range cases {
		data, next, ok := impl.ReadBytes(c.b, c.offset, c.maxLen)
		if !bytes.Equal(data, c.want) || next != c.next || !ok {
			t.Errorf("ReadBytes(%v, %d, %d) = %v, %d, %v, want %v, %d, true", c.b, c.offset, c.maxLen, data, next, ok, c.want, c.next)
		}
	}
}

func TestEncodeInts(t *testing.T) {
	cases := []struct {
		values []int
		want   []byte
	}{
		{nil, nil},
		{[]int{}, nil},
		{[]int{0}, []byte{0}},
		{[]int{5, 300}, []byte{5, 172, 2}},
		{[]int{300, 5, 300}, []byte{172, 2, 5, 172, 2}},
		{[]int{impl.MaxValue, 0}, []byte{128, 160, 148, 165, 141, 29, 0}},
		{[]int{-1}, nil},
		{[]int{impl.MaxValue + 1}, nil},
		{[]int{-1, 4, impl.MaxValue + 1, 6, math.MinInt, math.MaxInt}, []byte{4, 6}},
	}
	for _, c := range cases {
		if got := impl.EncodeInts(c.values); !bytes.Equal(got, c.want) {
			t.Errorf("EncodeInts(%v) = %v, want %v", c.values, got, c.want)
		}
	}
}

func TestDecodeInts(t *testing.T) {
	b := []byte{5, 172, 2, 0, 128}
	cases := []struct {
		offset, count int
		want          []int
		next          int
	}{
		{0, 0, nil, 0},
		{0, 1, []int{5}, 1},
		{0, 2, []int{5, 300}, 3},
		{0, 3, []int{5, 300, 0}, 4},
		{1, 1, []int{300}, 3},
		{2, 2, []int{2, 0}, 4},
		{3, 1, []int{0}, 4},
		{3, 0, nil, 3},
		{4, 0, nil, 4},
		{5, 0, nil, 5},
	}
	for _, c := range cases {
		got, next, ok := impl.DecodeInts(b, c.offset, c.count)
		if !slices.Equal(got, c.want) || next != c.next || !ok {
			t.Errorf("DecodeInts(%v, %d, %d) = %v, %d, %v, want %v, %d, true", b, c.offset, c.count, got, next, ok, c.want, c.next)
		}
	}
	for _, none := range [][]byte{nil, {}} {
		if got, next, ok := impl.DecodeInts(none, 0, 0); len(got) != 0 || next != 0 || !ok {
			t.Errorf("DecodeInts(%v, 0, 0) = %v, %d, %v, want [], 0, true", none, got, next, ok)
		}
	}
}

func wantNoInts(t *testing.T, why string, b []byte, offset int, count int) {
	t.Helper()
	if got, next, ok := impl.DecodeInts(b, offset, count); len(got) != 0 || next != 0 || ok {
		t.Errorf("%s: DecodeInts(%v, %d, %d) = %v, %d, %v, want [], 0, false", why, b, offset, count, got, next, ok)
	}
}

func TestDecodeIntsRejects(t *testing.T) {
	b := []byte{5, 172, 2, 0}
	for _, offset := range []int{-1, -4, 5, 6, 100, math.MinInt, math.MaxInt} {
		for _, count := range []int{0, 1, 3} {
			wantNoInts(t, "offset", b, offset, count)
		}
	}
	wantNoInts(t, "offset in nothing", nil, 1, 0)
	wantNoInts(t, "offset in nothing", nil, -1, 0)
	for _, count := range []int{-1, -100, 101, 102, math.MinInt, math.MaxInt} {
		wantNoInts(t, "count", b, 0, count)
		wantNoInts(t, "count", make([]byte, 300), 0, count)
		wantNoInts(t, "count in nothing", nil, 0, count)
	}
	for _, count := range []int{4, 5, 100} {
		wantNoInts(t, "too few", b, 0, count)
	}
	wantNoInts(t, "none left", b, 4, 1)
	wantNoInts(t, "none at all", nil, 0, 1)
	for _, wrong := range [][]byte{{128}, {128, 0}, {128, 128}, {129, 160, 148, 165, 141, 29}, {128, 128, 128, 128, 128, 128, 1}} {
		wantNoInts(t, "the first is wrong", wrong, 0, 1)
		wantNoInts(t, "a later one is wrong", append([]byte{5, 6}, wrong...), 0, 3)
		wantNoInts(t, "one before the last is wrong", slices.Concat([]byte{5}, wrong, []byte{128, 1}), 0, 3)
	}
}

func TestDecodeIntsInvertsEncodeInts(t *testing.T) {
	values := []int{}
	for i := range 101 {
		values = append(values, (i*i*i*9876543+i)%(impl.MaxValue+1))
	}
	for count := range 101 {
		b := append(append([]byte{255}, impl.EncodeInts(values[:count])...), 3)
		got, next, ok := impl.DecodeInts(b, 1, count)
		if !slices.Equal(got, values[:count]) || next != len(b)-1 || !ok {
			t.Errorf("count %d: DecodeInts = %v, %d, %v", count, got, next, ok)
		}
	}
	all := impl.EncodeInts(values)
	wantNoInts(t, "101 integers", all, 0, 101)
	if got, next, ok := impl.DecodeInts(all, 0, 100); !slices.Equal(got, values[:100]) || next >= len(all) || !ok {
		t.Errorf("DecodeInts of the first 100 = %v, %d, %v", got, next, ok)
	}
}

func TestEqualBytes(t *testing.T) {
	texts := [][]byte{{}, {0}, {0, 0}, {1}, {1, 2}, {1, 3}, {2, 1}, {255}, {1, 2, 3}}
	for i, a := range texts {
		for j, b := range texts {
			if got := impl.EqualBytes(slices.Clone(a), slices.Clone(b)); got != (i == j) {
				t.Errorf("EqualBytes(%v, %v) = %v", a, b, got)
			}
		}
		if got := impl.EqualBytes(nil, a); got != (len(a) == 0) {
			t.Errorf("EqualBytes(nil, %v) = %v", a, got)
		}
		if got := impl.EqualBytes(a, nil); got != (len(a) == 0) {
			t.Errorf("EqualBytes(%v, nil) = %v", a, got)
		}
	}
	if !impl.EqualBytes(nil, nil) {
		t.Error("EqualBytes(nil, nil) = false")
	}
}

// wantOwnMemory fails if a change of the whole capacity of the result shows in the memory of an argument, or if the call changed that.
func wantOwnMemory(t *testing.T, name string, whole []byte, was []byte, result []byte) {
	t.Helper()
	if !bytes.Equal(whole, was) {
		t.Errorf("%s changed its argument or the spare capacity: %v, was %v", name, whole, was)
	}
	filled := result[:cap(result)]
	for i := range filled {
		filled[i] ^= 0xFF
	}
	if !bytes.Equal(whole, was) {
		t.Errorf("%s returned memory of its argument", name)
	}
}

func TestEncodingsLeaveArgumentsAlone(t *testing.T) {
	for _, content := range [][]byte{{}, {9}, {2, 7, 8}, {0, 7}, {1, 172}} {
		b, whole := roomy(content)
		was := slices.Clone(whole)
		for _, n := range []int{0, 5, 300, impl.MaxValue, -1, impl.MaxValue + 1} {
			wantOwnMemory(t, "AppendUvarint", whole, was, impl.AppendUvarint(b, n))
		}
		data, wholeData := roomy([]byte{4, 5, 6})
		wasData := slices.Clone(wholeData)
		for _, given := range [][]byte{nil, {}, data, b, whole} {
			wantOwnMemory(t, "AppendBytes", whole, was, impl.AppendBytes(b, given))
			wantOwnMemory(t, "AppendBytes", wholeData, wasData, impl.AppendBytes(b, given))
		}
		wantOwnMemory(t, "AppendBytes", wholeData, wasData, impl.AppendBytes(nil, data))
		for offset := range len(whole) {
			for _, given := range [][]byte{b, whole} {
				read, _, _ := impl.ReadBytes(given, offset, 300)
				wantOwnMemory(t, "ReadBytes", whole, was, read)
				impl.ReadUvarint(given, offset)
				impl.DecodeInts(given, offset, 2)
				impl.EqualBytes(given, whole)
			}
		}
		if !bytes.Equal(whole, was) {
			t.Errorf("a reading changed its argument: %v, was %v", whole, was)
		}
	}
}

func TestEncodeIntsLeavesItsArgumentAlone(t *testing.T) {
	whole := []int{5, -1, 300, impl.MaxValue + 1, 6}
	was := slices.Clone(whole)
	first := impl.EncodeInts(whole[:3])
	second := impl.EncodeInts(whole[:3])
	first[0] = 77
	if !bytes.Equal(second, []byte{5, 172, 2}) || !slices.Equal(whole, was) {
		t.Errorf("EncodeInts = %v after a change of another result; its argument is %v, was %v", second, whole, was)
	}
}

func TestResultsOfDecodingShareNoMemory(t *testing.T) {
	b := []byte{2, 7, 8}
	first, _, _ := impl.ReadBytes(b, 0, 9)
	second, _, _ := impl.ReadBytes(b, 0, 9)
	clear(first)
	if !bytes.Equal(second, []byte{7, 8}) {
		t.Errorf("ReadBytes = %v after a change of another result", second)
	}
	one, _, _ := impl.DecodeInts(b, 0, 3)
	other, _, _ := impl.DecodeInts(b, 0, 3)
	clear(one)
	if !slices.Equal(other, []int{2, 7, 8}) {
		t.Errorf("DecodeInts = %v after a change of another result", other)
	}
}
