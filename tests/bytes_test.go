package tests

import (
	"encoding/binary"
	"hash/crc32"
	"math"
	"math/rand"
	"strings"
	"testing"

	"loop.example/g00782/impl"
)

// same reports what was got where another thing was wanted.
func same[T comparable](t *testing.T, what string, got T, want T) {
	t.Helper()
	if got != want {
		t.Errorf("%s: got %+v, want %+v", what, got, want)
	}
}

// edgeNumbers are all numbers at which a byte more is needed, and their neighbours, of both signs.
func edgeNumbers() []int64 {
	out := []int64{0, math.MaxInt64, math.MaxInt64 - 1, math.MinInt64, math.MinInt64 + 1}
	for shift := 0; shift < 63; shift++ {
		power := int64(1) << shift
		for _, n := range []int64{power - 1, power, power + 1} {
			out = append(out, n, -n)
		}
	}
	return out
}

func someText(size int, from *rand.Rand) string {
	out := make([]byte, size)
	for i := range out {
		out[i] = byte(from.Intn(256))
	}
	return string(out)
}

func TestConstants(t *testing.T) {
	got := []int64{impl.OK, impl.ErrForm, impl.ErrSize, impl.ErrSyntax, impl.ErrShort, impl.ErrSum, impl.ErrNone, impl.ErrThere, impl.ErrRange, impl.ErrFull, impl.ErrState, impl.MaxBytes, impl.MaxList, impl.MaxTime}
	want := []int64{0, 1, 2, 3, 4, 5, 6, 7, 8, 9, 10, 8000, 400, 1000000}
	for i := range want {
		same(t, "constant", got[i], want[i])
	}
}

func TestPutNumWritesTheBytesOfTheDocument(t *testing.T) {
	for n, want := range map[int64]string{
		0:             "\x00",
		-1:            "\x01",
		1:             "\x02",
		63:            "\x7e",
		-64:           "\x7f",
		64:            "\x80\x01",
		-65:           "\x81\x01",
		300:           "\xd8\x04",
		math.MaxInt64: "\xfe\xff\xff\xff\xff\xff\xff\xff\xff\x01",
		math.MinInt64: "\xff\xff\xff\xff\xff\xff\xff\xff\xff\x01",
	} {
		same(t, "PutNum", impl.PutNum(n), want)
	}
}

// Promise 1.
func TestNumbersComeBack(t *testing.T) {
	from := rand.New(rand.NewSource(1))
	numbers := edgeNumbers()
	for range 500 {
		numbers = append(numbers, int64(from.Uint64())>>from.Intn(64))
	}
	for _, n := range numbers {
		text := impl.PutNum(n)
		same(t, "PutNum", text, string(binary.AppendVarint(nil, n)))
		same(t, "alone", impl.GetNum(text, 0), impl.NumOut{N: n, At: int64(len(text))})
		same(t, "within", impl.GetNum("\xff\x80"+text+"\x80\x01", 2), impl.NumOut{N: n, At: int64(2 + len(text))})
	}
}

// Promise 1: of all that is cut short nothing comes back.
func TestNumbersCutShort(t *testing.T) {
	for _, n := range edgeNumbers() {
		text := impl.PutNum(n)
		for end := range len(text) {
			same(t, "cut", impl.GetNum(text[:end], 0), impl.NumOut{Code: impl.ErrShort})
		}
	}
}

func TestGetNumFaults(t *testing.T) {
	nine := strings.Repeat("\xff", 9)
	long := strings.Repeat("\x00", impl.MaxBytes+1)
	for _, c := range []struct {
		what string
		text string
		at   int64
		code int64
	}{
		{"too long", long, 0, impl.ErrSize},
		{"too long ahead of below 0", long, -1, impl.ErrSize},
		{"too long ahead of behind the end", long, math.MaxInt64, impl.ErrSize},
		{"below 0", "\x00", -1, impl.ErrForm},
		{"far below 0", "\x00", math.MinInt64, impl.ErrForm},
		{"below 0 ahead of short", "", -1, impl.ErrForm},
		{"empty", "", 0, impl.ErrShort},
		{"at the end", "\x00", 1, impl.ErrShort},
		{"behind the end", "\x00", 2, impl.ErrShort},
		{"far behind the end", "\x00", math.MaxInt64, impl.ErrShort},
		{"no last byte", "\x80", 0, impl.ErrShort},
		{"no last byte from there", "\x01\x80\x80", 1, impl.ErrShort},
		{"nine bytes, none the last", nine, 0, impl.ErrShort},
		{"short ahead of more than needed", "\x80\x80", 0, impl.ErrShort},
		{"ten bytes, none the last", nine + "\xff", 0, impl.ErrSyntax},
		{"ten bytes, none the last, all 128", strings.Repeat("\x80", 10), 0, impl.ErrSyntax},
		{"tenth byte 129", nine + "\x81", 0, impl.ErrSyntax},
		{"tenth byte 2", nine + "\x02", 0, impl.ErrSyntax},
		{"tenth byte 3", nine + "\x03", 0, impl.ErrSyntax},
		{"tenth byte 127", nine + "\x7f", 0, impl.ErrSyntax},
		{"tenth byte 0", nine + "\x00", 0, impl.ErrSyntax},
		{"eleven bytes", nine + "\x80\x01", 0, impl.ErrSyntax},
		{"two bytes of 0", "\x80\x00", 0, impl.ErrSyntax},
		{"two bytes of 127", "\xff\x00", 0, impl.ErrSyntax},
		{"three bytes of 1", "\x81\x80\x00", 0, impl.ErrSyntax},
	} {
		same(t, c.what, impl.GetNum(c.text, c.at), impl.NumOut{Code: c.code})
	}
}

func TestGetNumAtTheLimits(t *testing.T) {
	text := strings.Repeat("\x02", impl.MaxBytes)
	same(t, "first", impl.GetNum(text, 0), impl.NumOut{N: 1, At: 1})
	same(t, "last", impl.GetNum(text, impl.MaxBytes-1), impl.NumOut{N: 1, At: impl.MaxBytes})
	same(t, "behind", impl.GetNum(text, impl.MaxBytes), impl.NumOut{Code: impl.ErrShort})
	same(t, "least tenth byte", impl.GetNum(strings.Repeat("\x80", 9)+"\x01", 0), impl.NumOut{N: 1 << 62, At: 10})
}

// Promise 1.
func TestTextsComeBack(t *testing.T) {
	from := rand.New(rand.NewSource(2))
	for _, size := range []int{0, 1, 2, 62, 63, 64, 65, 127, 128, 129, 300, 4000, 7997, 7998} {
		text := someText(size, from)
		put := impl.PutText(text)
		same(t, "PutText", put, impl.PutNum(int64(size))+text)
		same(t, "alone", impl.GetText(put, 0), impl.TextOut{Text: text, At: int64(len(put))})
		if size < 7000 {
			same(t, "within", impl.GetText("\xffab"+put+"cd", 3), impl.TextOut{Text: text, At: int64(3 + len(put))})
		}
	}
}

func TestTextsCutShort(t *testing.T) {
	for _, text := range []string{"", "a", "ab", strings.Repeat("c", 64)} {
		put := impl.PutText(text)
		for end := range len(put) {
			same(t, "cut", impl.GetText(put[:end], 0), impl.TextOut{Code: impl.ErrShort})
		}
	}
}

func TestPutTextAtTheLimit(t *testing.T) {
	full := strings.Repeat("a", impl.MaxBytes)
	same(t, "full", impl.PutText(full), impl.PutNum(impl.MaxBytes)+full)
	same(t, "full does not fit in", impl.GetText(impl.PutText(full), 0), impl.TextOut{Code: impl.ErrSize})
	same(t, "too long", impl.PutText(full+"a"), "")
}

func TestGetTextFaults(t *testing.T) {
	long := strings.Repeat("\x00", impl.MaxBytes+1)
	for _, c := range []struct {
		what string
		text string
		at   int64
		code int64
	}{
		{"too long", long, 0, impl.ErrSize},
		{"too long ahead of below 0", long, -1, impl.ErrSize},
		{"below 0", "\x00", -1, impl.ErrForm},
		{"far below 0", "\x02a", math.MinInt64, impl.ErrForm},
		{"empty", "", 0, impl.ErrShort},
		{"at the end", "\x00", 1, impl.ErrShort},
		{"far behind the end", "\x00", math.MaxInt64, impl.ErrShort},
		{"length has no last byte", "\x84", 0, impl.ErrShort},
		{"length in more bytes than needed", "\x82\x00a", 0, impl.ErrSyntax},
		{"length -1", impl.PutNum(-1) + "a", 0, impl.ErrSyntax},
		{"length far below 0", impl.PutNum(math.MinInt64), 0, impl.ErrSyntax},
		{"length above the limit", impl.PutNum(impl.MaxBytes + 1), 0, impl.ErrSyntax},
		{"length far above the limit", "a" + impl.PutNum(math.MaxInt64), 1, impl.ErrSyntax},
		{"length at the limit, and too little", impl.PutNum(impl.MaxBytes) + "a", 0, impl.ErrShort},
		{"one byte too little", impl.PutNum(3) + "ab", 0, impl.ErrShort},
		{"one byte too little from there", "ab" + impl.PutNum(3) + "ab", 2, impl.ErrShort},
	} {
		same(t, c.what, impl.GetText(c.text, c.at), impl.TextOut{Code: c.code})
	}
}

func TestNameRight(t *testing.T) {
	for _, name := range []string{"a", "z", "m", "a0", "a9", "az", "a_", "a__9z", "abcdefghijklmnopqrst"} {
		same(t, name, impl.NameRight(name), true)
	}
	for _, text := range []string{"", "_", "_a", "0", "0a", "9a", "A", "aB", "a b", " a", "a ", "a-", "a.b", "a\n", "a\x00", "\u00e4", "a\u00e4", "abcdefghijklmnopqrstu", strings.Repeat("a", impl.MaxBytes+1)} {
		same(t, text, impl.NameRight(text), false)
	}
	for b := range 256 {
		letter := b >= 'a' && b <= 'z'
		same(t, "first byte", impl.NameRight(string([]byte{byte(b)})), letter)
		inner := letter || b >= '0' && b <= '9' || b == '_'
		same(t, "second byte", impl.NameRight(string([]byte{'a', byte(b)})), inner)
		same(t, "byte within", impl.NameRight(string([]byte{'a', byte(b), 'a'})), inner)
	}
}

func TestCrcOfKnownTexts(t *testing.T) {
	same(t, "empty", impl.Crc(""), 0)
	same(t, "digits", impl.Crc("123456789"), 0xCBF43926)
	same(t, "letter", impl.Crc("a"), 0xE8B7BE43)
	same(t, "zeros", impl.Crc("\x00\x00\x00\x00"), 0x2144DF1C)
	same(t, "ones", impl.Crc("\xff\xff\xff\xff"), 0xFFFFFFFF)
	from := rand.New(rand.NewSource(3))
	for _, size := range []int{1, 2, 3, 4, 5, 100, 7999, 8000} {
		text := someText(size, from)
		same(t, "some", impl.Crc(text), int64(crc32.ChecksumIEEE([]byte(text))))
	}
	same(t, "too long", impl.Crc(strings.Repeat("a", impl.MaxBytes+1)), 0)
}

// Promise 2: a CRC goes on from text to text.
func TestCrcGoesOn(t *testing.T) {
	from := rand.New(rand.NewSource(4))
	text := someText(60, from)
	for i := 0; i <= len(text); i++ {
		same(t, "two", impl.CrcMore(impl.Crc(text[:i]), text[i:]), impl.Crc(text))
		same(t, "three", impl.CrcMore(impl.CrcMore(impl.Crc(text[:i/2]), text[i/2:i]), text[i:]), impl.Crc(text))
	}
	full := someText(impl.MaxBytes, from)
	both := int64(crc32.ChecksumIEEE([]byte(full + full)))
	same(t, "more than one call takes", impl.CrcMore(impl.Crc(full), full), both)
}

func TestCrcMoreAtTheLimits(t *testing.T) {
	for _, crc := range []int64{0, 1, 1 << 31, 1<<32 - 2, 1<<32 - 1} {
		same(t, "nothing more", impl.CrcMore(crc, ""), crc)
		want := crc32.Update(uint32(crc), crc32.IEEETable, []byte("ab"))
		same(t, "more", impl.CrcMore(crc, "ab"), int64(want))
	}
	for _, crc := range []int64{-1, 1 << 32, 1<<32 + 1, math.MinInt64, math.MaxInt64} {
		same(t, "no crc", impl.CrcMore(crc, "ab"), 0)
		same(t, "no crc, nothing more", impl.CrcMore(crc, ""), 0)
	}
	same(t, "too long", impl.CrcMore(5, strings.Repeat("a", impl.MaxBytes+1)), 0)
}

func TestSealLaysTheCrcBehind(t *testing.T) {
	same(t, "empty", impl.Seal(""), "\x00\x00\x00\x00")
	same(t, "digits", impl.Seal("123456789"), "123456789\x26\x39\xf4\xcb")
	full := strings.Repeat("a", impl.MaxBytes-4)
	want := string(binary.LittleEndian.AppendUint32([]byte(full), crc32.ChecksumIEEE([]byte(full))))
	same(t, "full", impl.Seal(full), want)
	same(t, "too long", impl.Seal(full+"a"), "")
	same(t, "far too long", impl.Seal(strings.Repeat("a", impl.MaxBytes+1)), "")
}

// Promise 2: a sealed text comes back.
func TestSealedTextsComeBack(t *testing.T) {
	from := rand.New(rand.NewSource(5))
	for _, size := range []int{0, 1, 2, 3, 4, 5, 100, 7995, 7996} {
		text := someText(size, from)
		same(t, "Unseal", impl.Unseal(impl.Seal(text)), impl.TextOut{Text: text})
	}
}

// Promise 2: with one byte turned it is refused.
func TestTurnedBytesAreRefused(t *testing.T) {
	for _, text := range []string{"", "a", "some text", "\x00\x00\xff\xff"} {
		sealed := impl.Seal(text)
		for i := range len(sealed) {
			for turn := 1; turn < 256; turn++ {
				broken := []byte(sealed)
				broken[i] ^= byte(turn)
				same(t, "turned", impl.Unseal(string(broken)), impl.TextOut{Code: impl.ErrSum})
			}
		}
	}
}

func TestUnsealFaults(t *testing.T) {
	sealed := impl.Seal("some text")
	for _, c := range []struct {
		what string
		text string
		code int64
	}{
		{"too long", strings.Repeat("\x00", impl.MaxBytes+1), impl.ErrSize},
		{"as long as may be", strings.Repeat("\x00", impl.MaxBytes), impl.ErrSum},
		{"empty", "", impl.ErrShort},
		{"one byte", "a", impl.ErrShort},
		{"three bytes", "\x00\x00\x00", impl.ErrShort},
		{"four bytes", "\x00\x00\x00\x01", impl.ErrSum},
		{"four bytes, the highest turned", "\x01\x00\x00\x00", impl.ErrSum},
		{"first byte gone", sealed[1:], impl.ErrSum},
		{"last byte gone", sealed[:len(sealed)-1], impl.ErrSum},
		{"one byte more", sealed + "\x00", impl.ErrSum},
		{"highest byte first", "123456789\xcb\xf4\x39\x26", impl.ErrSum},
	} {
		same(t, c.what, impl.Unseal(c.text), impl.TextOut{Code: c.code})
	}
}
