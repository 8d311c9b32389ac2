package tests

import (
	"math"
	"math/rand"
	"strconv"
	"strings"
	"testing"

	"loop.example/g00782/impl"
)

func id(clock int64, shim int64, epoch int64) impl.Id {
	return impl.Id{Clock: clock, Shim: shim, Epoch: epoch}
}

// everyId puts each three of the given numbers together.
func everyId(clocks []int64, shims []int64, epochs []int64) []impl.Id {
	var out []impl.Id
	for _, clock := range clocks {
		for _, shim := range shims {
			for _, epoch := range epochs {
				out = append(out, id(clock, shim, epoch))
			}
		}
	}
	return out
}

// edgeIds are right and wrong ones, rising.
func edgeIds() []impl.Id {
	clocks := []int64{math.MinInt64, -1, 0, 1, 2, 9, 10, impl.MaxTime, impl.MaxTime + 1, math.MaxInt64}
	shims := []int64{math.MinInt64, 0, 1, 2, impl.MaxShims, impl.MaxShims + 1, math.MaxInt64}
	epochs := []int64{math.MinInt64, -1, 0, 1, 9, 10, impl.MaxEpoch, impl.MaxEpoch + 1, math.MaxInt64}
	return everyId(clocks, shims, epochs)
}

// rightIds are right ones at all limits, and where a digit more is needed.
func rightIds() []impl.Id {
	clocks := []int64{1, 2, 9, 10, 11, 99, 100, 12345, 99999, 100000, impl.MaxTime - 1, impl.MaxTime}
	return everyId(clocks, []int64{1, 2, impl.MaxShims}, []int64{0, 1, 9, 10, 11, impl.MaxEpoch - 1, impl.MaxEpoch})
}

func TestConstantsOfIds(t *testing.T) {
	same(t, "MaxShims", impl.MaxShims, 3)
	same(t, "MaxEpoch", impl.MaxEpoch, 99)
}

func TestIdRight(t *testing.T) {
	for _, a := range rightIds() {
		same(t, "right "+impl.IdText(a), impl.IdRight(a), true)
	}
	for _, a := range edgeIds() {
		want := a.Clock >= 1 && a.Clock <= 1000000 && a.Shim >= 1 && a.Shim <= 3 && a.Epoch >= 0 && a.Epoch <= 99
		same(t, "edge "+plain(a), impl.IdRight(a), want)
	}
	same(t, "zero", impl.IdRight(impl.Id{}), false)
}

// plain names an id in a failure, be it right or not.
func plain(a impl.Id) string {
	return strconv.FormatInt(a.Clock, 10) + " " + strconv.FormatInt(a.Shim, 10) + " " + strconv.FormatInt(a.Epoch, 10)
}

// Promise 3: of two unlike ids just one is less, and of like ones none.
func TestJustOneIsLess(t *testing.T) {
	rising := edgeIds()
	for i, a := range rising {
		for k, b := range rising {
			if impl.IdLess(a, b) != (i < k) {
				t.Fatalf("%s less than %s: got %v", plain(a), plain(b), i >= k)
			}
		}
	}
}

func TestIdLessAsksForClockThenShimThenEpoch(t *testing.T) {
	for _, c := range []struct {
		less  impl.Id
		other impl.Id
	}{
		{id(1, 3, 99), id(2, 1, 0)},
		{id(1, 1, 99), id(1, 2, 0)},
		{id(1, 1, 0), id(1, 1, 1)},
		{impl.Id{}, id(1, 1, 0)},
		{id(-1, 9, 9), impl.Id{}},
		{id(9, 1, 0), id(10, 1, 0)},
		{id(math.MinInt64, 1, 0), id(math.MaxInt64, 1, 0)},
	} {
		same(t, "less", impl.IdLess(c.less, c.other), true)
		same(t, "not less", impl.IdLess(c.other, c.less), false)
		same(t, "alike", impl.IdLess(c.less, c.less), false)
	}
}

func TestMaxId(t *testing.T) {
	rising := edgeIds()
	for i, a := range rising {
		for k, b := range rising {
			if got := impl.MaxId(a, b); got != rising[max(i, k)] {
				t.Fatalf("MaxId of %s and %s: got %s", plain(a), plain(b), plain(got))
			}
		}
	}
}

func TestIdText(t *testing.T) {
	for want, a := range map[string]impl.Id{
		"1.1.0":        id(1, 1, 0),
		"10.2.10":      id(10, 2, 10),
		"999999.3.98":  id(999999, 3, 98),
		"1000000.3.99": id(1000000, 3, 99),
	} {
		same(t, "IdText", impl.IdText(a), want)
	}
	for _, a := range edgeIds() {
		want := ""
		if impl.IdRight(a) {
			want = strings.ReplaceAll(plain(a), " ", ".")
		}
		same(t, "IdText of "+plain(a), impl.IdText(a), want)
	}
}

// Promise 3: a right id comes back from its text.
func TestRightIdsComeBack(t *testing.T) {
	ids := rightIds()
	from := rand.New(rand.NewSource(6))
	for range 500 {
		ids = append(ids, id(1+from.Int63n(impl.MaxTime), 1+from.Int63n(impl.MaxShims), from.Int63n(impl.MaxEpoch+1)))
	}
	for _, a := range ids {
		same(t, "IdRead of "+plain(a), impl.IdRead(impl.IdText(a)), impl.IdOut{Id: a})
	}
}

func TestIdReadRefusesWhatIsNoText(t *testing.T) {
	for _, text := range []string{
		"", ".", "..", "...", "5", "5.", "5.1", "5.1.", ".1.0", "5..0", "5.1.0.", ".5.1.0", "5.1.0.0", "5.1..0",
		"05.1.0", "5.01.0", "5.1.00", "5.1.01", "+5.1.0", "5.+1.0", "5.1.+0", "5.1.-0", "-5.1.0",
		" 5.1.0", "5.1.0 ", "5. 1.0", "5.1.0\n", "5.1.0\x00", "5,1,0", "5 1 0", "5.1_0.0", "1_0.1.0", "0x5.1.0", "1e1.1.0", "a.1.0", "5.b.0", "5.1.c",
		"0.1.0", "5.0.0", "0.0.0", "1000001.1.0", "5.4.0", "5.1.100", "5.1.-1", "5.-1.0",
		"9223372036854775807.1.0", "9223372036854775808.1.0", "18446744073709551617.1.0", "5.18446744073709551617.0", "5.1.18446744073709551616",
		"\u0665.1.0", "5.1.\u0660", "5\u20241.0", "5.1.0\xff",
		strings.Repeat("0", impl.MaxBytes-4) + ".1.0", strings.Repeat("1", impl.MaxBytes),
	} {
		same(t, "IdRead of "+text, impl.IdRead(text), impl.IdOut{Code: impl.ErrSyntax})
	}
}

func TestIdReadOfTooLongTexts(t *testing.T) {
	same(t, "at the limit", impl.IdRead("5.1.0"+strings.Repeat(" ", impl.MaxBytes-5)).Code, impl.ErrSyntax)
	for _, text := range []string{"5.1.0" + strings.Repeat(" ", impl.MaxBytes-4), strings.Repeat("1", impl.MaxBytes+1)} {
		same(t, "too long", impl.IdRead(text), impl.IdOut{Code: impl.ErrSize})
	}
}

// shortTexts are all texts of at most that many bytes of the alphabet.
func shortTexts(alphabet string, size int) []string {
	out := []string{""}
	for begun := 0; size > 0; size-- {
		end := len(out)
		for ; begun < end; begun++ {
			for i := range len(alphabet) {
				out = append(out, out[begun]+alphabet[i:i+1])
			}
		}
	}
	return out
}

// Promise 3: what is read is right, and has no other text than the one it was read from.
func TestNoOtherTextIsRead(t *testing.T) {
	read := 0
	for _, text := range shortTexts(".013-+", 6) {
		got := impl.IdRead(text)
		if got.Code != impl.OK {
			same(t, "refused "+text, got, impl.IdOut{Code: impl.ErrSyntax})
			continue
		}
		read++
		same(t, "right "+text, impl.IdRight(got.Id), true)
		same(t, "text "+text, impl.IdText(got.Id), text)
	}
	// Shim is 1 or 3; of 4 digits, Clock and Epoch have 1 and 1, 2 and 1, or 1 and 2 of them:
	// of one digit Clock is one of 2, Epoch one of 3, of two each is one of 6.
	same(t, "how many are read", read, 2*(2*3+6*3+2*6))
}
