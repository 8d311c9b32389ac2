package tests

import (
	"math/rand"
	"reflect"
	"slices"
	"strings"
	"testing"

	"loop.example/g00782/impl"
)

func dep(key string, clock int64, shim int64, epoch int64) impl.Dep {
	return impl.Dep{Key: key, Id: id(clock, shim, epoch)}
}

// depsOf is a list of these keys, all of one id.
func depsOf(a impl.Id, keys ...string) []impl.Dep {
	var out []impl.Dep
	for _, key := range keys {
		out = append(out, impl.Dep{Key: key, Id: a})
	}
	return out
}

// sixKeys are as many as there may be, some of which begin others.
func sixKeys() []string {
	return []string{"a", "ab", "abcd", "b", "ba", "zzzz"}
}

// sameList takes an empty list and none for the same.
func sameList[T comparable](t *testing.T, what string, got []T, want []T) {
	t.Helper()
	if !slices.Equal(got, want) {
		t.Errorf("%s: got %+v, want %+v", what, got, want)
	}
}

// told is that a call told these deps, and OK.
func told(t *testing.T, what string, got impl.DepsOut, want []impl.Dep) {
	t.Helper()
	same(t, what+": code", got.Code, impl.OK)
	sameList(t, what, got.Deps, want)
}

// refused is that a call told that code, and nothing else.
func refused(t *testing.T, what string, got impl.DepsOut, code int64) {
	t.Helper()
	same(t, what+": code", got.Code, code)
	sameList(t, what, got.Deps, nil)
}

// wrongDeps are lists of each kind that is not right, none of them too long to be handed in.
func wrongDeps() map[string][]impl.Dep {
	one := id(1, 1, 0)
	out := map[string][]impl.Dep{
		"falling":           depsOf(one, "b", "a"),
		"falling at last":   depsOf(one, "a", "c", "b"),
		"falling, begun":    depsOf(one, "ab", "a"),
		"alike":             depsOf(one, "a", "a"),
		"alike, other ids":  {dep("a", 1, 1, 0), dep("a", 2, 1, 0)},
		"zero":              {{}},
		"no key":            depsOf(one, ""),
		"no key, then one":  depsOf(one, "", "a"),
		"wrong key":         depsOf(one, "A"),
		"wrong key at last": depsOf(one, "a", "b1"),
		"wrong key between": depsOf(one, "a", "b_", "c"),
		"long key":          depsOf(one, "abcde"),
		"too long key":      depsOf(one, strings.Repeat("a", impl.MaxBytes+1)),
		"no id":             depsOf(impl.Id{}, "a"),
		"no id at last":     {dep("a", 1, 1, 0), {Key: "b"}},
		"seven":             depsOf(one, append(sixKeys(), "zzzzz")...),
		"seven right keys":  depsOf(one, "a", "b", "c", "d", "e", "f", "g"),
		"as long as may be": make([]impl.Dep, impl.MaxList),
	}
	for _, a := range edgeIds() {
		if !impl.IdRight(a) {
			out["id "+plain(a)] = depsOf(a, "a")
		}
	}
	return out
}

// tooLong is a list that is refused ahead of all else.
func tooLong() []impl.Dep {
	return make([]impl.Dep, impl.MaxList+1)
}

// smallLists are all lists of the keys a and b, each of one of three ids, or none.
func smallLists() [][]impl.Dep {
	ids := []impl.Id{id(1, 1, 1), id(1, 2, 0), id(2, 1, 0)}
	var firsts [][]impl.Dep
	for _, a := range ids {
		firsts = append(firsts, depsOf(a, "a"))
	}
	firsts = append(firsts, nil)
	var out [][]impl.Dep
	for _, first := range firsts {
		out = append(out, first)
		for _, b := range ids {
			out = append(out, append(slices.Clone(first), impl.Dep{Key: "b", Id: b}))
		}
	}
	return out
}

// someDeps is a right list of some of the keys, of ids that are often alike.
func someDeps(keys []string, from *rand.Rand) []impl.Dep {
	var out []impl.Dep
	for _, key := range keys {
		if from.Intn(3) > 0 {
			out = append(out, dep(key, 1+from.Int63n(4), 1+from.Int63n(impl.MaxShims), from.Int63n(2)))
		}
	}
	return out
}

// joinedSlowly says what DepsJoin is to tell of right lists, without any limit.
func joinedSlowly(a []impl.Dep, b []impl.Dep) []impl.Dep {
	most := map[string]impl.Id{}
	for _, d := range append(slices.Clone(a), b...) {
		most[d.Key] = impl.MaxId(most[d.Key], d.Id)
	}
	var out []impl.Dep
	for key, a := range most {
		out = append(out, impl.Dep{Key: key, Id: a})
	}
	slices.SortFunc(out, func(x impl.Dep, y impl.Dep) int { return strings.Compare(x.Key, y.Key) })
	return out
}

// coveredSlowly says what Covers is to tell of right lists.
func coveredSlowly(a []impl.Dep, b []impl.Dep) bool {
	for _, d := range b {
		if !slices.ContainsFunc(a, func(e impl.Dep) bool { return e.Key == d.Key && !impl.IdLess(e.Id, d.Id) }) {
			return false
		}
	}
	return true
}

func TestConstantOfDeps(t *testing.T) {
	same(t, "MaxKeys", impl.MaxKeys, 6)
}

func TestKeyRight(t *testing.T) {
	for _, key := range append(sixKeys(), "aaaa", "aa", "z", "zyxw") {
		same(t, "key "+key, impl.KeyRight(key), true)
	}
	for _, key := range []string{
		"", "aaaaa", "abcde", "A", "aB", "a1", "1a", "a_", "_", " ", "a ", " a", "a\n", "a\x00", "\x00", "a.b", "a,b", "`", "{", "é", "aé", "a\xff", "\u0430",
		strings.Repeat("a", impl.MaxBytes), strings.Repeat("a", impl.MaxBytes+1),
	} {
		same(t, "no key "+key, impl.KeyRight(key), false)
	}
	for b := range 256 {
		one := string([]byte{byte(b)})
		right := b >= 'a' && b <= 'z'
		for _, key := range []string{one, one + "a", "a" + one, "aaa" + one, "aa" + one + "a"} {
			same(t, "byte in "+key, impl.KeyRight(key), right)
		}
		same(t, "fifth byte", impl.KeyRight("aaaa"+one), false)
	}
}

func TestDepsRight(t *testing.T) {
	six := depsOf(id(impl.MaxTime, impl.MaxShims, impl.MaxEpoch), sixKeys()...)
	for k := range len(six) + 1 {
		same(t, "begun", impl.DepsRight(six[:k]), true)
		same(t, "ended", impl.DepsRight(six[k:]), true)
	}
	same(t, "none", impl.DepsRight(nil), true)
	same(t, "ids need not rise", impl.DepsRight([]impl.Dep{dep("a", 9, 1, 0), dep("b", 1, 3, 9), dep("c", 9, 1, 0)}), true)
	for what, l := range wrongDeps() {
		same(t, what, impl.DepsRight(l), false)
	}
	same(t, "too long", impl.DepsRight(tooLong()), false)
	same(t, "too long, and rising at first", impl.DepsRight(append(six, tooLong()...)), false)
}

func TestDepOf(t *testing.T) {
	l := []impl.Dep{dep("a", 3, 1, 0), dep("ab", 1, 2, 9), dep("c", 1, 1, 0)}
	for _, d := range l {
		same(t, "at "+d.Key, impl.DepOf(l, d.Key), d.Id)
	}
	for _, key := range []string{"", "b", "abc", "z", "A", "a ", "abcde", strings.Repeat("a", impl.MaxBytes+1)} {
		same(t, "not at "+key, impl.DepOf(l, key), impl.Id{})
	}
	same(t, "of none", impl.DepOf(nil, "a"), impl.Id{})
	wrong := wrongDeps()
	wrong["too long"] = append(depsOf(id(1, 1, 0), "a"), tooLong()...)
	for what, l := range wrong {
		for _, d := range l[:min(len(l), 3)] {
			same(t, what, impl.DepOf(l, d.Key), impl.Id{})
		}
		same(t, what, impl.DepOf(l, "a"), impl.Id{})
	}
}

func TestDepsPut(t *testing.T) {
	l := []impl.Dep{dep("b", 3, 2, 1), dep("d", 5, 1, 0)}
	for _, c := range []struct {
		key  string
		id   impl.Id
		want []impl.Dep
	}{
		{"a", id(1, 1, 0), []impl.Dep{dep("a", 1, 1, 0), l[0], l[1]}},
		{"ba", id(1, 1, 0), []impl.Dep{l[0], dep("ba", 1, 1, 0), l[1]}},
		{"e", id(1, 1, 0), []impl.Dep{l[0], l[1], dep("e", 1, 1, 0)}},
		{"b", id(3, 2, 2), []impl.Dep{dep("b", 3, 2, 2), l[1]}},
		{"b", id(3, 3, 0), []impl.Dep{dep("b", 3, 3, 0), l[1]}},
		{"b", id(4, 1, 0), []impl.Dep{dep("b", 4, 1, 0), l[1]}},
		{"b", id(3, 2, 1), l},
		{"b", id(3, 2, 0), l},
		{"b", id(3, 1, 99), l},
		{"b", id(2, 3, 99), l},
		{"d", id(6, 1, 0), []impl.Dep{l[0], dep("d", 6, 1, 0)}},
	} {
		told(t, "put "+c.key, impl.DepsPut(l, c.key, c.id), c.want)
	}
	told(t, "into none", impl.DepsPut(nil, "abcd", id(impl.MaxTime, 3, 99)), depsOf(id(impl.MaxTime, 3, 99), "abcd"))
}

func TestDepsPutIsFull(t *testing.T) {
	six := depsOf(id(2, 1, 0), sixKeys()...)
	for k, key := range sixKeys() {
		want := slices.Clone(six)
		want[k].Id = id(3, 1, 0)
		told(t, "the key is there", impl.DepsPut(six, key, id(3, 1, 0)), want)
		told(t, "and the id is not above", impl.DepsPut(six, key, id(1, 1, 0)), six)
		five := slices.Delete(slices.Clone(six), k, k+1)
		told(t, "the sixth one", impl.DepsPut(five, key, id(2, 1, 0)), six)
	}
	for _, key := range []string{"aa", "c", "zzz"} {
		refused(t, "a seventh one", impl.DepsPut(six, key, id(3, 1, 0)), impl.ErrFull)
	}
}

// What is looked for first is told, however much else is wrong.
func TestDepsPutFaults(t *testing.T) {
	one := id(1, 1, 0)
	six := depsOf(one, sixKeys()...)
	long := strings.Repeat("a", impl.MaxBytes+1)
	for _, l := range [][]impl.Dep{nil, six, wrongDeps()["zero"], tooLong()} {
		refused(t, "too long key", impl.DepsPut(l, long, one), impl.ErrSize)
		refused(t, "too long key, no id", impl.DepsPut(l, long, impl.Id{}), impl.ErrSize)
	}
	refused(t, "too long list", impl.DepsPut(tooLong(), "a", one), impl.ErrSize)
	refused(t, "too long list, nothing else right", impl.DepsPut(tooLong(), "A", impl.Id{}), impl.ErrSize)
	for what, l := range wrongDeps() {
		refused(t, what, impl.DepsPut(l, "a", one), impl.ErrForm)
	}
	for _, l := range [][]impl.Dep{nil, six} {
		for _, key := range []string{"", "A", "abcde", "a1", "a ", long[:impl.MaxBytes]} {
			refused(t, "wrong key "+key, impl.DepsPut(l, key, one), impl.ErrForm)
		}
		for _, a := range edgeIds() {
			if !impl.IdRight(a) {
				refused(t, "wrong id "+plain(a), impl.DepsPut(l, "a", a), impl.ErrForm)
				refused(t, "wrong id of a new key "+plain(a), impl.DepsPut(l, "q", a), impl.ErrForm)
			}
		}
	}
}

func TestDepsJoin(t *testing.T) {
	a := []impl.Dep{dep("a", 3, 1, 0), dep("c", 1, 1, 0), dep("d", 7, 2, 1)}
	b := []impl.Dep{dep("a", 2, 2, 0), dep("ab", 4, 1, 0), dep("d", 7, 2, 2)}
	both := []impl.Dep{dep("a", 3, 1, 0), dep("ab", 4, 1, 0), dep("c", 1, 1, 0), dep("d", 7, 2, 2)}
	told(t, "a, b", impl.DepsJoin(a, b), both)
	told(t, "b, a", impl.DepsJoin(b, a), both)
	told(t, "a, a", impl.DepsJoin(a, a), a)
	told(t, "a, none", impl.DepsJoin(a, nil), a)
	told(t, "none, b", impl.DepsJoin([]impl.Dep{}, b), b)
	told(t, "none, none", impl.DepsJoin(nil, nil), nil)
}

func TestDepsJoinIsFull(t *testing.T) {
	six := depsOf(id(2, 1, 0), sixKeys()...)
	for k := range len(six) + 1 {
		told(t, "two parts of six", impl.DepsJoin(six[:k], six[k:]), six)
		told(t, "six, and a part of them", impl.DepsJoin(six, six[:k]), six)
		told(t, "a part of six, and six", impl.DepsJoin(six[k:], six), six)
	}
	for _, key := range []string{"aa", "c", "zzz"} {
		refused(t, "a seventh key", impl.DepsJoin(six, depsOf(id(1, 1, 0), key)), impl.ErrFull)
		refused(t, "a seventh key ahead", impl.DepsJoin(depsOf(id(1, 1, 0), key), six), impl.ErrFull)
	}
	refused(t, "twelve keys", impl.DepsJoin(six, depsOf(id(2, 1, 0), "q", "r", "s", "t", "u", "v")), impl.ErrFull)
	refused(t, "seven, of five and five", impl.DepsJoin(six[:5], depsOf(id(2, 1, 0), "ab", "abcd", "b", "c", "d")), impl.ErrFull)
}

func TestDepsJoinFaults(t *testing.T) {
	six := depsOf(id(1, 1, 0), sixKeys()...)
	for what, wrong := range wrongDeps() {
		for _, l := range [][]impl.Dep{nil, six, depsOf(id(1, 1, 0), "q"), wrong} {
			refused(t, what+", ahead", impl.DepsJoin(wrong, l), impl.ErrForm)
			refused(t, what+", behind", impl.DepsJoin(l, wrong), impl.ErrForm)
		}
	}
	for _, l := range [][]impl.Dep{nil, six, {{}}, make([]impl.Dep, impl.MaxList), tooLong()} {
		refused(t, "too long, ahead", impl.DepsJoin(tooLong(), l), impl.ErrSize)
		refused(t, "too long, behind", impl.DepsJoin(l, tooLong()), impl.ErrSize)
	}
}

func TestCovers(t *testing.T) {
	a := []impl.Dep{dep("a", 3, 2, 1), dep("b", 5, 1, 0)}
	for _, c := range []struct {
		b    []impl.Dep
		want bool
	}{
		{nil, true},
		{a, true},
		{a[:1], true},
		{a[1:], true},
		{[]impl.Dep{dep("a", 3, 2, 0)}, true},
		{[]impl.Dep{dep("a", 3, 1, 99)}, true},
		{[]impl.Dep{dep("a", 2, 3, 99), dep("b", 5, 1, 0)}, true},
		{[]impl.Dep{dep("a", 3, 2, 2)}, false},
		{[]impl.Dep{dep("a", 3, 3, 0)}, false},
		{[]impl.Dep{dep("a", 4, 1, 0)}, false},
		{[]impl.Dep{dep("a", 1, 1, 0), dep("b", 5, 1, 1)}, false},
		{[]impl.Dep{dep("c", 1, 1, 0)}, false},
		{[]impl.Dep{dep("a", 1, 1, 0), dep("aa", 1, 1, 0), dep("b", 1, 1, 0)}, false},
	} {
		same(t, "covers", impl.Covers(a, c.b), c.want)
	}
	same(t, "none covers none", impl.Covers(nil, []impl.Dep{}), true)
	same(t, "none covers one", impl.Covers(nil, a[:1]), false)
}

func TestCoversAsksForRightOnes(t *testing.T) {
	six := depsOf(id(impl.MaxTime, impl.MaxShims, impl.MaxEpoch), sixKeys()...)
	wrong := wrongDeps()
	wrong["too long"] = tooLong()
	for what, l := range wrong {
		for _, right := range [][]impl.Dep{nil, six, depsOf(id(1, 1, 0), "a")} {
			same(t, what+" covers", impl.Covers(l, right), false)
			same(t, what+" is covered", impl.Covers(right, l), false)
		}
		same(t, what+" covers itself", impl.Covers(l, l), false)
	}
}

func TestClockOf(t *testing.T) {
	same(t, "of none", impl.ClockOf(nil), 0)
	same(t, "of one", impl.ClockOf(depsOf(id(1, 3, 99), "a")), 1)
	l := []impl.Dep{dep("a", 7, 1, 0), dep("b", 9, 1, 0), dep("c", 8, 3, 99)}
	same(t, "between", impl.ClockOf(l), 9)
	same(t, "first", impl.ClockOf(l[:1]), 7)
	same(t, "last", impl.ClockOf(l[2:]), 8)
	same(t, "at the limit", impl.ClockOf(depsOf(id(impl.MaxTime, 1, 0), sixKeys()...)), impl.MaxTime)
	for what, l := range wrongDeps() {
		same(t, what, impl.ClockOf(l), 0)
	}
	same(t, "too long", impl.ClockOf(append(l, tooLong()...)), 0)
}

// Promise 4, of all small lists.
func TestJoinIsTheLeastThatCoversBoth(t *testing.T) {
	lists := smallLists()
	same(t, "how many lists", len(lists), 16)
	for _, a := range lists {
		for _, b := range lists {
			both := impl.DepsJoin(a, b)
			told(t, "join", both, joinedSlowly(a, b))
			same(t, "covers a", impl.Covers(both.Deps, a), true)
			same(t, "covers b", impl.Covers(both.Deps, b), true)
			for _, c := range lists {
				same(t, "what covers both covers the join", impl.Covers(c, both.Deps), coveredSlowly(c, a) && coveredSlowly(c, b))
			}
		}
	}
}

// Promise 4, of lists of up to as many keys as there may be.
func TestJoinOfManyKeys(t *testing.T) {
	from := rand.New(rand.NewSource(8))
	keys := sixKeys()
	for range 3000 {
		a, b, c := someDeps(keys, from), someDeps(keys, from), someDeps(keys, from)
		both := impl.DepsJoin(a, b)
		told(t, "join", both, joinedSlowly(a, b))
		same(t, "right", impl.DepsRight(both.Deps), true)
		same(t, "covers", impl.Covers(both.Deps, a) && impl.Covers(both.Deps, b), true)
		same(t, "a covers b", impl.Covers(a, b), coveredSlowly(a, b))
		most := impl.DepsJoin(both.Deps, c).Deps
		same(t, "what covers both covers the join", impl.Covers(most, both.Deps), true)
		same(t, "only that", impl.Covers(c, both.Deps), coveredSlowly(c, a) && coveredSlowly(c, b))
		told(t, "in any order", impl.DepsJoin(a, impl.DepsJoin(b, c).Deps), most)
		same(t, "greatest clock", impl.ClockOf(both.Deps), max(impl.ClockOf(a), impl.ClockOf(b)))
	}
}

// Promise 4: more keys than may be are refused, just then.
func TestJoinOfTooManyKeys(t *testing.T) {
	from := rand.New(rand.NewSource(9))
	keys := []string{"a", "aa", "b", "c", "d", "e", "f", "g"}
	full := 0
	for range 3000 {
		a, b := someDeps(keys, from), someDeps(keys, from)
		a, b = a[:min(len(a), impl.MaxKeys)], b[max(0, len(b)-impl.MaxKeys):]
		want := joinedSlowly(a, b)
		if len(want) > impl.MaxKeys {
			full++
			refused(t, "too many", impl.DepsJoin(a, b), impl.ErrFull)
			continue
		}
		told(t, "join", impl.DepsJoin(a, b), want)
	}
	same(t, "some were too many, and some were not", full > 300 && full < 2700, true)
}

// Promise 4: what is put is joined.
func TestPutIsJoined(t *testing.T) {
	from := rand.New(rand.NewSource(10))
	keys := []string{"a", "ab", "b", "c", "d", "e", "z"}
	for range 3000 {
		l := someDeps(keys, from)
		l = l[:min(len(l), impl.MaxKeys)]
		one := dep(keys[from.Intn(len(keys))], 1+from.Int63n(4), 1+from.Int63n(impl.MaxShims), from.Int63n(2))
		got, want := impl.DepsPut(l, one.Key, one.Id), impl.DepsJoin(l, []impl.Dep{one})
		if !reflect.DeepEqual(got, want) {
			t.Fatalf("put %+v into %+v: got %+v, want %+v", one, l, got, want)
		}
		if got.Code == impl.OK {
			same(t, "what is put is there", impl.DepOf(got.Deps, one.Key), impl.MaxId(impl.DepOf(l, one.Key), one.Id))
		}
	}
}

// What is handed in stays, and shares no memory with what is told.
func TestDepsAreNewMemory(t *testing.T) {
	a := append(make([]impl.Dep, 0, 9), dep("a", 3, 1, 0), dep("cc", 1, 1, 0))
	b := append(make([]impl.Dep, 0, 9), dep("cc", 1, 2, 0), dep("d", 1, 2, 0))
	keptA, keptB := slices.Clone(a), slices.Clone(b)
	for what, got := range map[string]impl.DepsOut{
		"join":         impl.DepsJoin(a, b),
		"join of none": impl.DepsJoin(a, nil),
		"none joined":  impl.DepsJoin(nil, b),
		"put":          impl.DepsPut(a, "e", id(1, 1, 0)),
		"nothing new":  impl.DepsPut(a, "cc", id(1, 1, 0)),
	} {
		full := got.Deps[:cap(got.Deps)]
		for i := range full {
			full[i] = dep("x", 9, 3, 9)
		}
		sameList(t, what+": a stays", a, keptA)
		sameList(t, what+": b stays", b, keptB)
	}
	sameList(t, "nothing behind a", a[:cap(a)][2:], make([]impl.Dep, 7))
	sameList(t, "nothing behind b", b[:cap(b)][2:], make([]impl.Dep, 7))
}
