package tests

import (
	"math/rand"
	"slices"
	"strings"
	"testing"
	"unsafe"

	"loop.example/g00782/impl"
)

// widest are as many bytes as a row may have.
var widest = strings.Repeat("\xff", 300)

func row(key string, a impl.Id, bytes string) impl.Row {
	return impl.Row{Key: key, Id: a, Bytes: bytes}
}

// rowsAt are rows at these keys, of these ids, be they right or not.
func rowsAt(l []impl.Dep, bytes string) []impl.Row {
	var out []impl.Row
	for _, d := range l {
		out = append(out, row(d.Key, d.Id, bytes))
	}
	return out
}

// sixRows are as many as there may be, all of one id.
func sixRows(a impl.Id, bytes string) []impl.Row {
	return rowsAt(depsOf(a, sixKeys()...), bytes)
}

// wrongStores are stores of each kind that is not right, none of them too long to be handed in.
func wrongStores() map[string][]impl.Row {
	one := id(1, 1, 0)
	out := map[string][]impl.Row{
		"wide":          {row("a", one, widest+"a")},
		"wide at first": {row("a", one, widest+"a"), row("b", one, "")},
		"wide at last":  {row("a", one, ""), row("b", one, widest+"a")},
		"far too wide":  {row("a", one, strings.Repeat("a", impl.MaxBytes+1))},
	}
	for what, l := range wrongDeps() {
		out[what] = rowsAt(l, "x")
	}
	return out
}

// wrongRows are rows of each kind that may not stand in a store.
func wrongRows() map[string]impl.Row {
	out := map[string]impl.Row{}
	for what, s := range wrongStores() {
		if len(s) == 1 {
			out[what] = s[0]
		}
	}
	return out
}

func tooLongStore() []impl.Row {
	return make([]impl.Row, impl.MaxList+1)
}

// stored is that a call told this store, and OK.
func stored(t *testing.T, what string, got impl.StoreOut, want []impl.Row) {
	t.Helper()
	same(t, what+": code", got.Code, impl.OK)
	sameList(t, what, got.Store, want)
}

// notStored is that a call told that code, and no store.
func notStored(t *testing.T, what string, got impl.StoreOut, code int64) {
	t.Helper()
	same(t, what+": code", got.Code, code)
	sameList(t, what, got.Store, nil)
}

// mergedSlowly says what StoreMerge is to tell of right stores, without any limit.
func mergedSlowly(a []impl.Row, b []impl.Row) []impl.Row {
	out := slices.Clone(a)
	for _, r := range b {
		at := slices.IndexFunc(out, func(o impl.Row) bool { return o.Key == r.Key })
		if at < 0 {
			out = append(out, r)
		} else if impl.IdLess(out[at].Id, r.Id) {
			out[at] = r
		}
	}
	slices.SortFunc(out, func(x impl.Row, y impl.Row) int { return strings.Compare(x.Key, y.Key) })
	return out
}

// someStore is a right store of some of the keys, of ids that are often alike, with bytes that tell where they are from.
func someStore(keys []string, bytes string, from *rand.Rand) []impl.Row {
	s := rowsAt(someDeps(keys, from), bytes)
	return s[:min(len(s), impl.MaxKeys)]
}

func TestStoreRight(t *testing.T) {
	last := id(impl.MaxTime, impl.MaxShims, impl.MaxEpoch)
	for _, bytes := range []string{"", "x", "\x00\xff", widest} {
		six := sixRows(last, bytes)
		for k := range len(six) + 1 {
			same(t, "begun", impl.StoreRight(six[:k]), true)
			same(t, "ended", impl.StoreRight(six[k:]), true)
		}
	}
	same(t, "none", impl.StoreRight(nil), true)
	same(t, "ids need not rise", impl.StoreRight([]impl.Row{row("a", last, "x"), row("b", id(1, 1, 0), "y")}), true)
	for what, s := range wrongStores() {
		same(t, what, impl.StoreRight(s), false)
	}
	same(t, "too long", impl.StoreRight(tooLongStore()), false)
	same(t, "too long, and right at first", impl.StoreRight(append(sixRows(last, ""), tooLongStore()...)), false)
}

func TestStorePut(t *testing.T) {
	s := []impl.Row{row("b", id(3, 2, 1), "old"), row("d", id(5, 1, 0), "d")}
	for _, c := range []struct {
		put  impl.Row
		want []impl.Row
	}{
		{row("a", id(1, 1, 0), "new"), []impl.Row{row("a", id(1, 1, 0), "new"), s[0], s[1]}},
		{row("ba", id(1, 1, 0), "new"), []impl.Row{s[0], row("ba", id(1, 1, 0), "new"), s[1]}},
		{row("e", id(1, 1, 0), widest), []impl.Row{s[0], s[1], row("e", id(1, 1, 0), widest)}},
		{row("b", id(3, 2, 2), "new"), []impl.Row{row("b", id(3, 2, 2), "new"), s[1]}},
		{row("b", id(3, 3, 0), "new"), []impl.Row{row("b", id(3, 3, 0), "new"), s[1]}},
		{row("b", id(4, 1, 0), ""), []impl.Row{row("b", id(4, 1, 0), ""), s[1]}},
		{row("d", id(6, 1, 0), "new"), []impl.Row{s[0], row("d", id(6, 1, 0), "new")}},
		{row("b", id(3, 2, 1), "old"), s},
		{row("b", id(3, 2, 1), "of one id"), s},
		{row("b", id(3, 2, 0), "less"), s},
		{row("b", id(3, 1, 99), "less"), s},
		{row("b", id(2, 3, 99), "less"), s},
	} {
		stored(t, "put "+c.put.Key+" "+impl.IdText(c.put.Id), impl.StorePut(s, c.put), c.want)
	}
	stored(t, "into none", impl.StorePut(nil, s[0]), s[:1])
	stored(t, "into an empty one", impl.StorePut([]impl.Row{}, s[0]), s[:1])
}

func TestStorePutIsFull(t *testing.T) {
	six := sixRows(id(2, 1, 0), "old")
	for k, key := range sixKeys() {
		want := slices.Clone(six)
		want[k] = row(key, id(3, 1, 0), "new")
		stored(t, "the key is there", impl.StorePut(six, want[k]), want)
		stored(t, "and the id is not above", impl.StorePut(six, row(key, id(1, 1, 0), "new")), six)
		five := slices.Delete(slices.Clone(six), k, k+1)
		stored(t, "the sixth one", impl.StorePut(five, six[k]), six)
	}
	for _, key := range []string{"aa", "c", "zzz"} {
		notStored(t, "a seventh one", impl.StorePut(six, row(key, id(3, 1, 0), "new")), impl.ErrFull)
	}
}

// What is looked for first is told, however much else is wrong.
func TestStorePutFaults(t *testing.T) {
	six := sixRows(id(1, 1, 0), "x")
	right := row("q", id(1, 1, 0), "x")
	notStored(t, "too long", impl.StorePut(tooLongStore(), right), impl.ErrSize)
	notStored(t, "too long, and no row", impl.StorePut(tooLongStore(), impl.Row{}), impl.ErrSize)
	for what, r := range wrongRows() {
		notStored(t, "too long, "+what, impl.StorePut(tooLongStore(), r), impl.ErrSize)
		notStored(t, what+", into none", impl.StorePut(nil, r), impl.ErrForm)
		notStored(t, what+", ahead of full", impl.StorePut(six, r), impl.ErrForm)
	}
	for what, s := range wrongStores() {
		notStored(t, what, impl.StorePut(s, right), impl.ErrForm)
		notStored(t, what+", and no row", impl.StorePut(s, impl.Row{}), impl.ErrForm)
	}
}

func TestStoreGet(t *testing.T) {
	s := []impl.Row{row("a", id(3, 1, 0), "x"), row("ab", id(1, 2, 9), ""), row("c", id(1, 1, 0), widest)}
	for _, r := range s {
		same(t, "at "+r.Key, impl.StoreGet(s, r.Key), r)
	}
	for _, key := range []string{"", "b", "abc", "z", "A", "a ", "abcde", strings.Repeat("a", impl.MaxBytes+1)} {
		same(t, "not at "+key, impl.StoreGet(s, key), impl.Row{})
	}
	same(t, "of none", impl.StoreGet(nil, "a"), impl.Row{})
	wrong := wrongStores()
	wrong["too long"] = append(slices.Clone(s), tooLongStore()...)
	for what, s := range wrong {
		for _, r := range s[:min(len(s), 3)] {
			same(t, what, impl.StoreGet(s, r.Key), impl.Row{})
		}
		same(t, what, impl.StoreGet(s, "a"), impl.Row{})
	}
}

func TestStoreMerge(t *testing.T) {
	a := []impl.Row{row("a", id(3, 1, 0), "a"), row("c", id(1, 1, 0), "a"), row("d", id(7, 2, 1), "a"), row("e", id(4, 1, 0), "a")}
	b := []impl.Row{row("a", id(2, 2, 0), "b"), row("ab", id(4, 1, 0), "b"), row("d", id(7, 2, 2), "b"), row("e", id(4, 1, 0), "b")}
	stored(t, "a, b", impl.StoreMerge(a, b), []impl.Row{a[0], b[1], a[1], b[2], a[3]})
	stored(t, "b, a", impl.StoreMerge(b, a), []impl.Row{a[0], b[1], a[1], b[2], b[3]})
	stored(t, "a, a", impl.StoreMerge(a, a), a)
	stored(t, "a, none", impl.StoreMerge(a, nil), a)
	stored(t, "none, b", impl.StoreMerge([]impl.Row{}, b), b)
	stored(t, "none, none", impl.StoreMerge(nil, nil), nil)
}

func TestStoreMergeIsFull(t *testing.T) {
	six := sixRows(id(2, 1, 0), "x")
	for k := range len(six) + 1 {
		stored(t, "two parts of six", impl.StoreMerge(six[:k], six[k:]), six)
		stored(t, "six, and a part of them", impl.StoreMerge(six, six[:k]), six)
		stored(t, "a part of six, and six", impl.StoreMerge(six[k:], six), six)
	}
	for _, key := range []string{"aa", "c", "zzz"} {
		seventh := rowsAt(depsOf(id(1, 1, 0), key), "x")
		notStored(t, "a seventh key", impl.StoreMerge(six, seventh), impl.ErrFull)
		notStored(t, "a seventh key ahead", impl.StoreMerge(seventh, six), impl.ErrFull)
	}
	notStored(t, "twelve keys", impl.StoreMerge(six, rowsAt(depsOf(id(2, 1, 0), "q", "r", "s", "t", "u", "v"), "x")), impl.ErrFull)
	notStored(t, "seven, of five and five", impl.StoreMerge(six[:5], rowsAt(depsOf(id(3, 1, 0), "ab", "abcd", "b", "c", "d"), "x")), impl.ErrFull)
}

func TestStoreMergeFaults(t *testing.T) {
	six := sixRows(id(1, 1, 0), "x")
	for what, wrong := range wrongStores() {
		for _, s := range [][]impl.Row{nil, six, rowsAt(depsOf(id(1, 1, 0), "q"), "x"), wrong} {
			notStored(t, what+", ahead", impl.StoreMerge(wrong, s), impl.ErrForm)
			notStored(t, what+", behind", impl.StoreMerge(s, wrong), impl.ErrForm)
		}
	}
	for _, s := range [][]impl.Row{nil, six, {{}}, make([]impl.Row, impl.MaxList), tooLongStore()} {
		notStored(t, "too long, ahead", impl.StoreMerge(tooLongStore(), s), impl.ErrSize)
		notStored(t, "too long, behind", impl.StoreMerge(s, tooLongStore()), impl.ErrSize)
	}
}

func TestStoreSame(t *testing.T) {
	s := []impl.Row{row("a", id(3, 2, 1), "x"), row("b", id(1, 1, 0), "")}
	same(t, "itself", impl.StoreSame(s, slices.Clone(s)), true)
	same(t, "none, and an empty one", impl.StoreSame(nil, []impl.Row{}), true)
	others := map[string][]impl.Row{
		"key":         {row("aa", id(3, 2, 1), "x"), s[1]},
		"clock":       {row("a", id(4, 2, 1), "x"), s[1]},
		"shim":        {row("a", id(3, 1, 1), "x"), s[1]},
		"epoch":       {row("a", id(3, 2, 0), "x"), s[1]},
		"bytes":       {row("a", id(3, 2, 1), "y"), s[1]},
		"more bytes":  {row("a", id(3, 2, 1), "xx"), s[1]},
		"last bytes":  {s[0], row("b", id(1, 1, 0), "x")},
		"begun":       s[:1],
		"ended":       s[1:],
		"none":        nil,
		"one more":    {s[0], s[1], row("c", id(1, 1, 0), "")},
		"other order": {s[1], s[0]},
		"too long":    append(slices.Clone(s), tooLongStore()...),
	}
	for what, other := range others {
		same(t, what, impl.StoreSame(s, other), false)
		same(t, what+", turned round", impl.StoreSame(other, s), false)
	}
	same(t, "too long, both", impl.StoreSame(tooLongStore(), tooLongStore()), false)
	for what, s := range wrongStores() {
		same(t, "fields alike, not right: "+what, impl.StoreSame(s, slices.Clone(s)), true)
	}
}

func TestDigest(t *testing.T) {
	l := []impl.Dep{dep("a", 9, 1, 0), dep("ab", 1, 2, 9), dep("c", impl.MaxTime, 3, 99)}
	sameList(t, "three", impl.Digest(rowsAt(l, "x")), l)
	sameList(t, "none", impl.Digest(nil), nil)
	six := depsOf(id(1, 1, 0), sixKeys()...)
	sameList(t, "six", impl.Digest(rowsAt(six, widest)), six)
	for what, s := range wrongStores() {
		sameList(t, what, impl.Digest(s), nil)
	}
	sameList(t, "too long", impl.Digest(tooLongStore()), nil)
}

// mergedRight is promise 6 of two right stores, that fit together.
func mergedRight(t *testing.T, a []impl.Row, b []impl.Row) {
	t.Helper()
	both := impl.StoreMerge(a, b)
	stored(t, "merge", both, mergedSlowly(a, b))
	same(t, "right", impl.StoreRight(both.Store), true)
	sameList(t, "of each key the greater id", impl.Digest(both.Store), joinedSlowly(impl.Digest(a), impl.Digest(b)))
	for _, r := range both.Store {
		same(t, "and it is one of both", slices.Contains(a, r) || slices.Contains(b, r), true)
	}
	for _, again := range [][]impl.Row{a, b, both.Store, nil} {
		same(t, "merged again nothing is new", impl.StoreSame(impl.StoreMerge(both.Store, again).Store, both.Store), true)
	}
	for _, r := range append(slices.Clone(a), b...) {
		same(t, "put again nothing is new", impl.StoreSame(impl.StorePut(both.Store, r).Store, both.Store), true)
	}
}

// Promise 6, of all small stores.
func TestMergeOfSmallStores(t *testing.T) {
	lists := smallLists()
	same(t, "how many stores", len(lists), 16)
	for _, a := range lists {
		for _, b := range lists {
			mergedRight(t, rowsAt(a, "a"), rowsAt(b, "b"))
		}
	}
}

// Promise 6, of stores of up to as many keys as there may be.
func TestMergeOfManyKeys(t *testing.T) {
	from := rand.New(rand.NewSource(12))
	keys := sixKeys()
	for range 3000 {
		a, b, c := someStore(keys, "a", from), someStore(keys, "b", from), someStore(keys, "c", from)
		mergedRight(t, a, b)
		one := impl.StoreMerge(impl.StoreMerge(a, b).Store, c)
		stored(t, "in any order", impl.StoreMerge(a, impl.StoreMerge(b, c).Store), one.Store)
	}
}

// Promise 6: more keys than may be are refused, just then.
func TestMergeOfTooManyKeys(t *testing.T) {
	from := rand.New(rand.NewSource(13))
	keys := []string{"a", "aa", "b", "c", "d", "e", "f", "g"}
	full := 0
	for range 3000 {
		a, b := someStore(keys, "a", from), someStore(keys, "b", from)
		if len(mergedSlowly(a, b)) > impl.MaxKeys {
			full++
			notStored(t, "too many", impl.StoreMerge(a, b), impl.ErrFull)
			continue
		}
		mergedRight(t, a, b)
	}
	same(t, "some were too many, and some were not", full > 300 && full < 2700, true)
}

// Promise 6: what is merged is put, row by row.
func TestMergeIsPuts(t *testing.T) {
	from := rand.New(rand.NewSource(14))
	for range 3000 {
		a, b := someStore(sixKeys(), "a", from), someStore(sixKeys(), "b", from)
		s := a
		for _, r := range b {
			before := impl.StoreGet(s, r.Key)
			s = impl.StorePut(s, r).Store
			same(t, "what is put is there, if it is above", impl.StoreGet(s, r.Key).Id, impl.MaxId(before.Id, r.Id))
		}
		stored(t, "merge", impl.StoreMerge(a, b), s)
	}
}

// What is handed in stays, and shares no memory with what is told.
func TestStoresAreNewMemory(t *testing.T) {
	a := append(make([]impl.Row, 0, 9), row("a", id(3, 1, 0), "a"), row("cc", id(1, 1, 0), "a"))
	b := append(make([]impl.Row, 0, 9), row("cc", id(1, 2, 0), "b"), row("d", id(1, 2, 0), "b"))
	keptA, keptB := slices.Clone(a), slices.Clone(b)
	more := row("e", id(1, 1, 0), "e")
	for what, got := range map[string]impl.StoreOut{
		"merge":         impl.StoreMerge(a, b),
		"merge of none": impl.StoreMerge(a, nil),
		"none merged":   impl.StoreMerge(nil, b),
		"put":           impl.StorePut(a, more),
		"nothing new":   impl.StorePut(a, row("cc", id(1, 1, 0), "e")),
	} {
		for _, r := range got.Store {
			apart(t, what, r, slices.Concat(a, b, []impl.Row{more}))
		}
		full := got.Store[:cap(got.Store)]
		for i := range full {
			full[i] = row("x", id(9, 3, 9), "x")
		}
		sameList(t, what+": a stays", a, keptA)
		sameList(t, what+": b stays", b, keptB)
	}
	apart(t, "get", impl.StoreGet(a, "cc"), a)
	apart(t, "digest", row(impl.Digest(a)[1].Key, impl.Id{}, ""), a)
	sameList(t, "nothing behind a", a[:cap(a)][2:], make([]impl.Row, 7))
	sameList(t, "nothing behind b", b[:cap(b)][2:], make([]impl.Row, 7))
}

// apart is that no text of the row lies where one of the others does.
func apart(t *testing.T, what string, r impl.Row, others []impl.Row) {
	t.Helper()
	for _, other := range others {
		same(t, what+": its key lies elsewhere", unsafe.StringData(r.Key) != unsafe.StringData(other.Key), true)
		same(t, what+": its bytes lie elsewhere", r.Bytes == "" || unsafe.StringData(r.Bytes) != unsafe.StringData(other.Bytes), true)
	}
}
