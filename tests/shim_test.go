package tests

import (
	"math"
	"math/rand"
	"slices"
	"strings"
	"sync"
	"testing"

	"loop.example/g00782/impl"
)

func item(key string, data string) impl.Item {
	return impl.Item{Key: key, Data: data}
}

func goneItem(key string) impl.Item {
	return impl.Item{Key: key, Gone: true}
}

// items write the same at all these keys.
func items(keys ...string) []impl.Item {
	var out []impl.Item
	for _, key := range keys {
		out = append(out, item(key, "x"))
	}
	return out
}

// plainShim has the plain shelf, of which it has seen a row and, of another one, less than there is.
func plainShim() impl.Shim {
	return impl.Shim{Me: 2, Epoch: 1, Clock: 7, Ctx: []impl.Dep{dep("a", 3, 1, 0), dep("d", 2, 3, 0)}, Cut: plainCut()}
}

// turnedShim is the plain shim with something turned.
func turnedShim(turn func(s *impl.Shim)) impl.Shim {
	s := plainShim()
	turn(&s)
	return s
}

// rightShims stand at the limits that chapter 9 names, and between.
func rightShims() map[string]impl.Shim {
	out := map[string]impl.Shim{
		"plain":                            plainShim(),
		"the last of all":                  turnedShim(func(s *impl.Shim) { s.Me, s.Epoch, s.Clock = impl.MaxShims, impl.MaxEpoch, impl.MaxTime }),
		"the first of all":                 turnedShim(func(s *impl.Shim) { s.Me, s.Epoch = 1, 0 }),
		"the clock is that of a row":       turnedShim(func(s *impl.Shim) { s.Clock = 4 }),
		"all seen":                         turnedShim(func(s *impl.Shim) { s.Ctx = marksOfRecs(s.Cut.Rows) }),
		"nothing seen":                     turnedShim(func(s *impl.Shim) { s.Ctx = nil }),
		"seen of an epoch more, but below": turnedShim(func(s *impl.Shim) { s.Ctx = depsOf(id(2, 3, 99), "a", "b") }),
		"nothing but a clock":              {Me: 1, Clock: impl.MaxTime},
		"empty lists":                      {Me: 1, Ctx: []impl.Dep{}, Cut: impl.Cut{Rows: []impl.Rec{}, Wait: []impl.Rec{}}},
	}
	for me := range int64(impl.MaxShims) {
		out["new "+number(me+1)] = impl.Shim{Me: me + 1}
	}
	for what, c := range rightCuts() {
		out["all seen of "+what] = impl.Shim{Me: 3, Epoch: 2, Clock: impl.MaxTime, Ctx: marksOfRecs(c.Rows), Cut: c}
		out["just the clock of "+what] = impl.Shim{Me: 1, Clock: greatestClock(0, c.Rows), Cut: c}
	}
	return out
}

// wrongShims are shims of each kind that is not right.
func wrongShims() map[string]impl.Shim {
	last := id(impl.MaxTime, impl.MaxShims, impl.MaxEpoch)
	out := map[string]impl.Shim{
		"zero":                              {},
		"a row has a clock above":           turnedShim(func(s *impl.Shim) { s.Clock = 3 }),
		"one row alone has a clock above":   {Me: 1, Cut: impl.Cut{Rows: alone(id(1, 1, 0), "a")}},
		"the first row has a clock above":   {Me: 1, Clock: 1, Cut: impl.Cut{Rows: append(alone(id(2, 1, 0), "a"), alone(id(1, 1, 0), "b")...)}},
		"seen what is no row":               turnedShim(func(s *impl.Shim) { s.Ctx = depsOf(id(1, 1, 0), "e") }),
		"seen what waits":                   turnedShim(func(s *impl.Shim) { s.Ctx = depsOf(id(5, 3, 0), "c") }),
		"seen more than a row's clock":      turnedShim(func(s *impl.Shim) { s.Ctx = depsOf(id(4, 1, 0), "b") }),
		"seen more than a row's shim":       turnedShim(func(s *impl.Shim) { s.Ctx = depsOf(id(3, 2, 0), "a") }),
		"seen more than a row's epoch":      turnedShim(func(s *impl.Shim) { s.Ctx = depsOf(id(3, 1, 1), "a") }),
		"seen, but there is nothing":        {Me: 1, Clock: 1, Ctx: depsOf(id(1, 1, 0), "a")},
		"seen, at last, more than there is": turnedShim(func(s *impl.Shim) { s.Ctx = append(s.Ctx[:1:1], dep("d", 4, 2, 1)) }),
		"seen too long":                     turnedShim(func(s *impl.Shim) { s.Ctx = tooLong() }),
	}
	for _, n := range []int64{math.MinInt64, -1, 0, impl.MaxShims + 1, math.MaxInt64} {
		out["me "+number(n)] = turnedShim(func(s *impl.Shim) { s.Me = n })
	}
	for _, n := range []int64{math.MinInt64, -1, impl.MaxEpoch + 1, math.MaxInt64} {
		out["epoch "+number(n)] = turnedShim(func(s *impl.Shim) { s.Epoch = n })
	}
	for _, n := range []int64{math.MinInt64, -1, impl.MaxTime + 1, math.MaxInt64} {
		out["clock "+number(n)] = turnedShim(func(s *impl.Shim) { s.Clock = n })
		out["clock alone "+number(n)] = impl.Shim{Me: 1, Clock: n}
	}
	for what, l := range wrongDeps() {
		out["seen "+what] = impl.Shim{Me: 1, Clock: impl.MaxTime, Ctx: l, Cut: impl.Cut{Rows: alone(last, "a", "ab", "b", "c", "d", "e")}}
	}
	for what, c := range wrongCuts() {
		out["cut "+what] = impl.Shim{Me: 1, Clock: impl.MaxTime, Cut: c}
	}
	return out
}

// greatestClock is that of these rows, or this one, if that is greater.
func greatestClock(clock int64, rows []impl.Rec) int64 {
	for _, r := range rows {
		clock = max(clock, r.Id.Clock)
	}
	return clock
}

// shimRightSlowly says what ShimRight is to tell.
func shimRightSlowly(t *testing.T, s impl.Shim) bool {
	t.Helper()
	if s.Me < 1 || s.Me > 3 || s.Epoch < 0 || s.Epoch > 99 || s.Clock < 0 || s.Clock > 1000000 {
		return false
	}
	if !impl.DepsRight(s.Ctx) || !cutRightSlowly(t, s.Cut) {
		return false
	}
	return coveredSlowly(marksOfRecs(s.Cut.Rows), s.Ctx) && greatestClock(s.Clock, s.Cut.Rows) == s.Clock
}

// readSlowly says what ReadAt is to tell of a right shim, and right keys.
func readSlowly(s impl.Shim, keys ...string) impl.ShimOut {
	var out impl.ShimOut
	for _, key := range keys {
		var at impl.Rec
		for _, r := range s.Cut.Rows {
			if r.Key == key {
				at = r
				s.Ctx = joinedSlowly(joinedSlowly(s.Ctx, needsSlowly(r)), []impl.Dep{{Key: key, Id: r.Id}})
			}
		}
		out.Recs = append(out.Recs, at)
	}
	out.Shim = s
	return out
}

// recsSlowly are the records that these items become.
func recsSlowly(s impl.Shim, l []impl.Item) []impl.Rec {
	var keys []string
	for _, i := range l {
		keys = append(keys, i.Key)
	}
	var out []impl.Rec
	for _, i := range l {
		out = append(out, impl.Rec{Key: i.Key, Id: id(s.Clock+1, s.Me, s.Epoch), Data: i.Data, Gone: i.Gone, Deps: s.Ctx, Bundle: keys})
	}
	return out
}

// writeSlowly says what WriteAt is to tell of a right shim, and items that may be written together.
func writeSlowly(t *testing.T, s impl.Shim, l []impl.Item) impl.ShimOut {
	t.Helper()
	recs := recsSlowly(s, l)
	if s.Clock == impl.MaxTime || keysSlowly(slices.Concat(s.Cut.Rows, s.Cut.Wait, recs)...) > impl.MaxKeys {
		return impl.ShimOut{Code: impl.ErrFull}
	}
	rows := s.Cut.Rows
	for _, r := range recs {
		rows = inPlace(rows, r)
	}
	wait := slices.DeleteFunc(slices.Clone(s.Cut.Wait), func(r impl.Rec) bool { return !isAbove(rows, r) })
	come := comeSlowly(t, rows, wait)
	s.Ctx = joinedSlowly(s.Ctx, marksOfRecs(recs))
	s.Clock = greatestClock(s.Clock+1, come.Cut.Rows)
	s.Cut = come.Cut
	return impl.ShimOut{Shim: s, Recs: recs, Fresh: come.Fresh}
}

// learnSlowly says what Learn is to tell of a right shim, and the bytes of a right record at its key.
func learnSlowly(t *testing.T, s impl.Shim, r impl.Rec) impl.ShimOut {
	t.Helper()
	offered := offerSlowly(t, s.Cut, r)
	if offered.Code != impl.OK {
		return impl.ShimOut{Code: offered.Code}
	}
	s.Cut = offered.Cut
	s.Clock = greatestClock(s.Clock, s.Cut.Rows)
	return impl.ShimOut{Shim: s, Fresh: offered.Fresh}
}

func learned(s impl.Shim, r impl.Rec) impl.ShimOut {
	return impl.Learn(s, r.Key, impl.RecBytes(r))
}

func sameShim(t *testing.T, what string, got impl.Shim, want impl.Shim) {
	t.Helper()
	same(t, what+": me", got.Me, want.Me)
	same(t, what+": epoch", got.Epoch, want.Epoch)
	same(t, what+": clock", got.Clock, want.Clock)
	sameList(t, what+": ctx", got.Ctx, want.Ctx)
	sameCut(t, what+": cut", got.Cut, want.Cut)
}

func sameShimOut(t *testing.T, what string, got impl.ShimOut, want impl.ShimOut) {
	t.Helper()
	same(t, what+": code", got.Code, want.Code)
	sameShim(t, what, got.Shim, want.Shim)
	sameRecs(t, what+": recs", got.Recs, want.Recs)
	sameList(t, what+": fresh", got.Fresh, want.Fresh)
}

// notAsked is that a call told that code, and nothing else.
func notAsked(t *testing.T, what string, got impl.ShimOut, code int64) {
	t.Helper()
	sameShimOut(t, what, got, impl.ShimOut{Code: code})
}

func TestShimRight(t *testing.T) {
	for what, s := range rightShims() {
		same(t, what, impl.ShimRight(s), true)
		same(t, what+", slowly", shimRightSlowly(t, s), true)
	}
	for what, s := range wrongShims() {
		same(t, what, impl.ShimRight(s), false)
	}
}

func TestShimNew(t *testing.T) {
	for me := int64(1); me <= impl.MaxShims; me++ {
		got := impl.ShimNew(me)
		sameShimOut(t, "new "+number(me), got, impl.ShimOut{Shim: impl.Shim{Me: me}})
		same(t, "new ones are right", impl.ShimRight(got.Shim), true)
	}
	for _, me := range []int64{math.MinInt64, -1, 0, impl.MaxShims + 1, math.MaxInt64} {
		notAsked(t, "new "+number(me), impl.ShimNew(me), impl.ErrForm)
	}
}

// What is not right is refused by all that takes a shim, ahead of all else but what is too long.
func TestShimsThatAreNotRight(t *testing.T) {
	r := written("a", id(9, 1, 0), nil)
	for what, s := range wrongShims() {
		notAsked(t, what+": read", impl.ReadAt(s, []string{"a"}), impl.ErrForm)
		notAsked(t, what+": read nothing", impl.ReadAt(s, nil), impl.ErrForm)
		notAsked(t, what+": write", impl.WriteAt(s, items("a")), impl.ErrForm)
		notAsked(t, what+": write nothing", impl.WriteAt(s, nil), impl.ErrForm)
		notAsked(t, what+": learn", learned(s, r), impl.ErrForm)
		notAsked(t, what+": learn what is broken", impl.Learn(s, "a", "abcd"), impl.ErrForm)
		notAsked(t, what+": learn at another key", impl.Learn(s, "b", impl.RecBytes(r)), impl.ErrForm)
		notAsked(t, what+": restart", impl.Restart(s), impl.ErrForm)
		sameList(t, what+": missing", impl.Missing(s), nil)
	}
	wrong := turnedShim(func(s *impl.Shim) { s.Epoch = impl.MaxEpoch + 1 })
	notAsked(t, "restart of an epoch above", impl.Restart(wrong), impl.ErrForm)
	long := strings.Repeat("a", impl.MaxBytes+1)
	notAsked(t, "too many keys", impl.ReadAt(impl.Shim{}, make([]string, impl.MaxList+1)), impl.ErrSize)
	notAsked(t, "too many items", impl.WriteAt(impl.Shim{}, make([]impl.Item, impl.MaxList+1)), impl.ErrSize)
	notAsked(t, "too long a key", impl.Learn(impl.Shim{}, long, "abcd"), impl.ErrSize)
	notAsked(t, "too long bytes", impl.Learn(impl.Shim{}, "a", long), impl.ErrSize)
	notAsked(t, "too long bytes at no key", impl.Learn(impl.Shim{}, "", long), impl.ErrSize)
}

func TestReadAt(t *testing.T) {
	s := plainShim()
	for what, asked := range map[string]struct {
		keys []string
		ctx  []impl.Dep
	}{
		"what was seen":                       {[]string{"d"}, []impl.Dep{dep("a", 3, 1, 0), dep("d", 4, 2, 0)}},
		"what was written with another one":   {[]string{"b"}, []impl.Dep{dep("a", 3, 1, 0), dep("b", 3, 1, 0), dep("d", 2, 3, 0)}},
		"the one with which it was written":   {[]string{"a"}, []impl.Dep{dep("a", 3, 1, 0), dep("b", 3, 1, 0), dep("d", 2, 3, 0)}},
		"what only waits":                     {[]string{"c"}, s.Ctx},
		"what there is none of":               {[]string{"e", "zzzz"}, s.Ctx},
		"all, and in any order":               {[]string{"d", "c", "b", "a"}, marksOfRecs(s.Cut.Rows)},
		"one again and again":                 {[]string{"d", "d", "d", "d"}, []impl.Dep{dep("a", 3, 1, 0), dep("d", 4, 2, 0)}},
		"what there is none of, again, and b": {[]string{"zz", "b", "zz", "zz"}, []impl.Dep{dep("a", 3, 1, 0), dep("b", 3, 1, 0), dep("d", 2, 3, 0)}},
	} {
		got := impl.ReadAt(s, asked.keys)
		sameShimOut(t, what, got, readSlowly(s, asked.keys...))
		sameList(t, what+": ctx", got.Shim.Ctx, asked.ctx)
		for i, key := range asked.keys {
			sameRec(t, what+": "+key, got.Recs[i], impl.RowOf(s.Cut, key))
		}
		sameShimOut(t, what+": again", impl.ReadAt(got.Shim, asked.keys), got)
	}
	fresh := turnedShim(func(s *impl.Shim) { s.Ctx = nil })
	sameList(t, "of d its deps are seen too", impl.ReadAt(fresh, []string{"d"}).Shim.Ctx, []impl.Dep{dep("a", 3, 1, 0), dep("d", 4, 2, 0)})
	sameList(t, "of none nothing is seen", impl.ReadAt(impl.Shim{Me: 1}, []string{"a"}).Shim.Ctx, nil)
}

// What is seen of a key is what was read there, though the row depends on an earlier one of that key; and of another key what it needs, though more is there.
func TestReadAtSeesWhatIsNeeded(t *testing.T) {
	own := written("a", id(5, 1, 0), depsOf(id(4, 1, 0), "a", "b"))
	s := impl.Shim{Me: 1, Clock: 9, Cut: impl.Cut{Rows: []impl.Rec{own, written("b", id(9, 1, 0), nil)}}}
	got := impl.ReadAt(s, []string{"a"})
	sameList(t, "own key", got.Shim.Ctx, []impl.Dep{dep("a", 5, 1, 0), dep("b", 4, 1, 0)})
	s.Ctx = depsOf(id(6, 1, 0), "b")
	sameList(t, "more was seen", impl.ReadAt(s, []string{"a"}).Shim.Ctx, []impl.Dep{dep("a", 5, 1, 0), dep("b", 6, 1, 0)})
	gone := impl.Rec{Key: "a", Id: id(2, 1, 0), Gone: true, Bundle: []string{"a"}}
	s = impl.Shim{Me: 1, Clock: 9, Cut: impl.Cut{Rows: []impl.Rec{gone}}}
	got = impl.ReadAt(s, []string{"a"})
	sameRecs(t, "gone", got.Recs, []impl.Rec{gone})
	sameList(t, "gone is seen", got.Shim.Ctx, depsOf(id(2, 1, 0), "a"))
}

func TestReadAtOfWrongKeys(t *testing.T) {
	for what, keys := range map[string][]string{
		"none":              nil,
		"empty":             {},
		"five":              {"a", "a", "a", "a", "a"},
		"no key":            {""},
		"no key at last":    {"a", "b", ""},
		"no key at first":   {"", "a"},
		"long key":          {"abcde"},
		"far too long key":  {strings.Repeat("a", impl.MaxBytes+1)},
		"wrong key":         {"A"},
		"digit":             {"a", "b1"},
		"as many as may be": slices.Repeat([]string{"a"}, impl.MaxList),
	} {
		notAsked(t, what, impl.ReadAt(plainShim(), keys), impl.ErrForm)
		notAsked(t, what+", of none", impl.ReadAt(impl.Shim{Me: 1}, keys), impl.ErrForm)
	}
	notAsked(t, "too many", impl.ReadAt(plainShim(), slices.Repeat([]string{"a"}, impl.MaxList+1)), impl.ErrSize)
}

// wrongItems are lists of each kind that may not be written together.
func wrongItems() map[string][]impl.Item {
	return map[string][]impl.Item{
		"none":              nil,
		"empty":             {},
		"five":              items("a", "b", "c", "d", "e"),
		"falling":           items("b", "a"),
		"falling at last":   items("a", "c", "b"),
		"falling, begun":    items("ab", "a"),
		"alike":             items("a", "a"),
		"alike, other data": {item("a", "x"), item("a", "y")},
		"no key":            items(""),
		"no key at first":   items("", "a"),
		"wrong key":         items("A"),
		"wrong key at last": items("a", "b_"),
		"long key":          items("abcde"),
		"far too long key":  items(strings.Repeat("a", impl.MaxBytes+1)),
		"long data":         {item("a", "123456789")},
		"far too long data": {item("a", strings.Repeat("x", impl.MaxBytes+1))},
		"wrong data":        {item("a", "x"), item("b", "X")},
		"blank data":        {item("a", " ")},
		"gone, of data":     {{Key: "a", Data: "x", Gone: true}},
		"gone, at last":     {item("a", "x"), {Key: "b", Data: "0", Gone: true}},
		"as many as may be": make([]impl.Item, impl.MaxList),
	}
}

func TestWriteAtOfWrongItems(t *testing.T) {
	full := impl.Shim{Me: 1, Clock: impl.MaxTime, Cut: impl.Cut{Rows: alone(id(1, 1, 0), sixKeys()...)}}
	for what, l := range wrongItems() {
		notAsked(t, what, impl.WriteAt(plainShim(), l), impl.ErrForm)
		notAsked(t, what+", of none", impl.WriteAt(impl.Shim{Me: 1}, l), impl.ErrForm)
		notAsked(t, what+", where it is full", impl.WriteAt(full, l), impl.ErrForm)
	}
	notAsked(t, "too many", impl.WriteAt(plainShim(), make([]impl.Item, impl.MaxList+1)), impl.ErrSize)
}

// What is written is behind what was seen, and not behind what was only learned.
func TestWriteAt(t *testing.T) {
	s := plainShim()
	got := impl.WriteAt(s, []impl.Item{item("a", "az09zzzz"), item("e", ""), goneItem("f")})
	a := id(8, 2, 1)
	bundle := []string{"a", "e", "f"}
	recs := []impl.Rec{
		{Key: "a", Id: a, Data: "az09zzzz", Deps: s.Ctx, Bundle: bundle},
		{Key: "e", Id: a, Deps: s.Ctx, Bundle: bundle},
		{Key: "f", Id: a, Gone: true, Deps: s.Ctx, Bundle: bundle},
	}
	b, c, d := s.Cut.Wait[0], s.Cut.Wait[1], s.Cut.Rows[2]
	want := impl.Shim{Me: 2, Epoch: 1, Clock: 8, Cut: impl.Cut{Rows: []impl.Rec{recs[0], b, c, d, recs[1], recs[2]}}}
	want.Ctx = []impl.Dep{{Key: "a", Id: a}, dep("d", 2, 3, 0), {Key: "e", Id: a}, {Key: "f", Id: a}}
	sameShimOut(t, "three, and a lets two come", got, impl.ShimOut{Shim: want, Recs: recs, Fresh: []string{"b", "c"}})
	first := impl.WriteAt(impl.Shim{Me: 3}, items("a"))
	sameList(t, "the first of all has no deps", first.Recs[0].Deps, nil)
	same(t, "and the least clock", first.Recs[0].Id, id(1, 3, 0))
	again := impl.WriteAt(first.Shim, items("a"))
	sameList(t, "the second one is behind it", again.Recs[0].Deps, depsOf(id(1, 3, 0), "a"))
	sameList(t, "and seen in its place", again.Shim.Ctx, depsOf(id(2, 3, 0), "a"))
	for what, s := range rightShims() {
		for _, l := range [][]impl.Item{items("a"), items("b"), items("c", "d"), items("a", "b", "c", "d"), items("ab", "zzzz"), {goneItem("e")}} {
			sameShimOut(t, what, impl.WriteAt(s, l), writeSlowly(t, s, l))
		}
	}
}

// What waits goes, stays or comes, as what is written at its key, or at what it needs, stands to it.
func TestWriteAtTurnsWhatWaits(t *testing.T) {
	early := turnedShim(func(s *impl.Shim) { s.Clock = 4 })
	b, c := early.Cut.Wait[0], early.Cut.Wait[1]
	for what, asked := range map[string]struct {
		s     impl.Shim
		l     []impl.Item
		fresh []string
		wait  []impl.Rec
		clock int64
	}{
		"nothing to do with it":              {early, items("d"), nil, early.Cut.Wait, 5},
		"below what waits there":             {early, items("b"), nil, early.Cut.Wait, 5},
		"above what waits there":             {plainShim(), items("b"), nil, []impl.Rec{c}, 8},
		"above what another one waits for":   {plainShim(), items("c"), []string{"b"}, nil, 8},
		"above all that waits":               {plainShim(), items("b", "c"), nil, nil, 8},
		"what comes has a greater clock":     {early, items("a"), []string{"b", "c"}, nil, 6},
		"it is written over at once":         {early, items("a", "b"), []string{"b", "c"}, nil, 6},
		"just the id that waits":             {turnedShim(func(s *impl.Shim) { s.Me, s.Epoch, s.Clock = 3, 0, 4 }), items("c"), []string{"b"}, nil, 6},
		"just an epoch above what waits":     {turnedShim(func(s *impl.Shim) { s.Me, s.Epoch, s.Clock = 3, 1, 4 }), items("c"), []string{"b"}, nil, 6},
		"just a shim below what waits":       {early, items("c"), nil, []impl.Rec{b, c}, 5},
		"below it, and it needs what is new": {early, items("a", "c"), []string{"b", "c"}, nil, 6},
	} {
		got := impl.WriteAt(asked.s, asked.l)
		sameShimOut(t, what, got, writeSlowly(t, asked.s, asked.l))
		sameList(t, what+": fresh", got.Fresh, asked.fresh)
		sameRecs(t, what+": wait", got.Shim.Cut.Wait, asked.wait)
		same(t, what+": clock", got.Shim.Clock, asked.clock)
	}
}

func TestWriteAtIsFull(t *testing.T) {
	s := plainShim()
	for _, clock := range []int64{impl.MaxTime - 1, impl.MaxTime} {
		s.Clock = clock
		got := impl.WriteAt(s, items("a"))
		sameShimOut(t, "clock "+number(clock), got, writeSlowly(t, s, items("a")))
	}
	notAsked(t, "the clock is at its end", impl.WriteAt(s, items("a")), impl.ErrFull)
	s.Clock = impl.MaxTime - 1
	last := impl.WriteAt(s, items("a"))
	same(t, "the last one", last.Recs[0].Id, id(impl.MaxTime, 2, 1))
	notAsked(t, "behind the last one", impl.WriteAt(last.Shim, items("a")), impl.ErrFull)
	six := sixKeys()
	for what, c := range map[string]impl.Cut{
		"six rows": {Rows: alone(id(3, 1, 0), six...)},
		"six wait": sixWait(),
		"needs":    {Rows: alone(id(3, 1, 0), six[:2]...), Wait: []impl.Rec{written(six[2], id(4, 1, 0), depsOf(id(3, 1, 0), six[3], six[4]), six[5])}},
	} {
		s := impl.Shim{Me: 1, Clock: 9, Cut: c}
		for _, key := range []string{"aa", "c", "zzz"} {
			notAsked(t, what+": a seventh key", impl.WriteAt(s, items(key)), impl.ErrFull)
		}
		// The one of this key goes where it waits, but what it needs counts.
		notAsked(t, what+": a seventh key beside one of the six", impl.WriteAt(s, items(six[2], "zzz")), impl.ErrFull)
		for _, key := range six {
			same(t, what+": one of the six", impl.WriteAt(s, items(key)).Code, impl.OK)
		}
		same(t, what+": four of the six", impl.WriteAt(s, items(six[:4]...)).Code, impl.OK)
	}
	two := impl.Shim{Me: 1, Clock: 3, Cut: impl.Cut{Rows: alone(id(3, 1, 0), "x", "y")}}
	same(t, "two and four", impl.WriteAt(two, items("a", "b", "c", "d")).Code, impl.OK)
	three := impl.Shim{Me: 1, Clock: 3, Cut: impl.Cut{Rows: alone(id(3, 1, 0), "x", "y", "z")}}
	notAsked(t, "three and four", impl.WriteAt(three, items("a", "b", "c", "d")), impl.ErrFull)
	same(t, "three and four, of which one is there", impl.WriteAt(three, items("a", "b", "c", "z")).Code, impl.OK)
}

// What is learned is on the shelf, and is not seen till it is read.
func TestLearn(t *testing.T) {
	s := plainShim()
	a, b, c := written("a", id(9, 1, 0), nil), s.Cut.Wait[0], s.Cut.Wait[1]
	got := learned(s, a)
	want := turnedShim(func(s *impl.Shim) {
		s.Clock, s.Cut = 9, impl.Cut{Rows: []impl.Rec{a, b, c, s.Cut.Rows[2]}}
	})
	sameShimOut(t, "comes, and two with it", got, impl.ShimOut{Shim: want, Fresh: []string{"a", "b", "c"}})
	waits := written("e", id(99, 3, 0), depsOf(id(98, 1, 0), "c"))
	got = learned(s, waits)
	sameShimOut(t, "waits", got, impl.ShimOut{Shim: turnedShim(func(s *impl.Shim) { s.Cut.Wait = append(s.Cut.Wait, waits) })})
	for _, r := range slices.Concat(s.Cut.Rows, s.Cut.Wait) {
		sameShimOut(t, "nothing is new", learned(s, r), impl.ShimOut{Shim: s})
	}
	last := written("a", id(impl.MaxTime, impl.MaxShims, impl.MaxEpoch), nil)
	got = learned(impl.Shim{Me: 1}, last)
	sameShimOut(t, "the last one", got, impl.ShimOut{Shim: impl.Shim{Me: 1, Clock: impl.MaxTime, Cut: impl.Cut{Rows: []impl.Rec{last}}}, Fresh: []string{"a"}})
	notAsked(t, "behind the last one", impl.WriteAt(got.Shim, items("a")), impl.ErrFull)
	for what, s := range rightShims() {
		for _, r := range rightRecs() {
			sameShimOut(t, what, learned(s, r), learnSlowly(t, s, r))
		}
	}
}

func TestWhatIsLearnedIsNotSeen(t *testing.T) {
	two := together(id(5, 1, 0), nil, "a", "b")
	s := learned(learned(impl.ShimNew(2).Shim, two[0]).Shim, two[1]).Shim
	sameList(t, "both are there", impl.SeenOf(s.Cut), depsOf(id(5, 1, 0), "a", "b"))
	sameList(t, "and not seen", s.Ctx, nil)
	blind := impl.WriteAt(s, items("c"))
	sameList(t, "what is written is not behind it", blind.Recs[0].Deps, nil)
	same(t, "but its id is greater", blind.Recs[0].Id, id(6, 2, 0))
	seeing := impl.WriteAt(impl.ReadAt(s, []string{"b"}).Shim, items("c"))
	sameList(t, "what is written behind reading half is behind both", seeing.Recs[0].Deps, depsOf(id(5, 1, 0), "a", "b"))
	other := learned(impl.ShimNew(3).Shim, seeing.Recs[0]).Shim
	sameRecs(t, "who learns it, and not these, does not see it", other.Cut.Rows, nil)
}

// The codes come in the order in which chapter 9 names them.
func TestLearnOfWrongBytes(t *testing.T) {
	s := plainShim()
	full := impl.Shim{Me: 1, Clock: 9, Cut: impl.Cut{Rows: alone(id(3, 1, 0), sixKeys()...)}}
	good := impl.RecBytes(written("a", id(9, 1, 0), nil))
	broken := good[:3] + string(good[3]^1) + good[4:]
	seventh := impl.RecBytes(written("c", id(9, 1, 0), nil))
	for what, asked := range map[string]struct {
		s     impl.Shim
		key   string
		bytes string
		code  int64
	}{
		"no bytes":                        {s, "a", "", impl.ErrShort},
		"three bytes":                     {s, "a", "abc", impl.ErrShort},
		"broken":                          {s, "a", broken, impl.ErrSum},
		"cut short":                       {s, "a", good[:len(good)-1], impl.ErrSum},
		"no record":                       {s, "a", impl.Seal("abc"), impl.ErrSyntax},
		"nothing, sealed":                 {s, "a", impl.Seal(""), impl.ErrSyntax},
		"as long as may be":               {s, "a", strings.Repeat("a", impl.MaxBytes), impl.ErrSum},
		"too long":                        {s, "a", strings.Repeat("a", impl.MaxBytes+1), impl.ErrSize},
		"of another key":                  {s, "b", good, impl.ErrNone},
		"of another key, which it begins": {s, "aa", good, impl.ErrNone},
		"broken, at another key":          {s, "b", broken, impl.ErrSum},
		"no key":                          {s, "", good, impl.ErrForm},
		"no key, and broken":              {s, "", broken, impl.ErrForm},
		"wrong key":                       {s, "A", good, impl.ErrForm},
		"long key":                        {s, "abcde", good, impl.ErrForm},
		"as long a key as may be":         {s, strings.Repeat("a", impl.MaxBytes), good, impl.ErrForm},
		"too long a key":                  {s, strings.Repeat("a", impl.MaxBytes+1), good, impl.ErrSize},
		"a seventh key":                   {full, "c", seventh, impl.ErrFull},
		"a seventh key, at another one":   {full, "a", seventh, impl.ErrNone},
	} {
		notAsked(t, what, impl.Learn(asked.s, asked.key, asked.bytes), asked.code)
	}
}

func TestRestart(t *testing.T) {
	for what, s := range rightShims() {
		want := impl.ShimOut{Shim: impl.Shim{Me: s.Me, Epoch: s.Epoch + 1}}
		if s.Epoch == impl.MaxEpoch {
			want = impl.ShimOut{Code: impl.ErrFull}
		}
		sameShimOut(t, what, impl.Restart(s), want)
	}
	s := impl.ShimNew(1).Shim
	for range impl.MaxEpoch {
		s = impl.Restart(s).Shim
	}
	same(t, "the last epoch is right", impl.ShimRight(s) && s.Epoch == impl.MaxEpoch, true)
	notAsked(t, "behind the last epoch", impl.Restart(s), impl.ErrFull)
	same(t, "what is written then has that epoch", impl.WriteAt(s, items("a")).Recs[0].Id, id(1, 1, impl.MaxEpoch))
}

// missingSlowly says what Missing is to tell of a right shim.
func missingSlowly(s impl.Shim) []impl.Dep {
	var out []impl.Dep
	for _, r := range s.Cut.Wait {
		for _, d := range needsSlowly(r) {
			if isAbove(s.Cut.Rows, impl.Rec{Key: d.Key, Id: d.Id}) {
				out = joinedSlowly(out, []impl.Dep{d})
			}
		}
	}
	return out
}

func TestMissing(t *testing.T) {
	sameList(t, "plain", impl.Missing(plainShim()), []impl.Dep{dep("a", 4, 1, 0), dep("c", 5, 3, 0)})
	sameList(t, "nothing waits", impl.Missing(impl.Shim{Me: 1}), nil)
	two := impl.Shim{Me: 1, Cut: impl.Cut{Wait: []impl.Rec{
		written("b", id(6, 1, 0), []impl.Dep{dep("a", 5, 1, 0), dep("c", 2, 1, 0)}, "e"),
		written("d", id(9, 1, 0), []impl.Dep{dep("a", 4, 1, 0), dep("c", 7, 1, 0)}, "e"),
	}}}
	sameList(t, "of each key the greatest", impl.Missing(two), []impl.Dep{dep("a", 5, 1, 0), dep("c", 7, 1, 0), dep("e", 9, 1, 0)})
	six := impl.Shim{Me: 1, Cut: sixWait()}
	sameList(t, "of what waits too", impl.Missing(six), []impl.Dep{dep("a", 2, 1, 0), dep("zzzz", 5, 1, 0)})
	for what, s := range rightShims() {
		sameList(t, what, impl.Missing(s), missingSlowly(s))
	}
}

// shimWalk goes on with some shims, any of which may learn, late and doubled, whatever was written.
type shimWalk struct {
	t     *testing.T
	from  *rand.Rand
	keys  []string
	shims []impl.Shim
	log   []impl.Rec
	codes map[string]int
}

// went is that a shim stays right, and nothing of it goes back.
func (w *shimWalk) went(at int, what string, got impl.ShimOut, want impl.ShimOut) {
	w.t.Helper()
	sameShimOut(w.t, what, got, want)
	if got.Code != impl.OK {
		w.codes[what+" refused"]++
		return
	}
	w.codes[what]++
	was := w.shims[at]
	same(w.t, what+": stays right", impl.ShimRight(got.Shim) && shimRightSlowly(w.t, got.Shim), true)
	same(w.t, what+": the clock does not go back", got.Shim.Clock >= was.Clock, true)
	same(w.t, what+": what was seen stays seen", coveredSlowly(got.Shim.Ctx, was.Ctx), true)
	same(w.t, what+": nothing on the shelf goes back", coveredSlowly(impl.SeenOf(got.Shim.Cut), impl.SeenOf(was.Cut)), true)
	sameList(w.t, what+": missing", impl.Missing(got.Shim), missingSlowly(got.Shim))
	w.shims[at] = got.Shim
}

func (w *shimWalk) read(at int) {
	var keys []string
	for range 1 + w.from.Intn(impl.MaxBundle) {
		keys = append(keys, w.keys[w.from.Intn(len(w.keys))])
	}
	w.went(at, "read", impl.ReadAt(w.shims[at], keys), readSlowly(w.shims[at], keys...))
}

func (w *shimWalk) someItems() []impl.Item {
	first := w.from.Intn(len(w.keys))
	l := items(w.keys[first : first+1+w.from.Intn(min(len(w.keys)-first, impl.MaxBundle))]...)
	for i := range l {
		if w.from.Intn(4) == 0 {
			l[i] = goneItem(l[i].Key)
		}
	}
	return l
}

// write is promise 9 of what is written.
func (w *shimWalk) write(at int) {
	was, l := w.shims[at], w.someItems()
	got := impl.WriteAt(was, l)
	w.went(at, "write", got, writeSlowly(w.t, was, l))
	for i, r := range got.Recs {
		same(w.t, "what is written is right", impl.RecRight(r), true)
		for _, d := range slices.Concat(was.Ctx, impl.SeenOf(was.Cut), r.Deps) {
			same(w.t, "its id is greater than all that was seen", impl.IdLess(d.Id, r.Id), true)
		}
		read := impl.ReadAt(got.Shim, []string{l[i].Key}).Recs[0]
		if slices.Contains(got.Fresh, l[i].Key) {
			w.codes["written over at once"]++
			same(w.t, "what came is greater", impl.IdLess(r.Id, read.Id), true)
			continue
		}
		sameRec(w.t, "what is written is read at once", read, r)
		same(w.t, "as it was handed in", impl.Item{Key: read.Key, Data: read.Data, Gone: read.Gone}, l[i])
	}
	w.log = append(w.log, got.Recs...)
}

func (w *shimWalk) learn(at int, r impl.Rec) {
	got := learned(w.shims[at], r)
	w.went(at, "learn", got, learnSlowly(w.t, w.shims[at], r))
	w.codes["came"] += len(got.Fresh)
	w.codes["waited"] += len(got.Shim.Cut.Wait)
}

// learnBroken learns what some bit was turned of.
func (w *shimWalk) learnBroken(at int, r impl.Rec) {
	bytes := []byte(impl.RecBytes(r))
	bytes[w.from.Intn(len(bytes))] ^= 1 << w.from.Intn(8)
	notAsked(w.t, "broken", impl.Learn(w.shims[at], r.Key, string(bytes)), impl.ErrSum)
}

func (w *shimWalk) restart(at int) {
	got := impl.Restart(w.shims[at])
	sameShimOut(w.t, "restart", got, impl.ShimOut{Shim: impl.Shim{Me: w.shims[at].Me, Epoch: w.shims[at].Epoch + 1}})
	w.shims[at] = got.Shim
}

// forged is a right record that none of them wrote.
func (w *shimWalk) forged(most int64) impl.Rec {
	for {
		if r := someWritten(w.keys, most, w.from)[0]; rightSlowly(r) {
			return r
		}
	}
}

func (w *shimWalk) step(most int64, honest bool) {
	at := w.from.Intn(len(w.shims))
	kind := w.from.Intn(20)
	switch {
	case kind < 4:
		w.read(at)
	case kind < 8:
		w.write(at)
	case kind == 8 && !honest:
		w.restart(at)
	case kind == 9 && !honest:
		w.learn(at, w.forged(most))
	case len(w.log) == 0:
		w.write(at)
	case kind == 10:
		w.learnBroken(at, w.log[w.from.Intn(len(w.log))])
	default:
		w.learn(at, w.log[w.from.Intn(len(w.log))])
	}
}

func newShimWalk(t *testing.T, from *rand.Rand, keys []string) *shimWalk {
	w := &shimWalk{t: t, from: from, keys: keys, codes: map[string]int{}}
	for me := range int64(impl.MaxShims) {
		w.shims = append(w.shims, impl.ShimNew(me+1).Shim)
	}
	return w
}

// Promise 9, of whatever is read, written, learned, broken, forged and restarted.
func TestWhateverIsAsked(t *testing.T) {
	from := rand.New(rand.NewSource(24))
	codes := map[string]int{}
	for walk := range 60 {
		keys := sixKeys()
		if walk%3 == 0 {
			keys = append(keys, "zzz")
			slices.Sort(keys)
		}
		w := newShimWalk(t, from, keys)
		w.codes = codes
		for step := range int64(120) {
			w.step(3+step/2, false)
		}
	}
	same(t, "some were taken", codes["read"] > 500 && codes["write"] > 500 && codes["learn"] > 500, true)
	same(t, "some were too many", codes["write refused"] > 10 && codes["learn refused"] > 10, true)
	same(t, "some waited, and some came", codes["waited"] > 500 && codes["came"] > 200, true)
	same(t, "some were written over at once", codes["written over at once"] > 3, true)
}

// Where none is torn, forged or restarted, who learns all that was written sees of each key the greatest, and nothing waits; and so all shelves are alike.
func TestHonestShims(t *testing.T) {
	from := rand.New(rand.NewSource(25))
	for range 20 {
		w := newShimWalk(t, from, sixKeys())
		for range 60 {
			w.step(0, true)
		}
		var want []impl.Rec
		for _, r := range w.log {
			if isAbove(want, r) {
				want = inPlace(want, r)
			}
		}
		for at := range w.shims {
			for _, i := range from.Perm(len(w.log)) {
				w.learn(at, w.log[i])
			}
			sameCut(t, "all learned", w.shims[at].Cut, impl.Cut{Rows: want})
			sameList(t, "nothing is missing", impl.Missing(w.shims[at]), nil)
		}
	}
}

// What two write that have not learned of one another has unlike ids, and so has what one writes ahead of a restart, and behind it.
func TestNoTwoWritingsAreOfOneId(t *testing.T) {
	ids := map[impl.Id]bool{}
	for me := int64(1); me <= impl.MaxShims; me++ {
		s := impl.ShimNew(me).Shim
		for range 3 {
			for range 4 {
				got := impl.WriteAt(s, items("a", "b"))
				same(t, "one id of what is written together", got.Recs[0].Id, got.Recs[1].Id)
				same(t, "an id of its own", ids[got.Recs[0].Id], false)
				ids[got.Recs[0].Id] = true
				s = got.Shim
			}
			s = impl.Restart(s).Shim
		}
	}
	same(t, "how many ids", len(ids), impl.MaxShims*12)
}

// roomyShim is the plain shim, of which all lists have room behind them.
func roomyShim() impl.Shim {
	s := plainShim()
	s.Ctx = append(make([]impl.Dep, 0, 9), s.Ctx...)
	s.Cut = impl.Cut{Rows: roomy(s.Cut.Rows), Wait: roomy(s.Cut.Wait)}
	return s
}

// wholeShim is all that a shim has, up to where the room of the lists ends, as records.
func wholeShim(s impl.Shim) []impl.Rec {
	ctx := impl.Rec{Deps: slices.Clone(s.Ctx[:cap(s.Ctx)])}
	return slices.Concat(wholeRecs(s.Cut.Rows), wholeRecs(s.Cut.Wait), []impl.Rec{ctx})
}

// partsOf are the records and lists of what a call told.
func partsOf(got impl.ShimOut) []impl.Rec {
	lists := impl.Rec{Deps: got.Shim.Ctx, Bundle: got.Fresh}
	return slices.Concat(got.Shim.Cut.Rows, got.Shim.Cut.Wait, got.Recs, []impl.Rec{lists})
}

// What is handed in stays, and shares no memory with what is told.
func TestShimsAreNewMemory(t *testing.T) {
	keys := []string{"a", "b", "d", "a"}
	l := []impl.Item{item("a", "x1"), item("d", "y2"), goneItem("e")}
	key, bytes := "a", impl.RecBytes(written("a", id(9, 1, 0), depsOf(id(3, 1, 0), "b")))
	given := append(slices.Clone(keys), "x1", "y2", l[0].Key, l[1].Key, l[2].Key, key, bytes)
	for what, call := range map[string]func(s impl.Shim) impl.ShimOut{
		"read":                   func(s impl.Shim) impl.ShimOut { return impl.ReadAt(s, keys) },
		"write":                  func(s impl.Shim) impl.ShimOut { return impl.WriteAt(s, l) },
		"learn":                  func(s impl.Shim) impl.ShimOut { return impl.Learn(s, key, bytes) },
		"learn, and nothing new": func(s impl.Shim) impl.ShimOut { return learned(s, s.Cut.Rows[0]) },
		"missing":                func(s impl.Shim) impl.ShimOut { return impl.ShimOut{Shim: impl.Shim{Ctx: impl.Missing(s)}} },
	} {
		s := roomyShim()
		whole := wholeShim(s)
		got := call(s)
		same(t, what, got.Code, impl.OK)
		liesApart(t, what, textsOf(partsOf(got)...), append(textsOf(wholeShim(s)...), given...))
		same(t, what+": no two lists share", overwriteRecs(partsOf(got)), true)
		for _, recs := range [][]impl.Rec{got.Shim.Cut.Rows, got.Shim.Cut.Wait, got.Recs} {
			clear(recs[:cap(recs)])
		}
		sameRecs(t, what+": what is handed in stays", wholeShim(s), whole)
	}
	sameList(t, "keys stay", keys, []string{"a", "b", "d", "a"})
	sameList(t, "items stay", l, []impl.Item{item("a", "x1"), item("d", "y2"), goneItem("e")})
}

// Nothing is kept from one call to the next, however many are made at once.
func TestManyShimsAtOnce(t *testing.T) {
	s, a, l := plainShim(), written("a", id(4, 1, 0), nil), items("a", "c")
	read, wrote, found := readSlowly(s, "b", "d"), writeSlowly(t, s, l), learnSlowly(t, s, a)
	var all sync.WaitGroup
	for range 50 {
		all.Go(func() {
			sameShimOut(t, "read", impl.ReadAt(s, []string{"b", "d"}), read)
			sameShimOut(t, "write", impl.WriteAt(s, l), wrote)
			sameShimOut(t, "learn", learned(s, a), found)
		})
	}
	all.Wait()
}
