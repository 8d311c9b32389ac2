package tests

import (
	"math/rand"
	"slices"
	"strings"
	"sync"
	"testing"
	"unsafe"

	"loop.example/g00782/impl"
)

// written is a record of that key, whose bundle is that key and the others.
func written(key string, a impl.Id, deps []impl.Dep, others ...string) impl.Rec {
	bundle := append([]string{key}, others...)
	slices.Sort(bundle)
	return impl.Rec{Key: key, Id: a, Data: "x", Deps: deps, Bundle: bundle}
}

// together are the records that are written together at these keys.
func together(a impl.Id, deps []impl.Dep, keys ...string) []impl.Rec {
	var out []impl.Rec
	for _, key := range keys {
		others := slices.DeleteFunc(slices.Clone(keys), func(k string) bool { return k == key })
		out = append(out, written(key, a, deps, others...))
	}
	return out
}

// alone are records at these keys that need nothing.
func alone(a impl.Id, keys ...string) []impl.Rec {
	var out []impl.Rec
	for _, key := range keys {
		out = append(out, written(key, a, nil))
	}
	return out
}

func marksOfRecs(l []impl.Rec) []impl.Dep {
	var out []impl.Dep
	for _, r := range l {
		out = append(out, impl.Dep{Key: r.Key, Id: r.Id})
	}
	return out
}

// plainCut has rows at a, b and d; c waits, as it needs a later a, and so does a later b, as it needs c.
func plainCut() impl.Cut {
	rows := append(together(id(3, 1, 0), nil, "a", "b"), written("d", id(4, 2, 0), depsOf(id(3, 1, 0), "a")))
	return impl.Cut{Rows: rows, Wait: []impl.Rec{
		written("b", id(6, 1, 0), depsOf(id(5, 3, 0), "c")),
		written("c", id(5, 3, 0), depsOf(id(4, 1, 0), "a")),
	}}
}

// sixWait is a shelf of no rows, on which a record of each of six keys waits: all need a later f than the one that waits, and that one needs a.
func sixWait() impl.Cut {
	six := sixKeys()
	var c impl.Cut
	for _, key := range six[:5] {
		c.Wait = append(c.Wait, written(key, id(6, 1, 0), depsOf(id(5, 1, 0), six[5])))
	}
	c.Wait = append(c.Wait, written(six[5], id(3, 1, 0), depsOf(id(2, 1, 0), six[0])))
	return c
}

// rightCuts stand at the limits that chapter 8 names, and between.
func rightCuts() map[string]impl.Cut {
	six := sixKeys()
	last := id(impl.MaxTime, impl.MaxShims, impl.MaxEpoch)
	ahead := id(impl.MaxTime-1, impl.MaxShims, impl.MaxEpoch)
	return map[string]impl.Cut{
		"none":               {},
		"empty lists":        {Rows: []impl.Rec{}, Wait: []impl.Rec{}},
		"plain":              plainCut(),
		"six rows":           {Rows: alone(last, six...)},
		"six wait":           sixWait(),
		"four written":       {Rows: together(last, nil, six[:4]...)},
		"three of four wait": {Wait: together(last, nil, six[:4]...)[1:]},
		"its own key is a dep": {Rows: []impl.Rec{
			written("a", last, depsOf(ahead, "a")),
		}},
		"half of it was written over": {Rows: []impl.Rec{
			written("a", id(3, 1, 0), nil, "b"), written("b", id(3, 1, 1), nil),
		}},
		"one waits alone": {Wait: []impl.Rec{written("b", id(3, 1, 0), nil, "a")}},
		"six rows, and six above them wait": {
			Rows: alone(id(1, 1, 0), six...),
			Wait: sixWait().Wait,
		},
		"its needs are two more keys": {
			Rows: alone(id(1, 1, 0), six[:3]...),
			Wait: []impl.Rec{written(six[3], last, depsOf(ahead, six[4]), six[5])},
		},
		"the epoch is just above": {
			Rows: alone(id(3, 1, 0), "a"),
			Wait: []impl.Rec{written("a", id(3, 1, 1), nil, "b")},
		},
		"what is needed has an epoch just below": {
			Rows: alone(id(3, 1, 0), "a"),
			Wait: []impl.Rec{written("b", id(4, 1, 0), depsOf(id(3, 1, 1), "a"))},
		},
		"what is needed waits, as it needs more": {
			Rows: alone(id(3, 1, 0), "a"),
			Wait: append(together(id(4, 1, 0), nil, "b", "c")[:1], written("d", id(5, 1, 0), depsOf(id(4, 1, 0), "b"))),
		},
		"one bundle needs another one, which is not whole": {
			Wait: append(together(id(4, 1, 0), nil, "a", "b")[:1], together(id(5, 1, 0), depsOf(id(4, 1, 0), "a"), "c", "d")...),
		},
	}
}

// notClosed are lists of records of each kind that is not closed.
func notClosed() map[string][]impl.Rec {
	two := together(id(3, 1, 0), nil, "a", "b")
	out := map[string][]impl.Rec{
		"half of what was written":  two[:1],
		"the other half":            two[1:],
		"the other half is less":    {two[0], written("b", id(2, 3, 99), nil)},
		"its dep is not there":      {written("a", id(3, 1, 0), depsOf(id(2, 1, 0), "b"))},
		"its dep has a lesser id":   {written("a", id(3, 1, 0), depsOf(id(2, 1, 1), "b")), written("b", id(2, 1, 0), nil)},
		"its last dep is not there": append(alone(id(2, 1, 0), "a"), written("b", id(3, 1, 0), depsOf(id(2, 1, 0), "a", "c"))),
		"the last one's dep":        append(alone(id(2, 1, 0), "a", "b"), written("c", id(3, 1, 0), depsOf(id(2, 2, 0), "b"))),
		"falling":                   alone(id(1, 1, 0), "b", "a"),
		"falling at last":           alone(id(1, 1, 0), "a", "c", "b"),
		"alike":                     alone(id(1, 1, 0), "a", "a"),
		"alike, other ids":          append(alone(id(1, 1, 0), "a"), written("a", id(2, 1, 0), nil)),
		"seven":                     alone(id(1, 1, 0), "a", "b", "c", "d", "e", "f", "g"),
		"as many as may be":         make([]impl.Rec, impl.MaxList),
		"too long":                  make([]impl.Rec, impl.MaxList+1),
		"too long, right at first":  append(alone(id(1, 1, 0), "a"), make([]impl.Rec, impl.MaxList)...),
	}
	for what, r := range wrongRecs() {
		out["alone, "+what] = []impl.Rec{r}
		out["at last, "+what] = append(alone(id(1, 1, 0), "a"), r)
		out["at first, "+what] = append([]impl.Rec{r}, alone(id(1, 1, 0), "z")...)
	}
	return out
}

// wrongCuts are shelves of each kind that is not right.
func wrongCuts() map[string]impl.Cut {
	six := sixKeys()
	low, high := id(3, 1, 0), id(4, 1, 0)
	two := together(high, nil, "a", "b")
	waits := written("b", high, depsOf(low, "c"))
	ring := []impl.Rec{written("a", high, nil, "b"), written("b", high, nil, "c"), written("c", high, nil, "a")}
	out := map[string]impl.Cut{
		"needs nothing":                    {Wait: alone(low, "a")},
		"needs nothing, above its row":     {Rows: alone(low, "a"), Wait: alone(high, "a")},
		"needs a row":                      {Rows: alone(low, "c"), Wait: []impl.Rec{waits}},
		"needs less than a row":            {Rows: alone(high, "c"), Wait: []impl.Rec{waits}},
		"needs its own key":                {Wait: []impl.Rec{written("a", high, depsOf(low, "a"))}},
		"whole":                            {Wait: two},
		"whole, behind one that waits":     {Wait: append(slices.Clone(two), written("c", high, depsOf(low, "d")))},
		"whole, and one that needs it":     {Wait: append(slices.Clone(two), written("c", id(5, 1, 0), depsOf(high, "b")))},
		"one may be seen, and others wait": {Rows: alone(low, "a"), Wait: append([]impl.Rec{written("a", high, nil)}, waits)},
		"all round":                        {Wait: ring},
		"all round, from a row":            {Rows: alone(low, "d"), Wait: []impl.Rec{ring[0], ring[1], written("c", high, depsOf(low, "d"), "a")}},
		"its row has its id":               {Rows: alone(low, "a"), Wait: []impl.Rec{written("a", low, nil, "b")}},
		"its row is above":                 {Rows: alone(high, "a"), Wait: []impl.Rec{written("a", low, nil, "b")}},
		"its row is above by the epoch":    {Rows: alone(id(3, 1, 1), "a"), Wait: []impl.Rec{written("a", low, nil, "b")}},
		"the last one's row is above":      {Rows: alone(high, "c", "d"), Wait: []impl.Rec{written("b", low, nil, "a"), written("d", low, nil, "a")}},
		"those that wait fall":             {Wait: []impl.Rec{written("b", high, nil, "c"), written("a", high, nil, "c")}},
		"those that wait are alike":        {Wait: []impl.Rec{written("a", high, nil, "b"), written("a", id(5, 1, 0), nil, "b")}},
		"seven keys, one waits":            {Rows: alone(low, six...), Wait: []impl.Rec{written("c", high, depsOf(id(3, 2, 0), "a"))}},
		"seven keys, by a dep":             {Rows: alone(low, six[:5]...), Wait: []impl.Rec{written("c", high, depsOf(low, "d"))}},
		"seven keys, by a bundle":          {Rows: alone(low, six[:5]...), Wait: []impl.Rec{written("c", high, nil, "d")}},
		"seven keys, by a row's later one": {Rows: alone(low, six...), Wait: []impl.Rec{written("a", high, nil, "c")}},
		"seven keys, two that wait":        {Rows: alone(low, six[:3]...), Wait: []impl.Rec{written("c", high, nil, "d"), written("e", high, nil, "f")}},
		"six wait, and need one more":      {Wait: append(sixWait().Wait[:5], written(six[5], low, nil, "a", "c"))},
		"seven wait":                       {Wait: append(sixWait().Wait, written("zzzzz", high, nil, "a"))},
	}
	for what, l := range notClosed() {
		out["rows: "+what] = impl.Cut{Rows: l}
		out["rows: "+what+", and one waits"] = impl.Cut{Rows: l, Wait: []impl.Rec{written("a", id(9, 1, 0), nil, "q")}}
	}
	for what, r := range wrongRecs() {
		out["waits alone, "+what] = impl.Cut{Wait: []impl.Rec{r}}
		out["waits at last, "+what] = impl.Cut{Wait: []impl.Rec{written("a", high, nil, "q"), r}}
	}
	out["far too many wait"] = impl.Cut{Wait: make([]impl.Rec, impl.MaxList+1)}
	return out
}

// keysSlowly are how many keys these records, and all that they need, have together.
func keysSlowly(l ...impl.Rec) int {
	keys := map[string]bool{}
	for _, r := range l {
		keys[r.Key] = true
		for _, d := range needsSlowly(r) {
			keys[d.Key] = true
		}
	}
	return len(keys)
}

// closedSlowly says what Closed is to tell.
func closedSlowly(l []impl.Rec) bool {
	for i, r := range l {
		if !rightSlowly(r) || i > 0 && l[i-1].Key >= r.Key || !coveredSlowly(marksOfRecs(l), needsSlowly(r)) {
			return false
		}
	}
	return len(l) <= impl.MaxKeys
}

// greatestSlowly goes through all parts of what waits, and tells what stands in one that may come: all of that may come together.
func greatestSlowly(t *testing.T, rows []impl.Rec, wait []impl.Rec) []impl.Rec {
	t.Helper()
	most := 0
	for part := range 1 << len(wait) {
		if mayComeSlowly(rows, partOf(wait, part)) {
			most |= part
		}
	}
	same(t, "all parts that may come may come together", mayComeSlowly(rows, partOf(wait, most)), true)
	return partOf(wait, most)
}

func partOf(l []impl.Rec, part int) []impl.Rec {
	var out []impl.Rec
	for i, r := range l {
		if part>>i&1 == 1 {
			out = append(out, r)
		}
	}
	return out
}

func mayComeSlowly(rows []impl.Rec, part []impl.Rec) bool {
	seen := marksOfRecs(slices.Concat(rows, part))
	return !slices.ContainsFunc(part, func(r impl.Rec) bool { return !coveredSlowly(seen, needsSlowly(r)) })
}

// isAbove asks whether the id of r is above that of the one of its key.
func isAbove(l []impl.Rec, r impl.Rec) bool {
	return !coveredSlowly(marksOfRecs(l), []impl.Dep{{Key: r.Key, Id: r.Id}})
}

// cutRightSlowly says what CutRight is to tell.
func cutRightSlowly(t *testing.T, c impl.Cut) bool {
	t.Helper()
	if !closedSlowly(c.Rows) || len(c.Wait) > impl.MaxKeys {
		return false
	}
	for i, r := range c.Wait {
		if !rightSlowly(r) || i > 0 && c.Wait[i-1].Key >= r.Key || !isAbove(c.Rows, r) {
			return false
		}
	}
	return keysSlowly(slices.Concat(c.Rows, c.Wait)...) <= impl.MaxKeys && len(greatestSlowly(t, c.Rows, c.Wait)) == 0
}

// inPlace lays a record in place of the one of its key.
func inPlace(l []impl.Rec, r impl.Rec) []impl.Rec {
	out := slices.DeleteFunc(slices.Clone(l), func(o impl.Rec) bool { return o.Key == r.Key })
	out = append(out, r)
	slices.SortFunc(out, func(x impl.Rec, y impl.Rec) int { return strings.Compare(x.Key, y.Key) })
	return out
}

// offerSlowly says what Offer is to tell of a right shelf, and a right record.
func offerSlowly(t *testing.T, c impl.Cut, r impl.Rec) impl.CutOut {
	t.Helper()
	if keysSlowly(slices.Concat(c.Rows, c.Wait, []impl.Rec{r})...) > impl.MaxKeys {
		return impl.CutOut{Code: impl.ErrFull}
	}
	wait := c.Wait
	if isAbove(c.Rows, r) && isAbove(wait, r) {
		wait = inPlace(wait, r)
	}
	return comeSlowly(t, c.Rows, wait)
}

// comeSlowly lays on the shelf what waits, and may be seen.
func comeSlowly(t *testing.T, rows []impl.Rec, wait []impl.Rec) impl.CutOut {
	t.Helper()
	var fresh []string
	for _, r := range greatestSlowly(t, rows, wait) {
		rows = inPlace(rows, r)
		fresh = append(fresh, r.Key)
	}
	rest := slices.DeleteFunc(slices.Clone(wait), func(r impl.Rec) bool { return slices.Contains(fresh, r.Key) })
	return impl.CutOut{Cut: impl.Cut{Rows: rows, Wait: rest}, Fresh: fresh}
}

func sameRecs(t *testing.T, what string, got []impl.Rec, want []impl.Rec) {
	t.Helper()
	same(t, what+": how many", len(got), len(want))
	for i := range min(len(got), len(want)) {
		sameRec(t, what+" "+number(int64(i)), got[i], want[i])
	}
}

// sameCut takes an empty list and none for the same.
func sameCut(t *testing.T, what string, got impl.Cut, want impl.Cut) {
	t.Helper()
	sameRecs(t, what+": rows", got.Rows, want.Rows)
	sameRecs(t, what+": wait", got.Wait, want.Wait)
}

func sameCutOut(t *testing.T, what string, got impl.CutOut, want impl.CutOut) {
	t.Helper()
	same(t, what+": code", got.Code, want.Code)
	sameList(t, what+": fresh", got.Fresh, want.Fresh)
	sameCut(t, what, got.Cut, want.Cut)
}

// shelved is that a call told this shelf, OK, and that these keys came.
func shelved(t *testing.T, what string, got impl.CutOut, want impl.Cut, fresh ...string) {
	t.Helper()
	sameCutOut(t, what, got, impl.CutOut{Cut: want, Fresh: fresh})
}

// notShelved is that a call told that code, and nothing else.
func notShelved(t *testing.T, what string, got impl.CutOut, code int64) {
	t.Helper()
	sameCutOut(t, what, got, impl.CutOut{Code: code})
}

// allOffered offers one after the other, each of which is to be taken.
func allOffered(t *testing.T, c impl.Cut, l ...impl.Rec) impl.Cut {
	t.Helper()
	for _, r := range l {
		got := impl.Offer(c, r)
		same(t, "offer "+r.Key, got.Code, impl.OK)
		c = got.Cut
	}
	return c
}

func TestClosed(t *testing.T) {
	for what, c := range rightCuts() {
		same(t, what, impl.Closed(c.Rows), true)
		same(t, what+", what waits", impl.Closed(c.Wait), len(c.Wait) == 0)
	}
	for what, l := range notClosed() {
		same(t, what, impl.Closed(l), false)
	}
	ring := []impl.Rec{written("a", id(4, 1, 0), nil, "b"), written("b", id(4, 1, 0), nil, "c"), written("c", id(4, 1, 0), nil, "a")}
	same(t, "each needs another one", impl.Closed(ring), true)
	same(t, "and one of them is less", impl.Closed(inPlace(ring, written("b", id(3, 1, 0), nil))), false)
	same(t, "and one of them is more", impl.Closed(inPlace(ring, written("b", id(5, 1, 0), nil))), true)
}

func TestCutRight(t *testing.T) {
	for what, c := range rightCuts() {
		same(t, what, impl.CutRight(c), true)
		same(t, what+", slowly", cutRightSlowly(t, c), true)
	}
	for what, c := range wrongCuts() {
		same(t, what, impl.CutRight(c), false)
	}
}

// What is not right is refused by all that takes a shelf, however right all else is.
func TestCutsThatAreNotRight(t *testing.T) {
	r := written("a", id(9, 1, 0), nil)
	for what, c := range wrongCuts() {
		for _, key := range []string{"a", "b", "c", ""} {
			sameRec(t, what, impl.RowOf(c, key), impl.Rec{})
		}
		sameList(t, what, impl.SeenOf(c), nil)
		sameList(t, what, impl.Lacks(c, plainRec()), nil)
		notShelved(t, what, impl.Offer(c, r), impl.ErrForm)
		notShelved(t, what+", and so the record", impl.Offer(c, impl.Rec{}), impl.ErrForm)
	}
}

func TestRowOf(t *testing.T) {
	for what, c := range rightCuts() {
		for _, r := range c.Rows {
			sameRec(t, what+": at "+r.Key, impl.RowOf(c, r.Key), r)
		}
	}
	// At c something waits, but there is no row.
	for _, key := range []string{"", "c", "e", "aa", "A", "abcde", strings.Repeat("a", impl.MaxBytes), strings.Repeat("a", impl.MaxBytes+1)} {
		sameRec(t, "no row at "+key, impl.RowOf(plainCut(), key), impl.Rec{})
	}
	sameRec(t, "of none", impl.RowOf(impl.Cut{}, "a"), impl.Rec{})
}

func TestSeenOf(t *testing.T) {
	sameList(t, "plain", impl.SeenOf(plainCut()), []impl.Dep{dep("a", 3, 1, 0), dep("b", 3, 1, 0), dep("d", 4, 2, 0)})
	sameList(t, "none", impl.SeenOf(impl.Cut{}), nil)
	sameList(t, "what waits is not seen", impl.SeenOf(sixWait()), nil)
	for what, c := range rightCuts() {
		sameList(t, what, impl.SeenOf(c), marksOfRecs(c.Rows))
	}
}

func TestLacks(t *testing.T) {
	c := plainCut()
	for what, asked := range map[string]struct {
		r    impl.Rec
		want []impl.Dep
	}{
		"nothing":                           {written("e", id(9, 1, 0), nil), nil},
		"a row's own id":                    {written("e", id(9, 1, 0), depsOf(id(3, 1, 0), "a", "b")), nil},
		"less than a row's":                 {written("e", id(9, 1, 0), depsOf(id(2, 3, 9), "a")), nil},
		"an epoch more":                     {written("e", id(9, 1, 0), depsOf(id(3, 1, 1), "a")), depsOf(id(3, 1, 1), "a")},
		"two of three":                      {written("e", id(9, 1, 0), depsOf(id(4, 1, 0), "a", "c", "d")), depsOf(id(4, 1, 0), "a", "c")},
		"what waits covers nothing":         {written("e", id(9, 1, 0), depsOf(id(5, 3, 0), "c")), depsOf(id(5, 3, 0), "c")},
		"the others of its bundle":          {written("b", id(9, 1, 0), nil, "a", "d"), depsOf(id(9, 1, 0), "a", "d")},
		"its bundle is on the shelf":        {written("b", id(2, 1, 0), nil, "a", "d"), nil},
		"its own key, which is no row":      {written("e", id(9, 1, 0), depsOf(id(8, 1, 0), "e")), depsOf(id(8, 1, 0), "e")},
		"its own key, of which a row is":    {written("a", id(9, 1, 0), depsOf(id(8, 1, 0), "a")), depsOf(id(8, 1, 0), "a")},
		"six keys, of which three are rows": {written("z", id(9, 1, 0), depsOf(id(3, 1, 0), "a", "b", "d", "e", "f")), depsOf(id(3, 1, 0), "e", "f")},
	} {
		sameList(t, what, impl.Lacks(c, asked.r), asked.want)
		sameList(t, "of none: "+what, impl.Lacks(impl.Cut{}, asked.r), needsSlowly(asked.r))
	}
	for _, r := range c.Wait {
		sameList(t, "what waits", impl.Lacks(c, r), r.Deps)
	}
	for _, r := range c.Rows {
		sameList(t, "a row", impl.Lacks(c, r), nil)
	}
	for what, r := range wrongRecs() {
		sameList(t, what, impl.Lacks(impl.Cut{}, r), nil)
		sameList(t, what, impl.Lacks(c, r), nil)
	}
}

// What is on a shelf, and may not be seen till its last part is found.
func TestOfferOfWhatWasWrittenTogether(t *testing.T) {
	deps := depsOf(id(2, 2, 0), "c")
	two := together(id(3, 1, 0), deps, "a", "b")
	c := written("c", id(4, 3, 0), nil)
	first := impl.Offer(impl.Cut{}, two[0])
	shelved(t, "a", first, impl.Cut{Wait: two[:1]})
	second := impl.Offer(first.Cut, two[1])
	shelved(t, "b", second, impl.Cut{Wait: two})
	third := impl.Offer(second.Cut, c)
	shelved(t, "c", third, impl.Cut{Rows: append(two, c)}, "a", "b", "c")
	shelved(t, "c ahead", impl.Offer(impl.Cut{}, c), impl.Cut{Rows: []impl.Rec{c}}, "c")
	for _, r := range third.Cut.Rows {
		shelved(t, "again "+r.Key, impl.Offer(third.Cut, r), third.Cut)
	}
	four := together(id(3, 1, 0), nil, "a", "b", "c", "d")
	for last, r := range four {
		others := slices.Delete(slices.Clone(four), last, last+1)
		waiting := allOffered(t, impl.Cut{}, others...)
		sameCut(t, "three of four wait", waiting, impl.Cut{Wait: others})
		shelved(t, "the last of four", impl.Offer(waiting, r), impl.Cut{Rows: four}, "a", "b", "c", "d")
	}
}

// None of these could come ahead of the others, and none needs just the next one.
func TestOfferOfWhatNeedsOneAnother(t *testing.T) {
	low := together(id(3, 1, 0), nil, "a", "b")
	high := together(id(4, 1, 0), depsOf(id(3, 1, 0), "a"), "c", "d")
	c := allOffered(t, impl.Cut{}, high[1], high[0], low[1])
	sameCut(t, "three wait", c, impl.Cut{Wait: []impl.Rec{low[1], high[0], high[1]}})
	shelved(t, "two bundles", impl.Offer(c, low[0]), impl.Cut{Rows: slices.Concat(low, high)}, "a", "b", "c", "d")
	ring := []impl.Rec{written("a", id(4, 1, 0), nil, "b"), written("b", id(4, 1, 0), nil, "c"), written("c", id(4, 1, 0), nil, "a")}
	for last, r := range ring {
		others := slices.Delete(slices.Clone(ring), last, last+1)
		shelved(t, "all round", impl.Offer(impl.Cut{Wait: others}, r), impl.Cut{Rows: ring}, "a", "b", "c")
	}
	over := written("b", id(5, 2, 0), nil)
	shelved(t, "half of it was written over", impl.Offer(impl.Cut{Wait: low[:1]}, over), impl.Cut{Rows: []impl.Rec{low[0], over}}, "a", "b")
	less := written("b", id(2, 3, 99), nil)
	shelved(t, "half of it is there from earlier on", impl.Offer(impl.Cut{Wait: low[:1]}, less), impl.Cut{Rows: []impl.Rec{less}, Wait: low[:1]}, "b")
}

// What stays waits on, and what comes leaves the rows that it does not turn.
func TestOfferOfAPart(t *testing.T) {
	c := plainCut()
	a := written("a", id(4, 1, 0), nil)
	shelved(t, "a, for which two waited", impl.Offer(c, a), impl.Cut{Rows: []impl.Rec{a, c.Wait[0], c.Wait[1], c.Rows[2]}}, "a", "b", "c")
	less := written("a", id(3, 2, 0), nil)
	shelved(t, "a, but not late enough", impl.Offer(c, less), impl.Cut{Rows: []impl.Rec{less, c.Rows[1], c.Rows[2]}, Wait: c.Wait}, "a")
	over := written("c", id(5, 3, 1), nil)
	shelved(t, "c, in place of what waits", impl.Offer(c, over), impl.Cut{Rows: []impl.Rec{c.Rows[0], c.Wait[0], over, c.Rows[2]}}, "b", "c")
	waits := written("b", id(7, 1, 0), depsOf(id(6, 1, 0), "d"))
	shelved(t, "b, which waits in place of another one", impl.Offer(c, waits), impl.Cut{Rows: c.Rows, Wait: []impl.Rec{waits, c.Wait[1]}})
	comes := written("b", id(7, 1, 0), nil)
	shelved(t, "b, which comes in place of what waits", impl.Offer(c, comes), impl.Cut{Rows: []impl.Rec{c.Rows[0], comes, c.Rows[2]}, Wait: c.Wait[1:]}, "b")
	own := written("e", id(9, 1, 0), depsOf(id(8, 1, 0), "e"))
	shelved(t, "its own key is no lack", impl.Offer(c, own), impl.Cut{Rows: append(slices.Clone(c.Rows), own), Wait: c.Wait}, "e")
}

func TestOfferOfWhatIsNotAbove(t *testing.T) {
	c := plainCut()
	for what, r := range map[string]impl.Rec{
		"a row":                      c.Rows[0],
		"unlike a row, but its id":   written("a", id(3, 1, 0), nil),
		"less than a row":            written("a", id(2, 3, 99), nil),
		"a row's of another bundle":  written("a", id(3, 1, 0), nil, "e"),
		"a row's of another dep":     written("a", id(3, 1, 0), depsOf(id(2, 1, 0), "e")),
		"what waits":                 c.Wait[0],
		"unlike, but its id":         written("b", id(6, 1, 0), nil),
		"less than what waits":       written("b", id(5, 3, 99), nil),
		"less than what waits alone": written("c", id(5, 2, 99), nil),
	} {
		shelved(t, what, impl.Offer(c, r), c)
	}
}

func TestOfferOfWrongRecs(t *testing.T) {
	for what, r := range wrongRecs() {
		notShelved(t, what+", to none", impl.Offer(impl.Cut{}, r), impl.ErrForm)
		notShelved(t, what, impl.Offer(plainCut(), r), impl.ErrForm)
		notShelved(t, what+", to six that wait", impl.Offer(sixWait(), r), impl.ErrForm)
	}
	for what, r := range rightRecs() {
		sameCutOut(t, what, impl.Offer(impl.Cut{}, r), offerSlowly(t, impl.Cut{}, r))
	}
}

// All keys count, also where what is offered is not above, and those that only what it is laid in place of needs.
func TestOfferIsFull(t *testing.T) {
	six := sixKeys()
	for what, c := range map[string]impl.Cut{
		"six rows": {Rows: alone(id(3, 1, 0), six...)},
		"six wait": sixWait(),
		"needs":    {Rows: alone(id(3, 1, 0), six[:2]...), Wait: []impl.Rec{written(six[2], id(4, 1, 0), depsOf(id(3, 1, 0), six[3], six[4]), six[5])}},
	} {
		same(t, what, impl.CutRight(c), true)
		for _, key := range []string{"aa", "c", "zzz"} {
			notShelved(t, what+": a seventh key", impl.Offer(c, written(key, id(9, 1, 0), nil)), impl.ErrFull)
			notShelved(t, what+": a dep of it", impl.Offer(c, written(six[0], id(9, 1, 0), depsOf(id(8, 1, 0), key))), impl.ErrFull)
			notShelved(t, what+": a bundle with it", impl.Offer(c, written(six[0], id(9, 1, 0), nil, key)), impl.ErrFull)
			notShelved(t, what+": not above, a dep of it", impl.Offer(c, written(six[0], id(2, 1, 0), depsOf(id(1, 1, 0), key))), impl.ErrFull)
			notShelved(t, what+": not above, a bundle with it", impl.Offer(c, written(six[0], id(2, 1, 0), nil, key)), impl.ErrFull)
			notShelved(t, what+": in place of what waits", impl.Offer(c, written(six[2], id(9, 1, 0), nil, key)), impl.ErrFull)
		}
		for _, key := range six {
			r := written(key, id(9, 1, 0), nil)
			sameCutOut(t, what+": one of the six", impl.Offer(c, r), offerSlowly(t, c, r))
			same(t, what+": one of the six is taken", impl.Offer(c, r).Code, impl.OK)
		}
	}
	five := impl.Cut{Rows: alone(id(3, 1, 0), six[:5]...)}
	sixth := written(six[5], id(4, 1, 0), depsOf(id(3, 1, 0), six[:5]...))
	shelved(t, "the sixth key", impl.Offer(five, sixth), impl.Cut{Rows: append(slices.Clone(five.Rows), sixth)}, six[5])
	waits := written(six[0], id(4, 1, 0), nil, six[5])
	shelved(t, "the sixth key is only needed", impl.Offer(five, waits), impl.Cut{Rows: five.Rows, Wait: []impl.Rec{waits}})
}

// offeredRight is promise 8 of a right shelf, and a right record.
func offeredRight(t *testing.T, c impl.Cut, r impl.Rec) impl.CutOut {
	t.Helper()
	got := impl.Offer(c, r)
	sameCutOut(t, "offer "+r.Key, got, offerSlowly(t, c, r))
	if got.Code != impl.OK {
		return got
	}
	same(t, "a right shelf stays right", impl.CutRight(got.Cut) && cutRightSlowly(t, got.Cut), true)
	same(t, "and its rows closed", impl.Closed(got.Cut.Rows) && closedSlowly(got.Cut.Rows), true)
	same(t, "nothing on it goes back", coveredSlowly(impl.SeenOf(got.Cut), impl.SeenOf(c)), true)
	all := marksOfRecs(slices.Concat(got.Cut.Rows, got.Cut.Wait))
	same(t, "nor what waits", coveredSlowly(all, marksOfRecs(c.Wait)), true)
	same(t, "what is offered is on it, or more", isAbove(slices.Concat(got.Cut.Rows, got.Cut.Wait), r), false)
	for _, l := range [][]impl.Rec{{r}, got.Cut.Rows, got.Cut.Wait} {
		for _, again := range l {
			shelved(t, "offered again nothing is new", impl.Offer(got.Cut, again), got.Cut)
		}
	}
	for _, r := range got.Cut.Rows {
		same(t, "what came is fresh", slices.Contains(got.Fresh, r.Key), isAbove(c.Rows, r))
	}
	for _, r := range got.Cut.Wait {
		lacks := impl.Lacks(got.Cut, r)
		same(t, "lacks are needs that no row covers", coveredSlowly(needsSlowly(r), lacks), true)
		same(t, "and the rows cover the others", coveredSlowly(joinedSlowly(impl.SeenOf(got.Cut), lacks), needsSlowly(r)), true)
	}
	return got
}

// someWritten are the records of one writing, of a clock up to most, of which not all need ever be found.
func someWritten(keys []string, most int64, from *rand.Rand) []impl.Rec {
	at := from.Perm(len(keys))[:1+from.Intn(3)]
	slices.Sort(at)
	var bundle []string
	for _, i := range at {
		bundle = append(bundle, keys[i])
	}
	a := id(1+from.Int63n(most), 1+from.Int63n(2), from.Int63n(2))
	var deps []impl.Dep
	for _, key := range keys {
		if a.Clock > 1 && from.Intn(6) == 0 {
			deps = append(deps, dep(key, 1+from.Int63n(a.Clock-1), 1+from.Int63n(2), 0))
		}
	}
	return together(a, deps, bundle...)
}

// Promise 8, of whatever is offered.
func TestWhateverIsOffered(t *testing.T) {
	from := rand.New(rand.NewSource(21))
	codes := map[int64]int{}
	waited, came, many := 0, 0, 0
	for walk := range 30 {
		keys := sixKeys()
		if walk%3 == 0 {
			keys = append(keys, "zzz")
		}
		var c impl.Cut
		for step := range int64(50) {
			l := someWritten(keys, 3+step, from)
			for _, i := range from.Perm(len(l))[:1+from.Intn(len(l))] {
				if !rightSlowly(l[i]) {
					continue
				}
				got := offeredRight(t, c, l[i])
				codes[got.Code]++
				waited += len(got.Cut.Wait)
				came += len(got.Fresh)
				if len(got.Fresh) > 1 {
					many++
				}
				if got.Code == impl.OK {
					c = got.Cut
				}
			}
		}
	}
	same(t, "some were taken, and some were too many", codes[impl.OK] > 600 && codes[impl.ErrFull] > 60, true)
	same(t, "some waited, some came, and some together", waited > 600 && came > 200 && many > 30, true)
}

// someCut is often a right shelf, and else wrong in few places.
func someCut(from *rand.Rand) impl.Cut {
	keys := sixKeys()
	var c impl.Cut
	for range from.Intn(9) {
		for _, r := range someWritten(keys, 7, from) {
			if got := impl.Offer(c, r); got.Code == impl.OK {
				c = got.Cut
			}
		}
	}
	l := someWritten(append(keys, "zzz"), 7, from)
	switch from.Intn(4) {
	case 0:
		c.Rows = inPlace(c.Rows, l[0])
	case 1:
		c.Wait = inPlace(c.Wait, l[0])
	case 2:
		if len(c.Rows) > 0 {
			i := from.Intn(len(c.Rows))
			c.Rows = slices.Delete(slices.Clone(c.Rows), i, i+1)
		}
	}
	return c
}

// What is right is told right, and else everything is refused.
func TestManyCuts(t *testing.T) {
	from := rand.New(rand.NewSource(22))
	right := 0
	for range 2000 {
		c := someCut(from)
		r := someWritten(sixKeys(), 7, from)[0]
		same(t, "closed", impl.Closed(c.Rows), closedSlowly(c.Rows))
		same(t, "right", impl.CutRight(c), cutRightSlowly(t, c))
		if impl.CutRight(c) {
			right++
			offeredRight(t, c, r)
			continue
		}
		notShelved(t, "not right", impl.Offer(c, r), impl.ErrForm)
		sameList(t, "not right", impl.SeenOf(c), nil)
		sameList(t, "not right", impl.Lacks(c, r), nil)
	}
	same(t, "some were right, and some were not", right > 300 && right < 1700, true)
}

// history are records of which each needs only what was written ahead of it.
func history() []impl.Rec {
	return slices.Concat(
		together(id(1, 1, 0), nil, "a", "b"),
		together(id(2, 2, 0), depsOf(id(1, 1, 0), "a"), "c"),
		together(id(3, 1, 0), []impl.Dep{dep("a", 1, 1, 0), dep("c", 2, 2, 0)}, "a", "d"),
		together(id(4, 3, 1), depsOf(id(3, 1, 0), "d"), "b"),
	)
}

// Promise 8, in all orders: whatever was found first, all that was written comes, and nothing waits.
func TestAllOrdersOfAHistory(t *testing.T) {
	l := history()
	want := impl.Cut{}
	for _, r := range l {
		want.Rows = inPlace(want.Rows, r)
	}
	orders := 0
	var offerRest func(c impl.Cut, rest []impl.Rec)
	offerRest = func(c impl.Cut, rest []impl.Rec) {
		if len(rest) == 0 {
			orders++
			sameCut(t, "all found", c, want)
		}
		for i, r := range rest {
			offerRest(offeredRight(t, c, r).Cut, slices.Delete(slices.Clone(rest), i, i+1))
		}
	}
	offerRest(impl.Cut{}, l)
	same(t, "how many orders", orders, 720)
}

// honest are the records of those who write only behind what they saw, all of which is found.
func honest(from *rand.Rand) []impl.Rec {
	var seen [impl.MaxShims][]impl.Dep
	var out []impl.Rec
	keys := sixKeys()
	for step := range 12 {
		me := from.Intn(impl.MaxShims)
		seen[me] = joinedSlowly(seen[me], seen[from.Intn(impl.MaxShims)])
		first := from.Intn(len(keys))
		many := 1 + from.Intn(min(len(keys)-first, impl.MaxBundle))
		l := together(id(int64(step)+1, int64(me)+1, 0), seen[me], keys[first:first+many]...)
		seen[me] = joinedSlowly(seen[me], marksOfRecs(l))
		out = append(out, l...)
	}
	return out
}

// Promise 8: late, doubled and from earlier on, in the end each key has the greatest that was written.
func TestHonestWritersInAnyOrder(t *testing.T) {
	from := rand.New(rand.NewSource(23))
	for range 20 {
		l := honest(from)
		var want []impl.Rec
		for _, r := range l {
			want = inPlace(want, r)
		}
		var c impl.Cut
		for _, i := range append(from.Perm(len(l)), from.Perm(len(l))[:len(l)/2]...) {
			c = offeredRight(t, c, l[i]).Cut
		}
		sameCut(t, "all found", c, impl.Cut{Rows: want})
	}
}

// textsOf are all texts of records, but empty ones.
func textsOf(l ...impl.Rec) []string {
	var out []string
	for _, r := range l {
		out = append(out, r.Key, r.Data)
		out = append(out, r.Bundle...)
		for _, d := range r.Deps {
			out = append(out, d.Key)
		}
	}
	return slices.DeleteFunc(out, func(text string) bool { return text == "" })
}

// liesApart is that no text lies where another one of them does, or one of the others.
func liesApart(t *testing.T, what string, texts []string, others []string) {
	t.Helper()
	lies := map[*byte]bool{}
	for _, text := range others {
		lies[unsafe.StringData(text)] = true
	}
	for _, text := range texts {
		same(t, what+": "+text+" lies apart", lies[unsafe.StringData(text)], false)
		lies[unsafe.StringData(text)] = true
	}
}

// roomy is a list of records, and of lists, that have room behind them.
func roomy(l []impl.Rec) []impl.Rec {
	out := append(make([]impl.Rec, 0, 9), l...)
	for i, r := range out {
		out[i].Deps = append(make([]impl.Dep, 0, 9), r.Deps...)
		out[i].Bundle = append(make([]string, 0, 9), r.Bundle...)
	}
	return out
}

// wholeRecs are records up to where the room of the lists ends.
func wholeRecs(l []impl.Rec) []impl.Rec {
	out := slices.Clone(l[:cap(l)])
	for i, r := range out {
		out[i].Deps = slices.Clone(r.Deps[:cap(r.Deps)])
		out[i].Bundle = slices.Clone(r.Bundle[:cap(r.Bundle)])
	}
	return out
}

// overwriteRecs writes all over the lists of records, each with a text of its own, and tells whether each kept its own.
func overwriteRecs(l []impl.Rec) bool {
	for i, r := range l {
		for k := range r.Deps[:cap(r.Deps)] {
			r.Deps[:cap(r.Deps)][k] = dep(number(int64(i)), 9, 3, 9)
		}
		for k := range r.Bundle[:cap(r.Bundle)] {
			r.Bundle[:cap(r.Bundle)][k] = number(int64(i))
		}
	}
	for i, r := range l {
		own := number(int64(i))
		if slices.ContainsFunc(r.Deps, func(d impl.Dep) bool { return d.Key != own }) || slices.ContainsFunc(r.Bundle, func(key string) bool { return key != own }) {
			return false
		}
	}
	return true
}

// What is handed in stays, and shares no memory with what is told.
func TestCutsAreNewMemory(t *testing.T) {
	for what, r := range map[string]impl.Rec{
		"comes, with others": written("a", id(4, 1, 0), depsOf(id(3, 1, 0), "a", "b")),
		"waits":              written("e", id(9, 1, 0), depsOf(id(8, 1, 0), "a", "b")),
		"is not above":       written("a", id(2, 1, 0), depsOf(id(1, 1, 0), "a", "b")),
	} {
		c := impl.Cut{Rows: roomy(plainCut().Rows), Wait: roomy(plainCut().Wait)}
		handed := roomy([]impl.Rec{r})
		rows, wait, offered := wholeRecs(c.Rows), wholeRecs(c.Wait), wholeRecs(handed)
		got := impl.Offer(c, handed[0])
		told := slices.Concat(got.Cut.Rows, got.Cut.Wait)
		given := slices.Concat(c.Rows, c.Wait, handed)
		liesApart(t, what, append(textsOf(told...), got.Fresh...), textsOf(given...))
		same(t, what+": no two lists share", overwriteRecs(told), true)
		for _, l := range [][]impl.Rec{got.Cut.Rows, got.Cut.Wait} {
			clear(l[:cap(l)])
		}
		sameRecs(t, what+": rows stay", wholeRecs(c.Rows), rows)
		sameRecs(t, what+": what waits stays", wholeRecs(c.Wait), wait)
		sameRecs(t, what+": what is offered stays", wholeRecs(handed), offered)
	}
}

func TestWhatIsAskedOfACutIsNewMemory(t *testing.T) {
	c := impl.Cut{Rows: roomy(plainCut().Rows), Wait: roomy(plainCut().Wait)}
	rows, wait := wholeRecs(c.Rows), wholeRecs(c.Wait)
	given := textsOf(slices.Concat(c.Rows, c.Wait)...)
	row := impl.RowOf(c, "d")
	seen, lacks := impl.SeenOf(c), impl.Lacks(c, c.Wait[0])
	liesApart(t, "row", textsOf(row), given)
	liesApart(t, "seen, and lacks", textsOf(impl.Rec{Deps: slices.Concat(seen, lacks)}), given)
	overwriteRecs([]impl.Rec{row, {Deps: seen}, {Deps: lacks}})
	sameRecs(t, "rows stay", wholeRecs(c.Rows), rows)
	sameRecs(t, "what waits stays", wholeRecs(c.Wait), wait)
}

// Nothing is kept from one call to the next, however many are made at once.
func TestManyOffersAtOnce(t *testing.T) {
	c, a := plainCut(), written("a", id(4, 1, 0), nil)
	want := offerSlowly(t, c, a)
	var all sync.WaitGroup
	for range 50 {
		all.Go(func() {
			sameCutOut(t, "offer", impl.Offer(c, a), want)
			sameCutOut(t, "offer what is there", impl.Offer(c, c.Rows[0]), impl.CutOut{Cut: c})
		})
	}
	all.Wait()
}
