package tests

import (
	"math"
	"math/rand"
	"slices"
	"strconv"
	"strings"
	"sync"
	"testing"
	"unsafe"

	"loop.example/g00782/impl"
)

func mail(from int64, to int64, s []impl.Row) impl.Mail {
	return impl.Mail{From: from, To: to, Store: s}
}

func number(n int64) string {
	return strconv.FormatInt(n, 10)
}

// netOf is a net of these stores, without letters.
func netOf(stores ...[]impl.Row) impl.Net {
	return impl.Net{Stores: stores}
}

// withLetters is a net of those stores, and these letters.
func withLetters(n impl.Net, letters ...impl.Mail) impl.Net {
	return impl.Net{Stores: n.Stores, Mail: letters}
}

// plainNet has three stores, of which one is empty, and three letters, of which one is empty too.
func plainNet() impl.Net {
	n := netOf([]impl.Row{row("a", id(3, 1, 0), "a0"), row("b", id(1, 1, 0), "b0")}, nil, []impl.Row{row("a", id(2, 2, 0), "a2")})
	return withLetters(n,
		mail(0, 1, []impl.Row{row("a", id(3, 1, 0), "a0")}),
		mail(1, 0, nil),
		mail(2, 0, []impl.Row{row("a", id(2, 2, 0), "a2"), row("b", id(1, 2, 0), "new"), row("c", id(1, 1, 0), "new")}),
	)
}

// fullMail is the plain net with as many letters as there may be.
func fullMail() impl.Net {
	n := plainNet()
	return withLetters(n, slices.Repeat(n.Mail[:1], impl.MaxMail)...)
}

// netOfSixKeys has as many keys as there may be, in two stores and two letters, and no store has them all.
func netOfSixKeys() impl.Net {
	six := sixRows(id(2, 1, 0), "x")
	return withLetters(netOf(six[:2], six[1:3], nil), mail(0, 1, six[3:5]), mail(1, 0, six[5:]))
}

// rightNets stand at the limits that chapter 7 names, and between.
func rightNets() map[string]impl.Net {
	six := sixRows(id(impl.MaxTime, impl.MaxShims, impl.MaxEpoch), widest)
	out := map[string]impl.Net{
		"one store":            netOf(nil),
		"one full store":       netOf(six),
		"plain":                plainNet(),
		"full mail":            fullMail(),
		"six keys":             netOfSixKeys(),
		"four full stores":     netOf(six, six, six, six),
		"four full, full mail": withLetters(netOf(six, six, six, six), slices.Repeat([]impl.Mail{mail(3, 0, six)}, impl.MaxMail)...),
		"all in letters":       withLetters(netOf(nil, nil), mail(0, 1, six), mail(1, 0, six[2:])),
		"empty lists":          {Stores: [][]impl.Row{{}, {}}, Mail: []impl.Mail{mail(1, 0, []impl.Row{})}},
		"of one id unlike":     netOf([]impl.Row{row("a", id(1, 1, 0), "x")}, []impl.Row{row("a", id(1, 1, 0), "y")}),
	}
	for k := range int64(impl.MaxStores) {
		n := netOf(make([][]impl.Row, k+1)...)
		for at := range k {
			n.Mail = append(n.Mail, mail(at, k, nil), mail(k, at, nil))
		}
		out["letters between all of "+number(k+1)] = n
	}
	return out
}

// wrongPlaces are numbers of which no list of so many has a place.
func wrongPlaces(many int) []int64 {
	return []int64{math.MinInt64, -1, int64(many), int64(many) + 1, 1 << 32, math.MaxInt64}
}

// wrongNets are nets of each kind that is not right.
func wrongNets() map[string]impl.Net {
	six := sixRows(id(1, 1, 0), "x")
	seventh := rowsAt(depsOf(id(1, 1, 0), "c"), "x")
	full := fullMail()
	out := map[string]impl.Net{
		"zero":                      {},
		"no stores, but letters":    withLetters(netOf(), mail(0, 1, nil)),
		"five stores":               netOf(make([][]impl.Row, impl.MaxStores+1)...),
		"far too many stores":       netOf(make([][]impl.Row, impl.MaxList+1)...),
		"one letter too many":       withLetters(full, append(full.Mail, full.Mail[0])...),
		"far too many letters":      withLetters(full, slices.Repeat(full.Mail[:1], impl.MaxList+1)...),
		"a letter of one store":     withLetters(netOf(nil), mail(0, 0, nil)),
		"a letter to itself":        withLetters(netOf(nil, nil), mail(0, 1, nil), mail(1, 1, nil)),
		"seven keys in two stores":  netOf(six, nil, seventh),
		"seven keys, one in a mail": withLetters(netOf(six, nil), mail(0, 1, nil), mail(1, 0, seventh)),
		"seven keys, six in a mail": withLetters(netOf(nil, seventh), mail(1, 0, six)),
		"seven keys in two letters": withLetters(netOf(nil, nil), mail(0, 1, six), mail(0, 1, seventh)),
		"twelve keys":               netOf(six, rowsAt(depsOf(id(2, 1, 0), "q", "r", "s", "t", "u", "v"), "x")),
	}
	for _, at := range wrongPlaces(2) {
		out["from "+number(at)] = withLetters(netOf(nil, nil), mail(1, 0, nil), mail(at, 0, nil))
		out["to "+number(at)] = withLetters(netOf(nil, nil), mail(1, at, nil), mail(1, 0, nil))
	}
	stores := wrongStores()
	stores["too long"] = tooLongStore()
	for what, s := range stores {
		out["first store "+what] = netOf(s, nil)
		out["last store "+what] = netOf(nil, nil, nil, s)
		out["first letter "+what] = withLetters(netOf(nil, nil), mail(0, 1, s), mail(0, 1, nil))
		out["last letter "+what] = withLetters(netOf(nil, nil), mail(0, 1, nil), mail(1, 0, s))
	}
	return out
}

// netCalls are all calls that take a net, with what they may take beside it, and with what they may not.
func netCalls() map[string]func(n impl.Net) impl.NetOut {
	right := row("a", id(9, 1, 0), "put")
	return map[string]func(n impl.Net) impl.NetOut{
		"put":               func(n impl.Net) impl.NetOut { return impl.NetPut(n, 0, right) },
		"put at none":       func(n impl.Net) impl.NetOut { return impl.NetPut(n, -1, right) },
		"put of none":       func(n impl.Net) impl.NetOut { return impl.NetPut(n, 0, impl.Row{}) },
		"gossip":            func(n impl.Net) impl.NetOut { return impl.Gossip(n, 0, 1) },
		"gossip to itself":  func(n impl.Net) impl.NetOut { return impl.Gossip(n, 0, 0) },
		"deliver":           func(n impl.Net) impl.NetOut { return impl.Deliver(n, 0) },
		"deliver of none":   func(n impl.Net) impl.NetOut { return impl.Deliver(n, -1) },
		"lose":              func(n impl.Net) impl.NetOut { return impl.Lose(n, 0) },
		"lose of none":      func(n impl.Net) impl.NetOut { return impl.Lose(n, math.MaxInt64) },
		"twice":             func(n impl.Net) impl.NetOut { return impl.Twice(n, 0) },
		"twice of none":     func(n impl.Net) impl.NetOut { return impl.Twice(n, math.MinInt64) },
		"spread":            impl.Spread,
		"last one delivers": func(n impl.Net) impl.NetOut { return impl.Deliver(n, int64(len(n.Mail))-1) },
	}
}

// sameNet takes an empty list and none for the same.
func sameNet(t *testing.T, what string, got impl.Net, want impl.Net) {
	t.Helper()
	same(t, what+": how many stores", len(got.Stores), len(want.Stores))
	same(t, what+": how many letters", len(got.Mail), len(want.Mail))
	for i := range min(len(got.Stores), len(want.Stores)) {
		sameList(t, what+": store "+number(int64(i)), got.Stores[i], want.Stores[i])
	}
	for i := range min(len(got.Mail), len(want.Mail)) {
		a, b := got.Mail[i], want.Mail[i]
		same(t, what+": from", a.From, b.From)
		same(t, what+": to", a.To, b.To)
		sameList(t, what+": letter "+number(int64(i)), a.Store, b.Store)
	}
}

// netted is that a call told this net, and OK.
func netted(t *testing.T, what string, got impl.NetOut, want impl.Net) {
	t.Helper()
	same(t, what+": code", got.Code, impl.OK)
	sameNet(t, what, got.Net, want)
}

// notNetted is that a call told that code, and no net.
func notNetted(t *testing.T, what string, got impl.NetOut, code int64) {
	t.Helper()
	same(t, what+": code", got.Code, code)
	sameNet(t, what, got.Net, impl.Net{})
}

func cloneNet(n impl.Net) impl.Net {
	var out impl.Net
	for _, s := range n.Stores {
		out.Stores = append(out.Stores, slices.Clone(s))
	}
	for _, m := range n.Mail {
		out.Mail = append(out.Mail, mail(m.From, m.To, slices.Clone(m.Store)))
	}
	return out
}

// storesOf are all that stand in a net: those of the copies, then those of the letters.
func storesOf(n impl.Net) [][]impl.Row {
	out := slices.Clone(n.Stores)
	for _, m := range n.Mail {
		out = append(out, m.Store)
	}
	return out
}

func mergedOf(n impl.Net) []impl.Row {
	var all []impl.Row
	for _, s := range storesOf(n) {
		all = mergedSlowly(all, s)
	}
	return all
}

func TestConstantsOfNets(t *testing.T) {
	same(t, "MaxStores", impl.MaxStores, 4)
	same(t, "MaxMail", impl.MaxMail, 40)
}

func TestNetRight(t *testing.T) {
	for what, n := range rightNets() {
		same(t, what, impl.NetRight(n), true)
	}
	for what, n := range wrongNets() {
		same(t, what, impl.NetRight(n), false)
	}
}

func TestNetNew(t *testing.T) {
	for stores := range impl.MaxStores {
		got := impl.NetNew(int64(stores) + 1)
		netted(t, "new", got, netOf(make([][]impl.Row, stores+1)...))
		same(t, "right", impl.NetRight(got.Net), true)
	}
	for _, stores := range []int64{math.MinInt64, -1, 0, impl.MaxStores + 1, impl.MaxList + 1, 1 << 32, math.MaxInt64} {
		notNetted(t, "new of "+number(stores), impl.NetNew(stores), impl.ErrForm)
	}
}

// That a net is not right is told ahead of all else.
func TestNetsThatAreNotRight(t *testing.T) {
	for what, n := range wrongNets() {
		for call, do := range netCalls() {
			notNetted(t, call+", "+what, do(n), impl.ErrForm)
		}
	}
}

func TestNetPut(t *testing.T) {
	n := plainNet()
	for _, c := range []struct {
		at   int64
		put  impl.Row
		want []impl.Row
	}{
		{0, row("a", id(4, 1, 0), "new"), []impl.Row{row("a", id(4, 1, 0), "new"), n.Stores[0][1]}},
		{0, row("a", id(3, 1, 1), ""), []impl.Row{row("a", id(3, 1, 1), ""), n.Stores[0][1]}},
		{0, row("a", id(3, 1, 0), "alike"), n.Stores[0]},
		{0, row("a", id(2, 3, 9), "less"), n.Stores[0]},
		{0, row("ab", id(1, 1, 0), widest), []impl.Row{n.Stores[0][0], row("ab", id(1, 1, 0), widest), n.Stores[0][1]}},
		{1, row("a", id(1, 1, 0), "new"), []impl.Row{row("a", id(1, 1, 0), "new")}},
		{2, row("c", id(1, 1, 0), "new"), []impl.Row{n.Stores[2][0], row("c", id(1, 1, 0), "new")}},
	} {
		want := cloneNet(n)
		want.Stores[c.at] = c.want
		netted(t, "put "+c.put.Key+" at "+number(c.at), impl.NetPut(n, c.at, c.put), want)
	}
}

// The keys of all stores and letters count together, and each of them once.
func TestNetPutIsFull(t *testing.T) {
	n := netOfSixKeys()
	for at := range n.Stores {
		for _, key := range []string{"aa", "c", "zzz"} {
			notNetted(t, "a seventh key", impl.NetPut(n, int64(at), row(key, id(9, 1, 0), "new")), impl.ErrFull)
		}
		for _, key := range sixKeys() {
			want := cloneNet(n)
			want.Stores[at] = mergedSlowly(n.Stores[at], []impl.Row{row(key, id(3, 1, 0), "new")})
			netted(t, "one of the six", impl.NetPut(n, int64(at), row(key, id(3, 1, 0), "new")), want)
		}
	}
	want := cloneNet(n)
	want.Mail = want.Mail[:1]
	want.Stores[2] = rowsAt(depsOf(id(1, 1, 0), "c"), "new")
	netted(t, "the letter of a key is lost", impl.NetPut(impl.Lose(n, 1).Net, 2, want.Stores[2][0]), want)
}

// What is looked for first is told, however much else is wrong.
func TestNetPutFaults(t *testing.T) {
	n := netOfSixKeys()
	seventh := row("c", id(1, 1, 0), "x")
	for what, r := range wrongRows() {
		notNetted(t, what, impl.NetPut(n, 0, r), impl.ErrForm)
		for _, at := range wrongPlaces(len(n.Stores)) {
			notNetted(t, what+", and no place", impl.NetPut(n, at, r), impl.ErrForm)
		}
	}
	for _, at := range wrongPlaces(len(n.Stores)) {
		notNetted(t, "no place "+number(at), impl.NetPut(n, at, n.Stores[0][0]), impl.ErrNone)
		notNetted(t, "no place, and full "+number(at), impl.NetPut(n, at, seventh), impl.ErrNone)
	}
}

func TestGossip(t *testing.T) {
	n := plainNet()
	for from := range int64(len(n.Stores)) {
		for to := range int64(len(n.Stores)) {
			if from == to {
				notNetted(t, "to itself", impl.Gossip(n, from, to), impl.ErrNone)
				continue
			}
			want := cloneNet(n)
			want.Mail = append(want.Mail, mail(from, to, n.Stores[from]))
			netted(t, "from "+number(from)+" to "+number(to), impl.Gossip(n, from, to), want)
		}
	}
	notNetted(t, "of one store", impl.Gossip(netOf(nil), 0, 0), impl.ErrNone)
	for what, n := range map[string]impl.Net{"plain": n, "full": fullMail()} {
		for _, at := range wrongPlaces(len(n.Stores)) {
			notNetted(t, what+", from "+number(at), impl.Gossip(n, at, 0), impl.ErrNone)
			notNetted(t, what+", to "+number(at), impl.Gossip(n, 0, at), impl.ErrNone)
			notNetted(t, what+", from and to "+number(at), impl.Gossip(n, at, at), impl.ErrNone)
		}
		notNetted(t, what+", to itself", impl.Gossip(n, 1, 1), impl.ErrNone)
	}
	notNetted(t, "full", impl.Gossip(fullMail(), 0, 1), impl.ErrFull)
	last := withLetters(fullMail(), fullMail().Mail[1:]...)
	netted(t, "the last letter", impl.Gossip(last, 2, 1), withLetters(last, append(slices.Clone(last.Mail), mail(2, 1, last.Stores[2]))...))
}

// A letter tells what was there when it was written.
func TestGossipIsOfNow(t *testing.T) {
	n := impl.NetPut(impl.NetNew(2).Net, 0, row("a", id(1, 1, 0), "old")).Net
	n = impl.Gossip(n, 0, 1).Net
	n = impl.NetPut(n, 0, row("a", id(2, 1, 0), "new")).Net
	netted(t, "late", impl.Deliver(n, 0), netOf([]impl.Row{row("a", id(2, 1, 0), "new")}, []impl.Row{row("a", id(1, 1, 0), "old")}))
}

func TestDeliver(t *testing.T) {
	n := plainNet()
	a, b, c := n.Mail[0], n.Mail[1], n.Mail[2]
	first := withLetters(netOf(n.Stores[0], a.Store, n.Stores[2]), b, c)
	netted(t, "first", impl.Deliver(n, 0), first)
	netted(t, "between, and empty", impl.Deliver(n, 1), withLetters(n, a, c))
	merged := []impl.Row{row("a", id(3, 1, 0), "a0"), row("b", id(1, 2, 0), "new"), row("c", id(1, 1, 0), "new")}
	netted(t, "last", impl.Deliver(n, 2), withLetters(netOf(merged, nil, n.Stores[2]), a, b))
	netted(t, "one after the other", impl.Deliver(impl.Deliver(n, 0).Net, 1), withLetters(netOf(merged, a.Store, n.Stores[2]), b))
	unlike := withLetters(netOf([]impl.Row{row("a", id(1, 1, 0), "here")}, nil), mail(1, 0, []impl.Row{row("a", id(1, 1, 0), "told")}))
	netted(t, "of one id what is there stays", impl.Deliver(unlike, 0), netOf(unlike.Stores...))
}

func TestLose(t *testing.T) {
	n := plainNet()
	a, b, c := n.Mail[0], n.Mail[1], n.Mail[2]
	netted(t, "first", impl.Lose(n, 0), withLetters(n, b, c))
	netted(t, "between", impl.Lose(n, 1), withLetters(n, a, c))
	netted(t, "last", impl.Lose(n, 2), withLetters(n, a, b))
	netted(t, "the only one", impl.Lose(withLetters(n, a), 0), netOf(n.Stores...))
}

func TestTwice(t *testing.T) {
	n := plainNet()
	for i, m := range n.Mail {
		netted(t, "twice "+number(int64(i)), impl.Twice(n, int64(i)), withLetters(n, append(slices.Clone(n.Mail), m)...))
	}
	for i := range int64(impl.MaxMail) {
		notNetted(t, "full", impl.Twice(fullMail(), i), impl.ErrFull)
	}
	last := withLetters(fullMail(), fullMail().Mail[1:]...)
	netted(t, "the last letter", impl.Twice(last, 0), fullMail())
}

func TestThereIsNoSuchLetter(t *testing.T) {
	for what, n := range rightNets() {
		for _, i := range wrongPlaces(len(n.Mail)) {
			notNetted(t, what+", deliver "+number(i), impl.Deliver(n, i), impl.ErrNone)
			notNetted(t, what+", lose "+number(i), impl.Lose(n, i), impl.ErrNone)
			notNetted(t, what+", twice "+number(i), impl.Twice(n, i), impl.ErrNone)
		}
	}
}

func TestSpread(t *testing.T) {
	merged := []impl.Row{row("a", id(3, 1, 0), "a0"), row("b", id(1, 2, 0), "new"), row("c", id(1, 1, 0), "new")}
	netted(t, "plain", impl.Spread(plainNet()), netOf(merged, merged, merged))
	six := sixRows(id(2, 1, 0), "x")
	netted(t, "six keys", impl.Spread(netOfSixKeys()), netOf(six, six, six))
	netted(t, "one store", impl.Spread(netOf(six)), netOf(six))
	netted(t, "nothing", impl.Spread(netOf(nil, nil)), netOf(nil, nil))
	netted(t, "all in letters", impl.Spread(withLetters(netOf(nil, nil), mail(0, 1, six[3:]), mail(1, 0, six[:4]))), netOf(six, six))
	last := withLetters(fullMail(), append(fullMail().Mail[1:], mail(1, 2, six))...)
	netted(t, "the last letter of many", impl.Spread(withLetters(netOf(nil, nil, nil), last.Mail...)), netOf(slices.Repeat([][]impl.Row{mergedSlowly(last.Mail[0].Store, six)}, 3)...))
	for what, n := range rightNets() {
		netted(t, what, impl.Spread(n), netOf(slices.Repeat([][]impl.Row{mergedOf(n)}, len(n.Stores))...))
	}
}

// Of one id what stands first stays: stores are ahead of letters, and both go by their order.
func TestSpreadOfOneId(t *testing.T) {
	one := func(bytes string) []impl.Row { return []impl.Row{row("a", id(1, 1, 0), bytes)} }
	above := []impl.Row{row("a", id(1, 1, 1), "above")}
	for _, c := range []struct {
		n    impl.Net
		want []impl.Row
	}{
		{netOf(one("x"), one("y"), one("z")), one("x")},
		{netOf(nil, one("y"), one("z")), one("y")},
		{withLetters(netOf(nil, nil, one("z")), mail(0, 1, one("x"))), one("z")},
		{withLetters(netOf(nil, nil, nil), mail(0, 2, one("x")), mail(0, 1, one("y")), mail(1, 0, one("z"))), one("x")},
		{withLetters(netOf(nil, nil, nil), mail(0, 2, one("z")), mail(0, 1, one("y")), mail(1, 0, one("x"))), one("z")},
		{withLetters(netOf(one("x"), one("y"), nil), mail(1, 2, above)), above},
	} {
		netted(t, "of one id", impl.Spread(c.n), netOf(c.want, c.want, c.want))
	}
}

// stayedRight is promise 7 of a net, and what a call made of it.
func stayedRight(t *testing.T, what string, before impl.Net, got impl.NetOut) {
	t.Helper()
	if got.Code != impl.OK {
		notNetted(t, what, got, got.Code)
		return
	}
	same(t, what+": right", impl.NetRight(got.Net), true)
	for at, s := range before.Stores {
		same(t, what+": tells no less", coveredSlowly(impl.Digest(got.Net.Stores[at]), impl.Digest(s)), true)
	}
}

// spreadRight is promise 7 of a net of which all is spread.
func spreadRight(t *testing.T, n impl.Net) {
	t.Helper()
	var greatest []impl.Dep
	for _, s := range storesOf(n) {
		greatest = joinedSlowly(greatest, impl.Digest(s))
	}
	all := impl.Spread(n)
	stayedRight(t, "spread", n, all)
	netted(t, "spread", all, netOf(slices.Repeat([][]impl.Row{mergedOf(n)}, len(n.Stores))...))
	for _, s := range all.Net.Stores {
		sameList(t, "of each key the greatest", impl.Digest(s), greatest)
	}
	netted(t, "spread again nothing is new", impl.Spread(all.Net), all.Net)
}

// netWalk goes from net to net, and says what each call is to tell.
type netWalk struct {
	t    *testing.T
	n    impl.Net
	from *rand.Rand
	told map[string]int
}

// place is one of so many, and now and then none.
func (w *netWalk) place(many int) int64 {
	if many == 0 || w.from.Intn(12) == 0 {
		none := wrongPlaces(many)
		return none[w.from.Intn(len(none))]
	}
	return w.from.Int63n(int64(many))
}

// done goes on with the net that a call told, if that is what it was to tell.
func (w *netWalk) done(what string, got impl.NetOut, code int64, want impl.Net) {
	w.t.Helper()
	stayedRight(w.t, what, w.n, got)
	w.told[what+" "+number(got.Code)]++
	if code != impl.OK {
		notNetted(w.t, what, got, code)
		return
	}
	netted(w.t, what, got, want)
	if got.Code == impl.OK {
		w.n = got.Net
	}
}

func isPlaceOf(many int, at int64) bool {
	return at >= 0 && at < int64(many)
}

func (w *netWalk) put(r impl.Row) {
	at := w.place(len(w.n.Stores))
	want, code := cloneNet(w.n), int64(impl.OK)
	if !isPlaceOf(len(w.n.Stores), at) {
		code = impl.ErrNone
	} else if len(mergedSlowly(mergedOf(w.n), []impl.Row{r})) > impl.MaxKeys {
		code = impl.ErrFull
	} else {
		want.Stores[at] = mergedSlowly(want.Stores[at], []impl.Row{r})
	}
	w.done("put", impl.NetPut(w.n, at, r), code, want)
}

func (w *netWalk) gossip() {
	from, to := w.place(len(w.n.Stores)), w.place(len(w.n.Stores))
	want, code := cloneNet(w.n), int64(impl.OK)
	if !isPlaceOf(len(w.n.Stores), from) || !isPlaceOf(len(w.n.Stores), to) || from == to {
		code = impl.ErrNone
	} else if len(w.n.Mail) == impl.MaxMail {
		code = impl.ErrFull
	} else {
		want.Mail = append(want.Mail, mail(from, to, w.n.Stores[from]))
	}
	w.done("gossip", impl.Gossip(w.n, from, to), code, want)
}

// letter is some letter's place, and the net without it, or the code of none.
func (w *netWalk) letter() (int64, impl.Net, int64) {
	i := w.place(len(w.n.Mail))
	if !isPlaceOf(len(w.n.Mail), i) {
		return i, impl.Net{}, impl.ErrNone
	}
	want := cloneNet(w.n)
	want.Mail = slices.Delete(want.Mail, int(i), int(i)+1)
	return i, want, impl.OK
}

func (w *netWalk) deliver() {
	i, want, code := w.letter()
	if code == impl.OK {
		m := w.n.Mail[i]
		want.Stores[m.To] = mergedSlowly(want.Stores[m.To], m.Store)
	}
	w.done("deliver", impl.Deliver(w.n, i), code, want)
}

func (w *netWalk) lose() {
	i, want, code := w.letter()
	w.done("lose", impl.Lose(w.n, i), code, want)
}

func (w *netWalk) twice() {
	i, want, code := w.letter()
	if code == impl.OK {
		want = cloneNet(w.n)
		want.Mail = append(want.Mail, w.n.Mail[i])
	}
	if code == impl.OK && len(w.n.Mail) == impl.MaxMail {
		code = impl.ErrFull
	}
	w.done("twice", impl.Twice(w.n, i), code, want)
}

// step takes letters away as often as it brings them, or, if they are to gather, less often.
func (w *netWalk) step(r impl.Row, gather bool) {
	before := cloneNet(w.n)
	kept := w.n
	switch kind := w.from.Intn(8); {
	case kind < 2:
		w.put(r)
	case kind < 4 || gather && kind < 6:
		w.gossip()
	case kind < 5 || gather && kind < 7:
		w.twice()
	case kind < 7:
		w.deliver()
	default:
		w.lose()
	}
	sameNet(w.t, "what was handed in stays", kept, before)
}

// Promise 7, of whatever is put, gossiped, delivered, lost and doubled.
func TestWhateverIsDoneToANet(t *testing.T) {
	from := rand.New(rand.NewSource(15))
	told := map[string]int{}
	keys := append(sixKeys(), "zzz")
	for walk := range 72 {
		w := netWalk{t: t, n: impl.NetNew(1 + int64(walk)%impl.MaxStores).Net, from: from, told: told}
		for step := range 240 {
			one := id(1+from.Int63n(4), 1+from.Int63n(impl.MaxShims), from.Int63n(2))
			r := row(keys[from.Intn(len(keys))], one, number(int64(step)))
			w.step(r, walk%3 == 0)
			if step%10 == 0 {
				spreadRight(t, w.n)
			}
		}
		spreadRight(t, w.n)
	}
	for _, what := range []string{"put", "gossip", "deliver", "lose", "twice"} {
		same(t, what+" was often done, and often of no place", told[what+" "+number(impl.OK)] > 300 && told[what+" "+number(impl.ErrNone)] > 30, true)
	}
	for _, what := range []string{"put", "gossip", "twice"} {
		same(t, what+" was often one too many", told[what+" "+number(impl.ErrFull)] > 30, true)
	}
}

// Promise 7, of nets that stand at the limits.
func TestRightNetsStayRight(t *testing.T) {
	for what, n := range rightNets() {
		for call, do := range netCalls() {
			stayedRight(t, what+", "+call, n, do(n))
		}
		spreadRight(t, n)
	}
}

// A letter that comes again, or late, brings back nothing.
func TestLettersDoubledAndLate(t *testing.T) {
	n := impl.NetPut(impl.NetNew(2).Net, 0, row("a", id(1, 1, 0), "old")).Net
	n = impl.Twice(impl.Gossip(n, 0, 1).Net, 0).Net
	n = impl.Deliver(n, 1).Net
	n = impl.NetPut(n, 1, row("a", id(2, 2, 0), "new")).Net
	netted(t, "late", impl.Deliver(n, 0), netOf(n.Stores...))
}

// spacious is the plain net, of which each list has room behind it.
func spacious() impl.Net {
	n := plainNet()
	for i, s := range n.Stores {
		n.Stores[i] = append(make([]impl.Row, 0, 9), s...)
	}
	for i, m := range n.Mail {
		n.Mail[i].Store = append(make([]impl.Row, 0, 9), m.Store...)
	}
	n.Stores = append(make([][]impl.Row, 0, 9), n.Stores...)
	n.Mail = append(make([]impl.Mail, 0, 90), n.Mail...)
	return n
}

// wholeNet is a net up to where the room of its lists ends.
func wholeNet(n impl.Net) impl.Net {
	out := impl.Net{Stores: slices.Clone(n.Stores[:cap(n.Stores)]), Mail: slices.Clone(n.Mail[:cap(n.Mail)])}
	for i, s := range out.Stores {
		out.Stores[i] = s[:cap(s)]
	}
	for i, m := range out.Mail {
		out.Mail[i].Store = m.Store[:cap(m.Store)]
	}
	return out
}

// overwrite writes another row all over each list of a net, and other lists and letters over its own.
func overwrite(n impl.Net) {
	for i, s := range storesOf(wholeNet(n)) {
		for k := range s {
			s[k] = row("x", id(9, 3, 9), number(int64(i)))
		}
	}
}

// What is handed in stays, and shares no memory with what is told.
func TestNetsAreNewMemory(t *testing.T) {
	for call, do := range netCalls() {
		n := spacious()
		kept := cloneNet(wholeNet(n))
		got := do(n)
		for _, r := range slices.Concat(storesOf(got.Net)...) {
			apart(t, call, r, slices.Concat(storesOf(n)...))
		}
		overwrite(got.Net)
		full := wholeNet(got.Net)
		for i, s := range storesOf(full) {
			for _, r := range s {
				same(t, call+": no two lists share", r.Bytes, number(int64(i)))
			}
		}
		for i := range got.Net.Stores {
			got.Net.Stores[i] = nil
		}
		for i := range got.Net.Mail {
			got.Net.Mail[i] = impl.Mail{}
		}
		sameNet(t, call+": what is handed in stays", wholeNet(n), kept)
	}
}

// No text of a net lies where another one of it does.
func TestTextsOfANetLieApart(t *testing.T) {
	for call, do := range netCalls() {
		lies := map[*byte]bool{}
		for _, r := range slices.Concat(storesOf(do(plainNet()).Net)...) {
			for _, text := range []string{r.Key, r.Bytes} {
				same(t, call+": lies apart", lies[unsafe.StringData(text)], false)
				lies[unsafe.StringData(text)] = true
			}
		}
	}
	put := row("a", id(9, 1, 0), strings.Repeat("put", 9))
	apart(t, "put", impl.NetPut(plainNet(), 1, put).Net.Stores[1][0], []impl.Row{put})
}

// Nothing is kept from one call to the next, however many are made at once.
func TestManyCallsAtOnce(t *testing.T) {
	n := fullMail()
	want := impl.Spread(n)
	var all sync.WaitGroup
	for range 50 {
		all.Go(func() {
			netted(t, "spread", impl.Spread(n), want.Net)
			stayedRight(t, "deliver", n, impl.Deliver(n, impl.MaxMail-1))
		})
	}
	all.Wait()
}
