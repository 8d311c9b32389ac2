package tests

import (
	"encoding/binary"
	"hash/crc32"
	"math/rand"
	"slices"
	"strconv"
	"strings"
	"testing"

	"loop.example/g00782/impl"
)

// plainRec is a right record, of which a test turns what it asks of.
func plainRec() impl.Rec {
	return impl.Rec{
		Key:    "b",
		Id:     id(64, 2, 1),
		Data:   "x9",
		Deps:   []impl.Dep{dep("b", 63, 3, 99), dep("ccc", 1, 1, 0)},
		Bundle: []string{"ab", "b"},
	}
}

// turned is the plain record with something turned.
func turned(turn func(r *impl.Rec)) impl.Rec {
	r := plainRec()
	turn(&r)
	return r
}

// rightRecs stand at the limits that chapter 5 names, and between.
func rightRecs() map[string]impl.Rec {
	six := sixKeys()
	last := id(impl.MaxTime, impl.MaxShims, impl.MaxEpoch)
	ahead := id(impl.MaxTime-1, impl.MaxShims, impl.MaxEpoch)
	return map[string]impl.Rec{
		"plain":                       plainRec(),
		"least":                       {Key: "a", Id: id(1, 1, 0), Bundle: []string{"a"}},
		"no data":                     turned(func(r *impl.Rec) { r.Data = "" }),
		"gone":                        turned(func(r *impl.Rec) { r.Data, r.Gone = "", true }),
		"most data":                   turned(func(r *impl.Rec) { r.Data = "az09zzzz" }),
		"no deps":                     turned(func(r *impl.Rec) { r.Deps = nil }),
		"empty deps":                  turned(func(r *impl.Rec) { r.Deps = []impl.Dep{} }),
		"clock just below, all above": turned(func(r *impl.Rec) { r.Id, r.Deps = id(64, 1, 0), depsOf(id(63, 3, 99), "b") }),
		"last of its bundle":          {Key: "d", Id: last, Bundle: []string{"a", "b", "c", "d"}},
		"first of its bundle":         {Key: "a", Id: last, Bundle: []string{"a", "b", "c", "d"}},
		"begun keys":                  {Key: "ab", Id: last, Bundle: []string{"a", "ab", "abc", "abcd"}},
		"four and two":                {Key: six[3], Id: last, Data: "12345678", Deps: depsOf(ahead, six[4:]...), Bundle: six[:4]},
		"one and five":                {Key: six[5], Id: last, Deps: depsOf(ahead, six[:5]...), Bundle: six[5:]},
		"six deps, all of the bundle": {Key: six[2], Id: last, Deps: depsOf(ahead, six...), Bundle: six[1:5]},
		"six deps, its own key alone": {Key: six[0], Id: last, Deps: depsOf(ahead, six...), Bundle: six[:1]},
	}
}

// wrongRecs are records of each kind that is not right.
func wrongRecs() map[string]impl.Rec {
	out := map[string]impl.Rec{
		"zero":                      {},
		"no key":                    turned(func(r *impl.Rec) { r.Key = "" }),
		"no key, also in bundle":    turned(func(r *impl.Rec) { r.Key, r.Bundle = "", []string{"", "b"} }),
		"wrong key":                 turned(func(r *impl.Rec) { r.Key, r.Bundle = "B", []string{"B", "b"} }),
		"long key":                  turned(func(r *impl.Rec) { r.Key, r.Bundle = "abcde", []string{"abcde", "b"} }),
		"no id":                     turned(func(r *impl.Rec) { r.Id, r.Deps = impl.Id{}, nil }),
		"long data":                 turned(func(r *impl.Rec) { r.Data = "123456789" }),
		"wrong data":                turned(func(r *impl.Rec) { r.Data = "a_b" }),
		"gone, of data":             turned(func(r *impl.Rec) { r.Gone = true }),
		"clock of a dep is its own": turned(func(r *impl.Rec) { r.Id = id(63, 3, 99) }),
		"clock alike, id below":     turned(func(r *impl.Rec) { r.Deps = depsOf(id(64, 1, 0), "c") }),
		"last dep of its own clock": turned(func(r *impl.Rec) { r.Deps[1].Id.Clock = 64 }),
		"dep of a clock above":      turned(func(r *impl.Rec) { r.Deps[0].Id.Clock = 65 }),
		"no bundle":                 turned(func(r *impl.Rec) { r.Bundle = nil }),
		"empty bundle":              turned(func(r *impl.Rec) { r.Bundle = []string{} }),
		"not in its bundle":         turned(func(r *impl.Rec) { r.Bundle = []string{"a", "bb"} }),
		"falling bundle":            turned(func(r *impl.Rec) { r.Bundle = []string{"b", "ab"} }),
		"bundle alike":              turned(func(r *impl.Rec) { r.Bundle = []string{"b", "b"} }),
		"wrong key in bundle":       turned(func(r *impl.Rec) { r.Bundle = []string{"b", "b1"} }),
		"long key in bundle":        turned(func(r *impl.Rec) { r.Bundle = []string{"b", "bcdef"} }),
		"empty key in bundle":       turned(func(r *impl.Rec) { r.Bundle = []string{"", "b"} }),
		"five in bundle":            turned(func(r *impl.Rec) { r.Deps, r.Bundle = nil, []string{"a", "b", "c", "d", "e"} }),
		"long bundle":               turned(func(r *impl.Rec) { r.Deps, r.Bundle = nil, slices.Repeat([]string{"b"}, impl.MaxList+1) }),
		"seven keys, four and three": turned(func(r *impl.Rec) {
			r.Deps, r.Bundle = depsOf(id(1, 1, 0), "e", "f", "g"), []string{"a", "b", "c", "d"}
		}),
		"seven keys, two of them new": turned(func(r *impl.Rec) {
			r.Deps, r.Bundle = depsOf(id(1, 1, 0), "b", "c", "d", "e", "f"), []string{"a", "b", "g"}
		}),
		"seven keys, six and one": turned(func(r *impl.Rec) {
			r.Deps, r.Bundle = depsOf(id(1, 1, 0), "a", "c", "d", "e", "f", "g"), []string{"b"}
		}),
	}
	for what, l := range wrongDeps() {
		out["deps "+what] = turned(func(r *impl.Rec) { r.Deps = l })
	}
	out["deps too long"] = turned(func(r *impl.Rec) { r.Deps = tooLong() })
	for _, a := range edgeIds() {
		if !impl.IdRight(a) {
			out["id "+plain(a)] = turned(func(r *impl.Rec) { r.Id, r.Deps = a, nil })
		}
	}
	return out
}

// sealedSlowly says what Seal is to tell, without any limit.
func sealedSlowly(body []byte) string {
	return string(binary.LittleEndian.AppendUint32(slices.Clone(body), crc32.ChecksumIEEE(body)))
}

func textSlowly(out []byte, text string) []byte {
	return append(binary.AppendVarint(out, int64(len(text))), text...)
}

func idSlowly(out []byte, a impl.Id) []byte {
	out = binary.AppendVarint(out, a.Clock)
	out = binary.AppendVarint(out, a.Shim)
	return binary.AppendVarint(out, a.Epoch)
}

// bodySlowly lays out any record, be it right or not, as chapter 5 says, with these numbers for Gone and of the lists.
func bodySlowly(r impl.Rec, gone int64, deps int64, bundle int64) []byte {
	out := textSlowly(nil, r.Key)
	out = textSlowly(idSlowly(out, r.Id), r.Data)
	out = binary.AppendVarint(out, gone)
	out = binary.AppendVarint(out, deps)
	for _, d := range r.Deps {
		out = idSlowly(textSlowly(out, d.Key), d.Id)
	}
	out = binary.AppendVarint(out, bundle)
	for _, key := range r.Bundle {
		out = textSlowly(out, key)
	}
	return out
}

func recSlowly(r impl.Rec) []byte {
	gone := int64(0)
	if r.Gone {
		gone = 1
	}
	return bodySlowly(r, gone, int64(len(r.Deps)), int64(len(r.Bundle)))
}

// rightSlowly says what RecRight is to tell.
func rightSlowly(r impl.Rec) bool {
	keys := map[string]bool{}
	fits := impl.KeyRight(r.Key) && impl.IdRight(r.Id) && impl.DataRight(r.Data) && impl.DepsRight(r.Deps)
	for _, d := range r.Deps {
		keys[d.Key] = true
		fits = fits && d.Id.Clock < r.Id.Clock
	}
	for k, key := range r.Bundle {
		keys[key] = true
		fits = fits && impl.KeyRight(key) && (k == 0 || r.Bundle[k-1] < key)
	}
	fits = fits && len(r.Bundle) > 0 && len(r.Bundle) <= 4 && slices.Contains(r.Bundle, r.Key)
	return fits && len(keys) <= 6 && !(r.Gone && r.Data != "")
}

// needsSlowly says what Needs is to tell of a right record.
func needsSlowly(r impl.Rec) []impl.Dep {
	needs := map[string]impl.Id{}
	for _, d := range r.Deps {
		needs[d.Key] = d.Id
	}
	for _, key := range r.Bundle {
		if key != r.Key {
			needs[key] = r.Id
		}
	}
	var out []impl.Dep
	for key, a := range needs {
		out = append(out, impl.Dep{Key: key, Id: a})
	}
	slices.SortFunc(out, func(x impl.Dep, y impl.Dep) int { return strings.Compare(x.Key, y.Key) })
	return out
}

// someRec is a record that is often right, and else wrong in few places.
func someRec(from *rand.Rand) impl.Rec {
	keys := []string{"a", "aa", "b", "c", "d", "e", "zzzz"}
	r := impl.Rec{Id: id(from.Int63n(6), 1+from.Int63n(3), from.Int63n(3))}
	r.Deps = someDeps(keys[from.Intn(4):], from)
	for _, key := range keys {
		if from.Intn(3) == 0 {
			r.Bundle = append(r.Bundle, key)
		}
	}
	r.Key = keys[from.Intn(len(keys))]
	if len(r.Bundle) > 0 && from.Intn(8) > 0 {
		r.Key = r.Bundle[from.Intn(len(r.Bundle))]
	}
	r.Gone = from.Intn(3) == 0
	if !r.Gone || from.Intn(8) == 0 {
		r.Data = "abcd01234"[:from.Intn(10)]
	}
	return r
}

// sameRec asks of all fields, without RecSame.
func sameRec(t *testing.T, what string, got impl.Rec, want impl.Rec) {
	t.Helper()
	same(t, what+": key", got.Key, want.Key)
	same(t, what+": id", got.Id, want.Id)
	same(t, what+": data", got.Data, want.Data)
	same(t, what+": gone", got.Gone, want.Gone)
	sameList(t, what, got.Deps, want.Deps)
	if !slices.Equal(got.Bundle, want.Bundle) {
		t.Errorf("%s: got bundle %q, want %q", what, got.Bundle, want.Bundle)
	}
}

// readBack is that a text is read as that record.
func readBack(t *testing.T, what string, text string, want impl.Rec) {
	t.Helper()
	got := impl.RecRead(text)
	same(t, what+": code", got.Code, impl.OK)
	sameRec(t, what, got.Rec, want)
	same(t, what+": same", impl.RecSame(got.Rec, want), true)
}

// notRead is that a text is refused with that code, and no record is told.
func notRead(t *testing.T, what string, text string, code int64) {
	t.Helper()
	got := impl.RecRead(text)
	same(t, what+": code", got.Code, code)
	sameRec(t, what, got.Rec, impl.Rec{})
}

func TestConstantOfRecords(t *testing.T) {
	same(t, "MaxBundle", impl.MaxBundle, 4)
}

func TestDataRight(t *testing.T) {
	for _, data := range []string{"", "a", "z", "0", "9", "09az", "zzzzzzzz", "00000000", "a1b2c3d4"} {
		same(t, "data "+data, impl.DataRight(data), true)
	}
	for _, data := range []string{"aaaaaaaaa", "123456789", "A", "a_", "a b", " ", "a\n", "\x00", "é", "\u0663", strings.Repeat("a", impl.MaxBytes), strings.Repeat("a", impl.MaxBytes+1)} {
		same(t, "no data "+data, impl.DataRight(data), false)
	}
	for b := range 256 {
		one := string([]byte{byte(b)})
		right := b >= 'a' && b <= 'z' || b >= '0' && b <= '9'
		for _, data := range []string{one, one + "a", "a" + one, "aaa9" + one + "aaa", "aaaa000" + one} {
			same(t, "byte in "+data, impl.DataRight(data), right)
		}
		same(t, "ninth byte", impl.DataRight("aaaaaaaa"+one), false)
	}
}

func TestRecRight(t *testing.T) {
	for what, r := range rightRecs() {
		same(t, what, impl.RecRight(r), true)
	}
	for what, r := range wrongRecs() {
		same(t, what, impl.RecRight(r), false)
	}
}

func TestRecBytesWritesTheBytesOfTheDocument(t *testing.T) {
	body := "\x02b" + "\x80\x01\x04\x02" + "\x04x9" + "\x00" +
		"\x04" + "\x02b" + "\x7e\x06\xc6\x01" + "\x06ccc" + "\x02\x02\x00" +
		"\x04" + "\x04ab" + "\x02b"
	same(t, "plain", impl.RecBytes(plainRec()), sealedSlowly([]byte(body)))
	gone := impl.Rec{Key: "zzzz", Id: id(impl.MaxTime, 3, 99), Gone: true, Bundle: []string{"zzzz"}}
	same(t, "gone", impl.RecBytes(gone), sealedSlowly([]byte("\x08zzzz"+"\x80\x89\x7a\x06\xc6\x01"+"\x00"+"\x02"+"\x00"+"\x02\x08zzzz")))
	for what, r := range rightRecs() {
		same(t, what, impl.RecBytes(r), sealedSlowly(recSlowly(r)))
	}
}

func TestRecBytesOfWrongRecordsIsEmpty(t *testing.T) {
	for what, r := range wrongRecs() {
		same(t, what, impl.RecBytes(r), "")
	}
}

// Promise 5: a right record comes back from its bytes.
func TestRecComesBack(t *testing.T) {
	for what, r := range rightRecs() {
		readBack(t, what, impl.RecBytes(r), r)
	}
}

// Promise 5: what is right comes back, and what is not is refused, also if it is sealed.
func TestManyRecsComeBack(t *testing.T) {
	from := rand.New(rand.NewSource(11))
	right := 0
	for range 20000 {
		r := someRec(from)
		same(t, "right", impl.RecRight(r), rightSlowly(r))
		text := sealedSlowly(recSlowly(r))
		if !rightSlowly(r) {
			same(t, "no bytes", impl.RecBytes(r), "")
			notRead(t, "not right, but sealed", text, impl.ErrSyntax)
			sameList(t, "no needs", impl.Needs(r), nil)
			continue
		}
		right++
		same(t, "bytes", impl.RecBytes(r), text)
		readBack(t, "back", text, r)
		sameList(t, "needs", impl.Needs(r), needsSlowly(r))
	}
	same(t, "some were right, and some were not", right > 1000 && right < 19000, true)
}

// Promise 5: with one bit turned it is refused, and so with any byte turned.
func TestRecWithOneByteTurnedIsRefused(t *testing.T) {
	for what, r := range rightRecs() {
		text := impl.RecBytes(r)
		for at := range len(text) {
			for turn := 1; turn < 256; turn++ {
				bytes := []byte(text)
				bytes[at] ^= byte(turn)
				notRead(t, what+": byte "+strconv.Itoa(at)+" turned", string(bytes), impl.ErrSum)
			}
		}
	}
}

func TestRecReadTellsTheCodeOfUnseal(t *testing.T) {
	for _, text := range []string{"", "a", "ab", "abc", "\x00\x00\x00"} {
		notRead(t, "short", text, impl.ErrShort)
	}
	for _, text := range []string{"abcd", "abcdefgh", "\x00\x00\x00\x01", strings.Repeat("a", impl.MaxBytes)} {
		notRead(t, "no seal", text, impl.ErrSum)
	}
	notRead(t, "too long", strings.Repeat("a", impl.MaxBytes+1), impl.ErrSize)
	notRead(t, "too long, and sealed", sealedSlowly(make([]byte, impl.MaxBytes-3)), impl.ErrSize)
	notRead(t, "too long, and a record ahead", sealedSlowly(append(recSlowly(plainRec()), make([]byte, impl.MaxBytes)...)), impl.ErrSize)
	notRead(t, "as long as may be", sealedSlowly(make([]byte, impl.MaxBytes-4)), impl.ErrSyntax)
	notRead(t, "a seal of nothing", sealedSlowly(nil), impl.ErrSyntax)
}

func TestRecReadOfCutOnes(t *testing.T) {
	for what, r := range rightRecs() {
		text, body := impl.RecBytes(r), recSlowly(r)
		for end := range len(text) {
			code := int64(impl.ErrSum)
			if end < 4 {
				code = impl.ErrShort
			}
			notRead(t, what+", cut", text[:end], code)
		}
		for end := range len(body) {
			notRead(t, what+", cut and sealed", sealedSlowly(body[:end]), impl.ErrSyntax)
			notRead(t, what+", cut ahead and sealed", sealedSlowly(body[end+1:]), impl.ErrSyntax)
		}
		for b := range 256 {
			notRead(t, what+", one behind", sealedSlowly(append(slices.Clone(body), byte(b))), impl.ErrSyntax)
			notRead(t, what+", one ahead", sealedSlowly(append([]byte{byte(b)}, body...)), impl.ErrSyntax)
		}
		notRead(t, what+", twice", sealedSlowly(append(slices.Clone(body), body...)), impl.ErrSyntax)
		notRead(t, what+", sealed twice", impl.Seal(text), impl.ErrSyntax)
	}
}

func TestRecReadOfWrongOnes(t *testing.T) {
	for what, r := range wrongRecs() {
		text := sealedSlowly(recSlowly(r))
		code := int64(impl.ErrSyntax)
		if len(text) > impl.MaxBytes {
			code = impl.ErrSize
		}
		notRead(t, what, text, code)
	}
}

func TestRecReadOfWrongNumbers(t *testing.T) {
	r := plainRec()
	r.Data = ""
	readBack(t, "all numbers right", sealedSlowly(bodySlowly(r, 0, 2, 2)), r)
	numbers := append(edgeNumbers(), 5, 6, 7, 10)
	for _, n := range numbers {
		if n != 0 && n != 1 {
			notRead(t, "gone", sealedSlowly(bodySlowly(r, n, 2, 2)), impl.ErrSyntax)
		}
		if n != 2 {
			notRead(t, "how many deps", sealedSlowly(bodySlowly(r, 0, n, 2)), impl.ErrSyntax)
			notRead(t, "how many in bundle", sealedSlowly(bodySlowly(r, 0, 2, n)), impl.ErrSyntax)
		}
	}
}

// A number of more bytes than are needed, anywhere, makes it no record's text.
func TestRecReadOfNumbersThatAreTooLong(t *testing.T) {
	least := "\x02a" + "\x02\x02\x00" + "\x00" + "\x00" + "\x00" + "\x02" + "\x02a"
	readBack(t, "least", sealedSlowly([]byte(least)), rightRecs()["least"])
	for at := range len(least) {
		if least[at] != 'a' {
			longer := least[:at] + string([]byte{least[at] | 128, 0}) + least[at+1:]
			notRead(t, "longer at "+strconv.Itoa(at), sealedSlowly([]byte(longer)), impl.ErrSyntax)
		}
	}
}

// Whatever stands in it: what is read is right, and that text is its own.
func TestRecReadOfTurnedOnesThatAreSealed(t *testing.T) {
	read, refused := 0, 0
	for what, r := range rightRecs() {
		body := recSlowly(r)
		for at := range body {
			for turn := 1; turn < 256; turn++ {
				bytes := slices.Clone(body)
				bytes[at] ^= byte(turn)
				text := sealedSlowly(bytes)
				got := impl.RecRead(text)
				if got.Code != impl.OK {
					refused++
					notRead(t, what+", turned and sealed", text, impl.ErrSyntax)
					continue
				}
				read++
				same(t, what+", turned, right", rightSlowly(got.Rec), true)
				same(t, what+", turned, its own text", sealedSlowly(recSlowly(got.Rec)), text)
				same(t, what+", turned, unlike", impl.RecSame(got.Rec, r), false)
			}
		}
	}
	same(t, "some were read, and some were not", read > 100 && refused > 1000, true)
}

func TestRecSame(t *testing.T) {
	all := rightRecs()
	for what, r := range wrongRecs() {
		all["wrong: "+what] = r
	}
	for what, r := range all {
		other := r
		other.Deps, other.Bundle = slices.Clone(r.Deps), slices.Clone(r.Bundle)
		same(t, what+" and itself", impl.RecSame(r, other), true)
		same(t, what+" and none", impl.RecSame(r, impl.Rec{}), what == "wrong: zero")
	}
	none, empty := impl.Rec{}, impl.Rec{Deps: []impl.Dep{}, Bundle: []string{}}
	same(t, "none, empty lists", impl.RecSame(none, empty) && impl.RecSame(empty, none), true)
}

func TestRecSameAsksForEachField(t *testing.T) {
	for what, turn := range map[string]func(r *impl.Rec){
		"key":           func(r *impl.Rec) { r.Key = "ab" },
		"clock":         func(r *impl.Rec) { r.Id.Clock++ },
		"shim":          func(r *impl.Rec) { r.Id.Shim++ },
		"epoch":         func(r *impl.Rec) { r.Id.Epoch++ },
		"data":          func(r *impl.Rec) { r.Data = "x8" },
		"shorter data":  func(r *impl.Rec) { r.Data = "x" },
		"gone":          func(r *impl.Rec) { r.Gone = true },
		"key of a dep":  func(r *impl.Rec) { r.Deps[1].Key = "ccd" },
		"id of a dep":   func(r *impl.Rec) { r.Deps[0].Id.Epoch-- },
		"a dep less":    func(r *impl.Rec) { r.Deps = r.Deps[:1] },
		"no deps":       func(r *impl.Rec) { r.Deps = nil },
		"a dep more":    func(r *impl.Rec) { r.Deps = append(r.Deps, dep("d", 1, 1, 0)) },
		"deps turned":   func(r *impl.Rec) { slices.Reverse(r.Deps) },
		"key of bundle": func(r *impl.Rec) { r.Bundle[0] = "aa" },
		"bundle less":   func(r *impl.Rec) { r.Bundle = r.Bundle[1:] },
		"no bundle":     func(r *impl.Rec) { r.Bundle = nil },
		"bundle more":   func(r *impl.Rec) { r.Bundle = append(r.Bundle, "c") },
		"bundle turned": func(r *impl.Rec) { slices.Reverse(r.Bundle) },
	} {
		same(t, what, impl.RecSame(plainRec(), turned(turn)), false)
		same(t, what+", the other way", impl.RecSame(turned(turn), plainRec()), false)
	}
}

func TestNeeds(t *testing.T) {
	r := plainRec()
	sameList(t, "deps, and the other one of the bundle", impl.Needs(r), []impl.Dep{dep("ab", 64, 2, 1), dep("b", 63, 3, 99), dep("ccc", 1, 1, 0)})
	r.Bundle = []string{"b"}
	sameList(t, "alone", impl.Needs(r), r.Deps)
	r.Bundle = []string{"b", "ccc"}
	sameList(t, "of a key in both its own id", impl.Needs(r), []impl.Dep{dep("b", 63, 3, 99), dep("ccc", 64, 2, 1)})
	r.Deps = nil
	sameList(t, "without deps", impl.Needs(r), depsOf(r.Id, "ccc"))
	sameList(t, "none", impl.Needs(rightRecs()["least"]), nil)
	for what, r := range rightRecs() {
		got := impl.Needs(r)
		sameList(t, what, got, needsSlowly(r))
		same(t, what+": right", impl.DepsRight(got), true)
	}
	for what, r := range wrongRecs() {
		sameList(t, "not right: "+what, impl.Needs(r), nil)
	}
}

// What is handed in stays, and shares no memory with what is told.
func TestRecsAreNewMemory(t *testing.T) {
	r := plainRec()
	r.Deps = append(make([]impl.Dep, 0, 9), r.Deps...)
	r.Bundle = append(make([]string, 0, 9), r.Bundle...)
	text := impl.RecBytes(r)
	needs := impl.Needs(r)
	for i := range needs[:cap(needs)] {
		needs[:cap(needs)][i] = dep("x", 9, 3, 9)
	}
	first, second := impl.RecRead(text).Rec, impl.RecRead(text).Rec
	first.Deps[0], first.Bundle[0] = dep("x", 9, 3, 9), "x"
	sameRec(t, "what was handed in", r, plainRec())
	sameRec(t, "what was told elsewhere", second, plainRec())
	sameList(t, "nothing behind deps", r.Deps[:9][2:], make([]impl.Dep, 7))
	if !slices.Equal(r.Bundle[:9][2:], make([]string, 7)) {
		t.Errorf("behind the bundle: %q", r.Bundle[:9])
	}
	alone := impl.Rec{Key: "a", Id: id(2, 1, 0), Deps: depsOf(id(1, 1, 0), "a", "c"), Bundle: []string{"a"}}
	impl.Needs(alone)[1].Key = "x"
	same(t, "deps alone are copied too", alone.Deps[1].Key, "c")
}
