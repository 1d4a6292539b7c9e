package tests

import (
	"bytes"
	"encoding/binary"
	"math"
	"reflect"
	"slices"
	"testing"

	"loop.example/g00695/impl"
)

// wideGroup has all that a group may have, so that each number of a note can be the greatest one.
func wideGroup() impl.Group { return groupOf(10, 3, 6, 4) }

// wireNumbers are those of a note, in the document's order.
func wireNumbers(n impl.Note) []int64 {
	list := []int64{n.Kind, n.From, n.To, n.Op, n.Shelf, n.Stamp.Count, n.Stamp.Client, n.Value,
		n.Old.Count, n.Old.Client, n.Was, n.Last.Count, n.Last.Client, n.LastValue}
	for _, seals := range [][]impl.Seal{n.Cert, n.More} {
		list = append(list, int64(len(seals)))
		for _, s := range seals {
			list = append(list, s.Who, s.Tag)
		}
	}
	return list
}

func layAll(numbers []int64) []byte {
	var b []byte
	for _, number := range numbers {
		b = binary.AppendUvarint(b, uint64(number))
	}
	return b
}

func wantBytes(n impl.Note) []byte { return layAll(wireNumbers(n)) }

// wantNote reads b without asking for the shortest form, and so must lay what it has read once more.
func wantNote(g impl.Group, b []byte) (impl.Note, bool) {
	var numbers []int64
	for rest := b; len(rest) > 0; {
		number, size := binary.Uvarint(rest)
		if size <= 0 {
			return impl.Note{}, false
		}
		numbers, rest = append(numbers, int64(number)), rest[size:]
	}
	if len(numbers) < 16 {
		return impl.Note{}, false
	}
	f := numbers[:14]
	n := impl.Note{Kind: f[0], From: f[1], To: f[2], Op: f[3], Shelf: f[4], Stamp: stampOf(f[5], f[6]), Value: f[7],
		Old: stampOf(f[8], f[9]), Was: f[10], Last: stampOf(f[11], f[12]), LastValue: f[13]}
	pairs := numbers[14:]
	count := pairs[0]
	if count < 0 || count > 20 || int64(len(pairs)) < 2*count+2 {
		return impl.Note{}, false
	}
	n.Cert = sealList(pairs[1 : 2*count+1]...)
	if len(pairs[2*count+2:])%2 != 0 {
		return impl.Note{}, false
	}
	n.More = sealList(pairs[2*count+2:]...)
	if !wantNoteOk(g, n) || !bytes.Equal(wantBytes(n), b) {
		return impl.Note{}, false
	}
	return n, true
}

// sameNote takes an empty list and nil as the same.
func sameNote(a, b impl.Note) bool {
	for _, list := range []*[]impl.Seal{&a.Cert, &a.More, &b.Cert, &b.More} {
		if len(*list) == 0 {
			*list = nil
		}
	}
	return reflect.DeepEqual(a, b)
}

// checkWire fails unless n is packed to want, and read from it, and packed to it once more.
func checkWire(t *testing.T, why string, g impl.Group, n impl.Note, want []byte) {
	t.Helper()
	b, is := impl.PackNote(g, n)
	if !is || !bytes.Equal(b, want) {
		t.Errorf("%s: PackNote of %+v is %v, %v, not %v", why, n, b, is, want)
	}
	back, is := impl.ReadNote(g, want)
	if !is || !sameNote(back, n) {
		t.Errorf("%s: ReadNote of %v is %+v, %v, not %+v", why, want, back, is, n)
	}
	again, is := impl.PackNote(g, back)
	if !is || !bytes.Equal(again, want) {
		t.Errorf("%s: what was read of %v is packed to %v, %v", why, want, again, is)
	}
}

func notPacked(t *testing.T, why string, g impl.Group, n impl.Note) {
	t.Helper()
	if b, is := impl.PackNote(g, n); is || len(b) != 0 {
		t.Errorf("%s: PackNote of %+v is %v, %v", why, n, b, is)
	}
}

func notRead(t *testing.T, why string, g impl.Group, b []byte) {
	t.Helper()
	if n, is := impl.ReadNote(g, b); is || !sameNote(n, impl.Note{}) {
		t.Errorf("%s: ReadNote of %v is %+v, %v", why, b, n, is)
	}
	if _, is := wantNote(g, b); is {
		t.Errorf("%s: the test itself is wrong about %v", why, b)
	}
}

// checkRead fails unless b is read as it must be, and packed again to just b where it is; it tells whether it is.
func checkRead(t *testing.T, g impl.Group, b []byte) bool {
	t.Helper()
	got, is := impl.ReadNote(g, b)
	want, wantIs := wantNote(g, b)
	if is != wantIs || !sameNote(got, want) {
		t.Fatalf("ReadNote of %v is %+v, %v", b, got, is)
	}
	if again, packed := impl.PackNote(g, got); is && (!packed || !bytes.Equal(again, b)) {
		t.Fatalf("what was read of %v is packed to %v, %v", b, again, packed)
	}
	return is
}

// wireNotes has one of each Kind with all that it has, and the bytes of each, reckoned by hand.
func wireNotes() ([]impl.Note, [][]byte) {
	return []impl.Note{
		{Kind: impl.NtAsk, From: 4, To: 2, Op: 7, Shelf: 1},
		{Kind: impl.NtTell, From: 2, To: 5, Op: 128, Shelf: 0, Stamp: stampOf(300, 4), Value: 9999, Cert: sealList(0, 1, 3, 16384)},
		{Kind: impl.NtReady, From: 5, To: 3, Op: 16383, Shelf: 1, Stamp: stampOf(100000, 5), Value: 127, Old: stampOf(99999, 4), Was: 128,
			Cert: sealList(1, 127, 9, 2147483646), More: sealList(2, 16383), Last: stampOf(16384, 5), LastValue: 6},
		{Kind: impl.NtAm, From: 1, To: 5, Op: 8, Shelf: 1, Stamp: stampOf(3, 5), Value: 9, Cert: sealList(1, 948423801)},
		{Kind: impl.NtWrite, From: 4, To: 0, Op: 100000, Shelf: 0, Stamp: stampOf(1, 4), Value: 0, Cert: sealList(2, 0, 1, 128, 0, 2)},
		{Kind: impl.NtDone, From: 3, To: 4, Op: 0, Shelf: 1, Stamp: stampOf(2, 4), Value: 16, Cert: sealList(3, 16383)},
	}, [][]byte{
		{1, 4, 2, 7, 1, 0, 0, 0, 0, 0, 0, 0, 0, 0, 0, 0},
		{2, 2, 5, 128, 1, 0, 172, 2, 4, 143, 78, 0, 0, 0, 0, 0, 0, 2, 0, 1, 3, 128, 128, 1, 0},
		{3, 5, 3, 255, 127, 1, 160, 141, 6, 5, 127, 159, 141, 6, 4, 128, 1, 128, 128, 1, 5, 6,
			2, 1, 127, 9, 254, 255, 255, 255, 7, 1, 2, 255, 127},
		{4, 1, 5, 8, 1, 3, 5, 9, 0, 0, 0, 0, 0, 0, 1, 1, 249, 152, 159, 196, 3, 0},
		{5, 4, 0, 160, 141, 6, 0, 1, 4, 0, 0, 0, 0, 0, 0, 0, 3, 2, 0, 1, 128, 1, 0, 2, 0},
		{6, 3, 4, 0, 1, 2, 4, 16, 0, 0, 0, 0, 0, 0, 1, 3, 255, 127, 0},
	}
}

func TestBytesOfEachKind(t *testing.T) {
	notes, wants := wireNotes()
	for i, n := range notes {
		checkWire(t, "by hand", noteGroup(), n, wants[i])
		if !bytes.Equal(wantBytes(n), wants[i]) {
			t.Errorf("the test itself is wrong about %+v", n)
		}
	}
}

func TestBytesInEveryGroup(t *testing.T) {
	for _, g := range rightGroups() {
		for _, kind := range kindsOfNotes() {
			for _, n := range []impl.Note{bareNote(g, kind), fullNote(g, kind)} {
				checkWire(t, "every group", g, n, wantBytes(n))
				n.From, n.To = g.Servers+g.Clients-1, g.Servers-1
				if !byClient(kind) {
					n.From, n.To = n.To, n.From
				}
				checkWire(t, "the last nodes", g, n, wantBytes(n))
			}
		}
	}
}

// wirePlaces are all plain numbers of a note, each with its place among the numbers and the greatest one that it takes.
func wirePlaces() []wirePlace {
	return []wirePlace{
		{3, 100000, func(n *impl.Note) *int64 { return &n.Op }},
		{4, 3, func(n *impl.Note) *int64 { return &n.Shelf }},
		{5, 100000, func(n *impl.Note) *int64 { return &n.Stamp.Count }},
		{6, 15, func(n *impl.Note) *int64 { return &n.Stamp.Client }},
		{7, 9999, func(n *impl.Note) *int64 { return &n.Value }},
		{8, 100000, func(n *impl.Note) *int64 { return &n.Old.Count }},
		{9, 15, func(n *impl.Note) *int64 { return &n.Old.Client }},
		{10, 9999, func(n *impl.Note) *int64 { return &n.Was }},
		{11, 100000, func(n *impl.Note) *int64 { return &n.Last.Count }},
		{12, 15, func(n *impl.Note) *int64 { return &n.Last.Client }},
		{13, 9999, func(n *impl.Note) *int64 { return &n.LastValue }},
		{15, 9, func(n *impl.Note) *int64 { return &n.Cert[0].Who }},
		{16, lastTag, func(n *impl.Note) *int64 { return &n.Cert[0].Tag }},
		{17, 9, func(n *impl.Note) *int64 { return &n.Cert[1].Who }},
		{18, lastTag, func(n *impl.Note) *int64 { return &n.Cert[1].Tag }},
		{20, 9, func(n *impl.Note) *int64 { return &n.More[0].Who }},
		{21, lastTag, func(n *impl.Note) *int64 { return &n.More[0].Tag }},
	}
}

type wirePlace struct {
	place    int
	greatest int64
	field    func(n *impl.Note) *int64
}

// onesNote is a NtReady in which each number that can be is 1, of a byte each.
func onesNote() (impl.Note, []byte) {
	n := impl.Note{Kind: impl.NtReady, From: 10, To: 1, Op: 1, Shelf: 1, Stamp: stampOf(1, 1), Value: 1, Old: stampOf(1, 1), Was: 1,
		Cert: sealList(1, 1, 1, 1), More: sealList(1, 1), Last: stampOf(1, 1), LastValue: 1}
	return n, []byte{3, 10, 1, 1, 1, 1, 1, 1, 1, 1, 1, 1, 1, 1, 2, 1, 1, 1, 1, 1, 1, 1}
}

// numbersByHand are those at which the bytes become one more, with their bytes.
func numbersByHand() map[int64][]byte {
	return map[int64][]byte{
		0: {0}, 1: {1}, 3: {3}, 9: {9}, 15: {15}, 126: {126}, 127: {127},
		128: {128, 1}, 129: {129, 1}, 255: {255, 1}, 256: {128, 2}, 9999: {143, 78}, 16382: {254, 127}, 16383: {255, 127},
		16384: {128, 128, 1}, 16385: {129, 128, 1}, 99999: {159, 141, 6}, 100000: {160, 141, 6}, 2097151: {255, 255, 127},
		2097152: {128, 128, 128, 1}, 268435455: {255, 255, 255, 127},
		268435456: {128, 128, 128, 128, 1}, 2147483645: {253, 255, 255, 255, 7}, lastTag: {254, 255, 255, 255, 7},
	}
}

func TestEachNumberInItsPlace(t *testing.T) {
	for _, place := range wirePlaces() {
		for number, laid := range numbersByHand() {
			n, ones := onesNote()
			field := place.field(&n)
			*field = number
			want := slices.Concat(ones[:place.place], laid, ones[place.place+1:])
			// A Count of 0 beside a Client is no Stamp.
			if !wantNoteOk(wideGroup(), n) {
				notPacked(t, "out of range", wideGroup(), n)
				notRead(t, "out of range", wideGroup(), want)
				continue
			}
			checkWire(t, "in its place", wideGroup(), n, want)
		}
	}
}

func TestTheGreatestNumbers(t *testing.T) {
	for _, place := range wirePlaces() {
		n, ones := onesNote()
		*place.field(&n) = place.greatest
		want := slices.Concat(ones[:place.place], numbersByHand()[place.greatest], ones[place.place+1:])
		checkWire(t, "the greatest", wideGroup(), n, want)
		*place.field(&n) = place.greatest + 1
		notPacked(t, "one past the greatest", wideGroup(), n)
		notRead(t, "one past the greatest", wideGroup(), wantBytes(n))
		*place.field(&n) = -1
		notPacked(t, "below 0", wideGroup(), n)
		notRead(t, "below 0", wideGroup(), wantBytes(n))
	}
}

func TestKindAndNodesInTheirPlaces(t *testing.T) {
	for _, row := range []struct {
		kind, from, to int64
		want           []byte
	}{
		{impl.NtAsk, 15, 9, []byte{1, 15, 9}}, {impl.NtTell, 9, 15, []byte{2, 9, 15}}, {impl.NtReady, 10, 0, []byte{3, 10, 0}},
		{impl.NtAm, 0, 10, []byte{4, 0, 10}}, {impl.NtWrite, 12, 8, []byte{5, 12, 8}}, {impl.NtDone, 7, 11, []byte{6, 7, 11}},
	} {
		n := impl.Note{Kind: row.kind, From: row.from, To: row.to}
		checkWire(t, "kind and nodes", wideGroup(), n, append(row.want, make([]byte, 13)...))
	}
}

// sealCount has that many Seals, each one another.
func sealCount(count int) []impl.Seal {
	list := make([]impl.Seal, count)
	for i := range list {
		list[i] = sealOf(int64(i*7%10), lastTag>>i)
	}
	return list
}

func TestHowManySealsOnTheWire(t *testing.T) {
	g := noteGroup()
	for _, cert := range []int{0, 1, 2, 19, impl.MaxSeals, impl.MaxSeals + 1, 127, 128} {
		for _, more := range []int{0, 1, 2, 19, impl.MaxSeals, impl.MaxSeals + 1, 127, 128} {
			n := fullNote(g, impl.NtReady)
			n.Cert, n.More = sealCount(cert), sealCount(more)
			if cert <= impl.MaxSeals && more <= impl.MaxSeals {
				checkWire(t, "seals", g, n, wantBytes(n))
			} else {
				notPacked(t, "too many seals", g, n)
				notRead(t, "too many seals", g, wantBytes(n))
			}
		}
		for _, kind := range []int64{impl.NtTell, impl.NtAm, impl.NtWrite, impl.NtDone} {
			n := fullNote(g, kind)
			n.Cert = sealCount(cert)
			if cert <= impl.MaxSeals {
				checkWire(t, "seals", g, n, wantBytes(n))
			} else {
				notPacked(t, "too many seals", g, n)
				notRead(t, "too many seals", g, wantBytes(n))
			}
		}
	}
}

func TestAnEmptyListOnTheWire(t *testing.T) {
	n, want := bareNote(noteGroup(), impl.NtAsk), append([]byte{1, 4}, make([]byte, 14)...)
	for _, none := range [][]impl.Seal{nil, {}, sealList(1, 2)[:0]} {
		n.Cert, n.More = none, none
		checkWire(t, "empty lists", noteGroup(), n, want)
	}
}

// What is wrong in what is sent need not be wrong as a note: seals of no server, several of one, in any order.
func TestSealsOnTheWireStayInTheirOrder(t *testing.T) {
	g := noteGroup()
	for _, seals := range [][]impl.Seal{sealList(9, 0), sealList(3, 1, 0, 2, 3, 1), {{}, {}, {}}} {
		n := fullNote(g, impl.NtReady)
		n.Cert, n.More = seals, slices.Concat(seals, seals)
		checkWire(t, "seals in any order", g, n, wantBytes(n))
	}
}

func TestManyNotesOnTheWire(t *testing.T) {
	g, right := noteGroup(), 0
	manyNotes(func(n impl.Note) {
		want := wantBytes(n)
		b, packed := impl.PackNote(g, n)
		back, read := impl.ReadNote(g, want)
		if !wantNoteOk(g, n) {
			if packed || len(b) != 0 || read || !sameNote(back, impl.Note{}) {
				t.Fatalf("%+v is packed to %v, %v and read as %+v, %v", n, b, packed, back, read)
			}
			return
		}
		right++
		if !packed || !bytes.Equal(b, want) || !read || !sameNote(back, n) {
			t.Fatalf("%+v is packed to %v, %v and read as %+v, %v", n, b, packed, back, read)
		}
	})
	if right == 0 {
		t.Error("none of them is right")
	}
}

func TestNotesThatAreNotPacked(t *testing.T) {
	g := noteGroup()
	notPacked(t, "the zero note", g, impl.Note{})
	for _, kind := range kindsOfNotes() {
		for _, field := range noteFields() {
			n := bareNote(g, kind)
			field.set(&n)
			if !slices.Contains(field.kinds, kind) {
				notPacked(t, field.name, g, n)
				notRead(t, field.name, g, wantBytes(n))
			}
		}
		for _, wrong := range wrongFields(g) {
			n := fullNote(g, kind)
			wrong(&n)
			notPacked(t, "a wrong note", g, n)
			notRead(t, "a wrong note", g, wantBytes(n))
		}
	}
}

func TestWiresInAWrongGroup(t *testing.T) {
	for _, g := range wrongGroups() {
		for _, kind := range kindsOfNotes() {
			for _, n := range []impl.Note{bareNote(noteGroup(), kind), fullNote(noteGroup(), kind), bareNote(g, kind)} {
				notPacked(t, "a wrong group", g, n)
				notRead(t, "a wrong group", g, wantBytes(n))
			}
		}
	}
}

// What one group can send is none of another one's that has not its nodes or shelves.
func TestWiresInAnotherGroup(t *testing.T) {
	n := impl.Note{Kind: impl.NtAsk, From: 5, To: 3, Shelf: 1}
	b := wantBytes(n)
	checkWire(t, "its own group", noteGroup(), n, b)
	for _, g := range []impl.Group{groupOf(4, 1, 1, 2), groupOf(4, 1, 2, 1), groupOf(3, 0, 3, 2), groupOf(6, 1, 2, 2)} {
		notPacked(t, "another group", g, n)
		notRead(t, "another group", g, b)
	}
}

func TestNoBytes(t *testing.T) {
	room := wantBytes(bareNote(noteGroup(), impl.NtAsk))
	for _, b := range [][]byte{nil, {}, room[:0]} {
		notRead(t, "no bytes", noteGroup(), b)
		notRead(t, "no bytes", impl.Group{}, b)
	}
}

// The room behind a beginning still has the rest of it, which must not be read.
func TestBeginnings(t *testing.T) {
	_, wires := wireNotes()
	for _, b := range wires {
		for size := range len(b) {
			notRead(t, "a beginning", noteGroup(), b[:size])
			notRead(t, "a beginning", noteGroup(), slices.Clone(b[:size]))
		}
		notRead(t, "an end", noteGroup(), b[1:])
	}
}

func TestBytesBehind(t *testing.T) {
	_, wires := wireNotes()
	for _, b := range wires {
		for more := range 256 {
			notRead(t, "a byte behind", noteGroup(), slices.Concat(b, []byte{byte(more)}))
		}
		for _, more := range [][]byte{{0, 0}, {128, 0}, {128, 128}, {255, 255, 255, 255, 255}, bytes.Repeat([]byte{128}, 300), b} {
			notRead(t, "bytes behind", noteGroup(), slices.Concat(b, more))
		}
	}
}

// padded lays a number with so many bytes more than needed, which add nothing to it.
func padded(number int64, more int) []byte {
	b := binary.AppendUvarint(nil, uint64(number))
	for range more {
		b[len(b)-1] += 128
		b = append(b, 0)
	}
	return b
}

// relaid has the bytes of n, but for the number at that place, which is laid as instead.
func relaid(n impl.Note, place int, instead []byte) []byte {
	numbers := wireNumbers(n)
	return slices.Concat(layAll(numbers[:place]), instead, layAll(numbers[place+1:]))
}

func TestNumbersThatCouldBeShorter(t *testing.T) {
	notes, _ := wireNotes()
	for _, n := range notes {
		for place, number := range wireNumbers(n) {
			for more := 1; more <= 12; more++ {
				notRead(t, "could be shorter", noteGroup(), relaid(n, place, padded(number, more)))
			}
		}
	}
}

func TestNumbersThatCouldBeShorterByHand(t *testing.T) {
	for _, b := range [][]byte{
		{129, 0, 4, 2, 7, 1, 0, 0, 0, 0, 0, 0, 0, 0, 0, 0, 0},
		{1, 4, 2, 128, 0, 1, 0, 0, 0, 0, 0, 0, 0, 0, 0, 0, 0},
		{1, 4, 2, 7, 1, 0, 0, 0, 0, 0, 0, 0, 0, 0, 128, 0, 0},
		{1, 4, 2, 7, 1, 0, 0, 0, 0, 0, 0, 0, 0, 0, 0, 128, 0},
		{6, 3, 4, 0, 1, 2, 4, 16, 0, 0, 0, 0, 0, 0, 129, 0, 3, 255, 127, 0},
		{6, 3, 4, 0, 1, 2, 4, 16, 0, 0, 0, 0, 0, 0, 1, 131, 0, 255, 127, 0},
		{6, 3, 4, 0, 1, 2, 4, 16, 0, 0, 0, 0, 0, 0, 1, 3, 255, 255, 0, 0},
		{6, 3, 4, 0, 1, 2, 4, 16, 0, 0, 0, 0, 0, 0, 1, 3, 128, 0, 0},
	} {
		notRead(t, "could be shorter", noteGroup(), b)
	}
}

// longNumbers have more bytes than any number that is sent; some come to n where sums go round at 32 or 64 bits.
func longNumbers(n int64) [][]byte {
	low := byte(n%128 + 128)
	list := [][]byte{
		binary.AppendUvarint(nil, uint64(n)+1<<32),
		binary.AppendUvarint(nil, uint64(n)+1<<35),
		binary.AppendUvarint(nil, uint64(n)+1<<63),
		binary.AppendUvarint(nil, math.MaxUint64),
		{low, 128, 128, 128, 128, 128, 128, 128, 128, 2},
		{low, 128, 128, 128, 128, 128, 128, 128, 128, 128, 1},
		{255, 255, 255, 255, 127},
		{255, 255, 255, 255, 255, 127},
	}
	for _, size := range []int{4, 5, 6, 9, 10, 11, 64, 5000} {
		for _, each := range []byte{128, 129, 200, 255} {
			list = append(list, bytes.Repeat([]byte{each}, size), append(bytes.Repeat([]byte{each}, size), 1))
		}
	}
	return list
}

func TestNumbersOfManyBytes(t *testing.T) {
	notes, _ := wireNotes()
	for _, n := range notes {
		for place, number := range wireNumbers(n) {
			ahead := layAll(wireNumbers(n)[:place])
			for _, long := range longNumbers(number) {
				alone, within := slices.Concat(ahead, long), relaid(n, place, long)
				// Of up to 5 bytes it may be a Tag.
				checkRead(t, noteGroup(), alone)
				checkRead(t, noteGroup(), within)
				if len(long) > 5 {
					notRead(t, "many bytes and nothing behind them", noteGroup(), alone)
					notRead(t, "many bytes", noteGroup(), within)
				}
			}
		}
	}
	for _, long := range longNumbers(1) {
		notRead(t, "many bytes alone", noteGroup(), long)
	}
}

func TestCountsOfSealsThatAreNot(t *testing.T) {
	g, counts := noteGroup(), []int64{0, 1, 2, 3, 19, 20, 21, 22, 127, 128, 16384, lastTag, 1 << 34, 1 << 35, 1 << 40, 1 << 62, math.MaxInt64, -1, math.MinInt64}
	notes, _ := wireNotes()
	for _, n := range notes {
		places := []int{14, 15 + 2*len(n.Cert)}
		for i, have := range []int{len(n.Cert), len(n.More)} {
			for _, count := range counts {
				instead := binary.AppendUvarint(nil, uint64(count))
				if count != int64(have) {
					notRead(t, "another count", g, relaid(n, places[i], instead))
				}
				notRead(t, "a count and nothing behind it", g, slices.Concat(layAll(wireNumbers(n)[:places[0]]), instead))
			}
		}
	}
}

// Another count can be right, where what is behind it comes to other lists.
func TestTheCountTellsWhichListASealIsOf(t *testing.T) {
	head := []byte{3, 4, 0, 0, 0, 0, 0, 0, 0, 0, 0, 0, 0, 0}
	n := bareNote(noteGroup(), impl.NtReady)
	n.Cert, n.More = sealList(0, 1), sealList(2, 3)
	checkWire(t, "one and one", noteGroup(), n, append(head, 1, 0, 1, 1, 2, 3))
	n.Cert, n.More = sealList(0, 1, 2, 3), nil
	checkWire(t, "two and none", noteGroup(), n, append(head, 2, 0, 1, 2, 3, 0))
	n.Cert, n.More = nil, n.Cert
	checkWire(t, "none and two", noteGroup(), n, append(head, 0, 2, 0, 1, 2, 3))
}

// Whatever the bytes are, there is a note of them where they are packed of one, and else none.
func TestAnyByteInAnyPlace(t *testing.T) {
	read := 0
	_, wires := wireNotes()
	for _, wire := range wires {
		for place := range wire {
			for other := range 256 {
				b := slices.Clone(wire)
				b[place] = byte(other)
				if checkRead(t, noteGroup(), b) {
					read++
				}
			}
		}
	}
	if read == 0 {
		t.Error("none of them is read")
	}
}

func TestBytesThatComeOrGo(t *testing.T) {
	_, wires := wireNotes()
	for _, wire := range wires {
		for place := range wire {
			checkRead(t, noteGroup(), slices.Delete(slices.Clone(wire), place, place+1))
			for more := range 256 {
				checkRead(t, noteGroup(), slices.Insert(slices.Clone(wire), place, byte(more)))
			}
		}
	}
}

func TestShortBytes(t *testing.T) {
	for first := range 256 {
		notRead(t, "a byte", noteGroup(), []byte{byte(first)})
		for second := range 256 {
			notRead(t, "two bytes", noteGroup(), []byte{byte(first), byte(second)})
		}
	}
	for size := range 40 {
		for _, each := range []byte{0, 1, 3, 127, 128, 255} {
			b := bytes.Repeat([]byte{each}, size)
			notRead(t, "one byte over and over", noteGroup(), b)
		}
	}
}

func TestWireArgumentsStay(t *testing.T) {
	_, wires := wireNotes()
	for _, wire := range wires {
		listStays(t, append(wire, 0, 128, 7), func(b []byte) {
			keysStay(t, func(g impl.Group) { impl.ReadNote(g, b) })
		})
	}
	cert, more := append(sealList(3, 9, 0, 4, 3, 1), make([]impl.Seal, 19)...), sealList(2, 5, 1, 7, 2, 6, 11, lastTag+1)
	for _, kind := range append(kindsOfNotes(), 0, 7) {
		listStays(t, cert, func(cert []impl.Seal) {
			listStays(t, more, func(more []impl.Seal) {
				keysStay(t, func(g impl.Group) {
					n := bareNote(noteGroup(), kind)
					n.Cert, n.More = cert, more
					impl.PackNote(g, n)
				})
			})
		})
	}
}

func scribbleBytes(b []byte) { fillRoom(b, 77) }

func TestPackedBytesAreNewMemory(t *testing.T) {
	notes, wires := wireNotes()
	for i, n := range append(notes, impl.Note{}) {
		first, _ := impl.PackNote(noteGroup(), n)
		second, _ := impl.PackNote(noteGroup(), n)
		scribbleBytes(second)
		third, _ := impl.PackNote(noteGroup(), n)
		if i < len(wires) && (!bytes.Equal(first, wires[i]) || !bytes.Equal(third, wires[i])) {
			t.Errorf("two answers for %+v share memory", n)
		}
	}
}

func TestReadNotesAreNewMemory(t *testing.T) {
	notes, wires := wireNotes()
	full := fullNote(noteGroup(), impl.NtReady)
	none, one := full, full
	none.Cert, one.More = nil, nil
	for _, n := range []impl.Note{full, none, one} {
		notes, wires = append(notes, n), append(wires, wantBytes(n))
	}
	for i, n := range notes {
		b := slices.Clone(wires[i])
		first, _ := impl.ReadNote(noteGroup(), b)
		second, _ := impl.ReadNote(noteGroup(), b)
		third, _ := impl.ReadNote(noteGroup(), b)
		scribble(second.Cert)
		if !slices.Equal(second.More, n.More) {
			t.Errorf("More of an answer for %v is in the memory of Cert", wires[i])
		}
		scribble(third.More)
		if !slices.Equal(third.Cert, n.Cert) {
			t.Errorf("Cert of an answer for %v is in the memory of More", wires[i])
		}
		fourth, is := impl.ReadNote(noteGroup(), b)
		if !is || !sameNote(first, n) || !sameNote(fourth, n) || !bytes.Equal(b, wires[i]) {
			t.Errorf("two answers for %v share memory, or one has some of the bytes", wires[i])
		}
		scribbleBytes(b)
		if !sameNote(first, n) || !sameNote(fourth, n) {
			t.Errorf("an answer for %v changes with the bytes", wires[i])
		}
	}
}
