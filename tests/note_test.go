package tests

import (
	"math"
	"reflect"
	"slices"
	"testing"

	"loop.example/g00695/impl"
)

const lastTag = 2147483646

func noteGroup() impl.Group { return groupOf(4, 1, 2, 2) }

// kindsOfNotes are all there are; those of even numbers are sent by servers.
func kindsOfNotes() []int64 { return []int64{1, 2, 3, 4, 5, 6} }

func byClient(kind int64) bool { return kind%2 == 1 }

// bareNote has nothing but what each Kind has, between the first client and the first server of g.
func bareNote(g impl.Group, kind int64) impl.Note {
	if byClient(kind) {
		return impl.Note{Kind: kind, From: g.Servers, To: 0}
	}
	return impl.Note{Kind: kind, From: 0, To: g.Servers}
}

// noteFields are those that some Kind has not, with the Kinds that have them.
func noteFields() []noteField {
	seals := func() []impl.Seal { return sealList(2, 70, 0, 71, 2, 72) }
	return []noteField{
		{"Stamp", []int64{2, 3, 4, 5, 6}, func(n *impl.Note) { n.Stamp = stampOf(3, 4) }},
		{"Value", []int64{2, 3, 4, 5, 6}, func(n *impl.Note) { n.Value = 9 }},
		{"Cert", []int64{2, 3, 4, 5, 6}, func(n *impl.Note) { n.Cert = seals() }},
		{"Old", []int64{3}, func(n *impl.Note) { n.Old = stampOf(2, 5) }},
		{"Was", []int64{3}, func(n *impl.Note) { n.Was = 8 }},
		{"Last", []int64{3}, func(n *impl.Note) { n.Last = stampOf(1, 4) }},
		{"LastValue", []int64{3}, func(n *impl.Note) { n.LastValue = 7 }},
		{"More", []int64{3}, func(n *impl.Note) { n.More = seals() }},
	}
}

type noteField struct {
	name  string
	kinds []int64
	set   func(n *impl.Note)
}

// fullNote has all that its Kind has.
func fullNote(g impl.Group, kind int64) impl.Note {
	n := bareNote(g, kind)
	n.Op, n.Shelf = 7, g.Shelves-1
	for _, field := range noteFields() {
		if slices.Contains(field.kinds, kind) {
			field.set(&n)
		}
	}
	return n
}

// wrongFields each make any right note a wrong one.
func wrongFields(g impl.Group) []func(n *impl.Note) {
	return []func(n *impl.Note){
		func(n *impl.Note) { n.Kind = 0 }, func(n *impl.Note) { n.Kind = 7 }, func(n *impl.Note) { n.Kind = -n.Kind },
		func(n *impl.Note) { n.From, n.To = n.To, n.From }, func(n *impl.Note) { n.From = g.Servers + g.Clients }, func(n *impl.Note) { n.To = -1 },
		func(n *impl.Note) { n.Op = impl.MaxOp + 1 }, func(n *impl.Note) { n.Op = math.MinInt64 }, func(n *impl.Note) { n.Op = math.MaxInt64 },
		func(n *impl.Note) { n.Shelf = g.Shelves }, func(n *impl.Note) { n.Stamp = stampOf(0, 4) }, func(n *impl.Note) { n.Last = stampOf(-1, -1) },
		func(n *impl.Note) { n.Cert = make([]impl.Seal, 21) }, func(n *impl.Note) { n.More = make([]impl.Seal, 21) },
		func(n *impl.Note) { n.Cert = sealList(10, 0) }, func(n *impl.Note) { n.Cert = sealList(0, lastTag+1) },
	}
}

func wantSeals(list []impl.Seal) bool {
	bad := func(s impl.Seal) bool { return s.Who < 0 || s.Who > 9 || s.Tag < 0 || s.Tag > lastTag }
	return len(list) <= 20 && !slices.ContainsFunc(list, bad)
}

// wantNoteOk takes out what the Kind has and asks whether all else is zero.
func wantNoteOk(g impl.Group, n impl.Note) bool {
	bad := func(value int64) bool { return value < 0 || value > 9999 }
	if !wantGroupOk(g) || n.Kind < 1 || n.Kind > 6 || n.Op < 0 || n.Op > 100000 || n.Shelf < 0 || n.Shelf >= g.Shelves ||
		!wantStampOk(n.Stamp) || !wantStampOk(n.Old) || !wantStampOk(n.Last) || bad(n.Value) || bad(n.Was) || bad(n.LastValue) ||
		!wantSeals(n.Cert) || !wantSeals(n.More) {
		return false
	}
	client, server := n.From, n.To
	if n.Kind == 2 || n.Kind == 4 || n.Kind == 6 {
		client, server = n.To, n.From
	}
	if server < 0 || server >= g.Servers || client < g.Servers || client >= g.Servers+g.Clients {
		return false
	}
	rest := n
	rest.Kind, rest.From, rest.To, rest.Op, rest.Shelf = 0, 0, 0, 0, 0
	if n.Kind != 1 {
		rest.Stamp, rest.Value, rest.Cert = impl.Stamp{}, 0, nil
	}
	if n.Kind == 3 {
		rest.Old, rest.Was, rest.Last, rest.LastValue, rest.More = impl.Stamp{}, 0, impl.Stamp{}, 0, nil
	}
	if len(rest.Cert)+len(rest.More) > 0 {
		return false
	}
	rest.Cert, rest.More = nil, nil
	return reflect.DeepEqual(rest, impl.Note{})
}

func checkNote(t *testing.T, why string, g impl.Group, n impl.Note, want bool) {
	t.Helper()
	if got := impl.NoteOk(g, n); got != want {
		t.Errorf("%s: NoteOk of %+v is %v", why, n, got)
	}
	if wantNoteOk(g, n) != want {
		t.Errorf("%s: the test itself is wrong about %+v", why, n)
	}
}

func TestConstantsOfNotes(t *testing.T) {
	kinds := []int64{impl.NtAsk, impl.NtTell, impl.NtReady, impl.NtAm, impl.NtWrite, impl.NtDone}
	if impl.MaxOp != 100000 || !slices.Equal(kinds, kindsOfNotes()) {
		t.Error("a constant of notes is not the document's")
	}
}

func TestRightNotes(t *testing.T) {
	for _, g := range rightGroups() {
		for _, kind := range kindsOfNotes() {
			checkNote(t, "all that it has", g, fullNote(g, kind), true)
			checkNote(t, "nothing that it may have", g, bareNote(g, kind), true)
		}
	}
}

func TestRightNotesInNumbers(t *testing.T) {
	stamp, seal := stampOf(3, 5), sealList(1, 948423801)
	right := []impl.Note{
		{Kind: impl.NtAsk, From: 4, To: 2, Op: 7, Shelf: 1},
		{Kind: impl.NtTell, From: 2, To: 4, Op: 7, Shelf: 1, Stamp: stamp, Value: 9, Cert: sealList(0, 1, 1, 2, 3, 4)},
		{Kind: impl.NtTell, From: 2, To: 4, Op: 7, Shelf: 1},
		{Kind: impl.NtReady, From: 5, To: 0, Op: 8, Shelf: 0, Stamp: stamp, Value: 9, Old: stampOf(2, 4), Was: 8, Cert: sealList(0, 1, 1, 2, 3, 4), More: sealList(1, 7, 2, 8, 3, 9), Last: stampOf(1, 5), LastValue: 6},
		{Kind: impl.NtReady, From: 5, To: 0, Op: 8, Stamp: stampOf(1, 5), Value: 9},
		{Kind: impl.NtAm, From: 1, To: 5, Op: 8, Stamp: stamp, Value: 9, Cert: seal},
		{Kind: impl.NtWrite, From: 4, To: 3, Op: 9, Stamp: stamp, Value: 9, Cert: sealList(0, 1, 1, 2, 3, 4)},
		{Kind: impl.NtDone, From: 1, To: 4, Op: 9, Stamp: stamp, Value: 9, Cert: seal},
	}
	for _, n := range right {
		checkNote(t, "in numbers", noteGroup(), n, true)
	}
}

func TestKindsThatAreNone(t *testing.T) {
	g := noteGroup()
	for _, kind := range []int64{math.MinInt64, math.MinInt64 + 1, -6, -1, 0, 7, 8, math.MaxInt64 - 1, math.MaxInt64} {
		for _, like := range kindsOfNotes() {
			bare, full := bareNote(g, like), fullNote(g, like)
			bare.Kind, full.Kind = kind, kind
			checkNote(t, "no kind", g, bare, false)
			checkNote(t, "no kind", g, full, false)
			if impl.AnswerTo(bare) != 0 || impl.AnswerTo(full) != 0 {
				t.Errorf("the kind %d is answered", kind)
			}
		}
		checkNote(t, "no kind", g, impl.Note{Kind: kind}, false)
	}
	checkNote(t, "the zero note", g, impl.Note{}, false)
}

func TestNotesGoBetweenAClientAndAServer(t *testing.T) {
	nodes := []int64{math.MinInt64, math.MinInt64 + 4, -2, -1, math.MaxInt64 - 1, math.MaxInt64}
	for node := range int64(18) {
		nodes = append(nodes, node)
	}
	for _, g := range []impl.Group{noteGroup(), groupOf(1, 0, 1, 1), groupOf(10, 3, 6, 4), groupOf(5, 1, 6, 3)} {
		for _, kind := range kindsOfNotes() {
			for _, from := range nodes {
				for _, to := range nodes {
					n := fullNote(g, kind)
					n.From, n.To = from, to
					checkNote(t, "from and to", g, n, wantWay(g, kind, from, to))
				}
			}
		}
	}
}

func wantWay(g impl.Group, kind, from, to int64) bool {
	server := func(node int64) bool { return node >= 0 && node < g.Servers }
	client := func(node int64) bool { return node >= g.Servers && node < g.Servers+g.Clients }
	if byClient(kind) {
		return client(from) && server(to)
	}
	return server(from) && client(to)
}

func TestWrongWays(t *testing.T) {
	g := noteGroup()
	for _, kind := range kindsOfNotes() {
		right := fullNote(g, kind)
		for _, way := range [][2]int64{{right.To, right.From}, {0, 1}, {4, 5}, {right.From, right.From}, {right.To, right.To}, {6, right.To}, {right.From, 6}, {-1, right.To}, {right.From, -1}} {
			n := right
			n.From, n.To = way[0], way[1]
			checkNote(t, "a wrong way", g, n, false)
		}
	}
}

// eachKind sets one thing of a right note of each of the Kinds, and fails unless that alone decides.
func eachKind(t *testing.T, why string, kinds []int64, want bool, set func(n *impl.Note)) {
	t.Helper()
	g := noteGroup()
	for _, kind := range kinds {
		for _, n := range []impl.Note{fullNote(g, kind), bareNote(g, kind)} {
			set(&n)
			checkNote(t, why, g, n, want)
		}
	}
}

func TestOpsOfNotes(t *testing.T) {
	for _, op := range []int64{0, 1, impl.MaxOp - 1, impl.MaxOp} {
		eachKind(t, "an op", kindsOfNotes(), true, func(n *impl.Note) { n.Op = op })
	}
	for _, op := range []int64{math.MinInt64, -1, impl.MaxOp + 1, math.MaxInt64} {
		eachKind(t, "no op", kindsOfNotes(), false, func(n *impl.Note) { n.Op = op })
	}
}

func TestShelvesOfNotes(t *testing.T) {
	for shelves := int64(1); shelves <= impl.MaxShelves; shelves++ {
		g := groupOf(4, 1, 2, shelves)
		for _, kind := range kindsOfNotes() {
			for _, shelf := range []int64{math.MinInt64, -1, 0, 1, 2, 3, 4, 5, math.MaxInt64} {
				n := fullNote(g, kind)
				n.Shelf = shelf
				checkNote(t, "a shelf", g, n, shelf >= 0 && shelf < shelves)
			}
		}
	}
}

func TestStampsOfNotes(t *testing.T) {
	for _, s := range manyStamps() {
		eachKind(t, "Stamp", []int64{2, 3, 4, 5, 6}, wantStampOk(s), func(n *impl.Note) { n.Stamp = s })
		eachKind(t, "Old", []int64{3}, wantStampOk(s), func(n *impl.Note) { n.Old = s })
		eachKind(t, "Last", []int64{3}, wantStampOk(s), func(n *impl.Note) { n.Last = s })
	}
}

func TestValuesOfNotes(t *testing.T) {
	for _, value := range []int64{math.MinInt64, -1, 0, 1, 9998, 9999, 10000, math.MaxInt64} {
		want := value >= 0 && value <= 9999
		eachKind(t, "Value", []int64{2, 3, 4, 5, 6}, want, func(n *impl.Note) { n.Value = value })
		eachKind(t, "Was", []int64{3}, want, func(n *impl.Note) { n.Was = value })
		eachKind(t, "LastValue", []int64{3}, want, func(n *impl.Note) { n.LastValue = value })
	}
}

// Of NtAm and NtDone too: that the Cert is one Seal is what they tell, and is asked of them by who hears it (LsBad of chapter 13).
func TestHowManySealsOfNotes(t *testing.T) {
	for _, count := range []int{0, 1, 2, 19, 20, 21, 22, 300} {
		seals := make([]impl.Seal, count)
		for i := range seals {
			seals[i] = sealOf(int64(i%10), int64(i))
		}
		eachKind(t, "Cert", []int64{2, 3, 4, 5, 6}, count <= impl.MaxSeals, func(n *impl.Note) { n.Cert = seals })
		eachKind(t, "More", []int64{3}, count <= impl.MaxSeals, func(n *impl.Note) { n.More = seals })
	}
	// Each list has the limit for itself.
	eachKind(t, "Cert and More", []int64{3}, true, func(n *impl.Note) {
		n.Cert, n.More = make([]impl.Seal, impl.MaxSeals), make([]impl.Seal, impl.MaxSeals)
	})
}

// sealsAbout are at each limit of Who and Tag, and past it.
func sealsAbout() []impl.Seal {
	var list []impl.Seal
	for _, who := range []int64{math.MinInt64, -1, 0, 4, 9, 10, math.MaxInt64} {
		list = append(list, sealOf(who, 5))
	}
	for _, tag := range []int64{math.MinInt64, -1, 0, lastTag - 1, lastTag, lastTag + 1, math.MaxInt64} {
		list = append(list, sealOf(5, tag))
	}
	return append(list, sealOf(9, lastTag), sealOf(10, lastTag+1), sealOf(-1, -1))
}

func TestEachSealOfNotes(t *testing.T) {
	for _, s := range sealsAbout() {
		want := s.Who >= 0 && s.Who <= 9 && s.Tag >= 0 && s.Tag <= lastTag
		for _, count := range []int{1, 2, impl.MaxSeals} {
			for _, place := range []int{0, count / 2, count - 1} {
				seals := make([]impl.Seal, count)
				seals[place] = s
				eachKind(t, "Cert", []int64{2, 3, 4, 5, 6}, want, func(n *impl.Note) { n.Cert = seals })
				eachKind(t, "More", []int64{3}, want, func(n *impl.Note) { n.More = seals })
			}
		}
	}
}

// What is sent may be a lie: seals that are not right, of none of the servers, several of one, in any order.
func TestSealsOfNotesNeedNotBeRight(t *testing.T) {
	for _, seals := range [][]impl.Seal{sealList(9, 0), sealList(3, 1, 0, 2, 3, 1), {{}, {}, {}}} {
		eachKind(t, "Cert", []int64{2, 3, 4, 5, 6}, true, func(n *impl.Note) { n.Cert = seals })
		eachKind(t, "More", []int64{3}, true, func(n *impl.Note) { n.More = seals })
	}
}

func TestNotesInAWrongGroup(t *testing.T) {
	for _, g := range wrongGroups() {
		for _, kind := range kindsOfNotes() {
			for _, like := range []impl.Group{noteGroup(), g} {
				checkNote(t, "a wrong group", g, bareNote(like, kind), false)
				checkNote(t, "a wrong group", g, fullNote(like, kind), false)
			}
		}
	}
}

func TestWhatAKindHasNot(t *testing.T) {
	g := noteGroup()
	for _, field := range noteFields() {
		for _, kind := range kindsOfNotes() {
			bare, full := bareNote(g, kind), fullNote(g, kind)
			field.set(&bare)
			field.set(&full)
			checkNote(t, field.name, g, bare, slices.Contains(field.kinds, kind))
			checkNote(t, field.name, g, full, slices.Contains(field.kinds, kind))
		}
	}
}

// The least and the greatest of what is not zero, and what is right of no Kind.
func TestTheLeastThatAKindHasNot(t *testing.T) {
	past := []int64{1, 2, 4, 5, 6}
	for _, s := range []impl.Stamp{stampOf(1, 0), stampOf(1, 4), stampOf(100000, 15), stampOf(0, 4), stampOf(-1, 0)} {
		eachKind(t, "Stamp", []int64{1}, false, func(n *impl.Note) { n.Stamp = s })
		eachKind(t, "Old", past, false, func(n *impl.Note) { n.Old = s })
		eachKind(t, "Last", past, false, func(n *impl.Note) { n.Last = s })
	}
	for _, value := range []int64{1, 9999, 10000, -1, math.MinInt64, math.MaxInt64} {
		eachKind(t, "Value", []int64{1}, false, func(n *impl.Note) { n.Value = value })
		eachKind(t, "Was", past, false, func(n *impl.Note) { n.Was = value })
		eachKind(t, "LastValue", past, false, func(n *impl.Note) { n.LastValue = value })
	}
	for _, seals := range [][]impl.Seal{{{}}, sealList(1, 2), make([]impl.Seal, 20), make([]impl.Seal, 21)} {
		eachKind(t, "Cert", []int64{1}, false, func(n *impl.Note) { n.Cert = seals })
		eachKind(t, "More", past, false, func(n *impl.Note) { n.More = seals })
	}
}

func TestAnEmptyListIsNothing(t *testing.T) {
	room := sealList(-1, -1, 2, 3)
	for _, none := range [][]impl.Seal{nil, {}, make([]impl.Seal, 0, 4), room[:0]} {
		eachKind(t, "Cert", kindsOfNotes(), true, func(n *impl.Note) { n.Cert = none })
		eachKind(t, "Cert and More", kindsOfNotes(), true, func(n *impl.Note) { n.Cert, n.More = none, none })
	}
}

// manyNotes hands to use each of many notes, right and wrong in several things at once.
func manyNotes(use func(n impl.Note)) {
	lists := [][]impl.Seal{nil, {{}}, sealList(10, 0)}
	stamps := []impl.Stamp{{}, stampOf(2, 4), stampOf(0, 4)}
	ways := [][2]int64{{4, 0}, {0, 4}, {5, 3}, {3, 5}, {4, 5}, {0, 1}}
	for kind := range int64(8) {
		for _, way := range ways {
			for _, now := range stamps {
				for _, then := range stamps {
					for _, cert := range lists {
						for _, more := range lists {
							for bits := range int64(32) {
								n := impl.Note{Kind: kind, From: way[0], To: way[1], Stamp: now, Cert: cert, More: more, Old: then}
								n.Op, n.Shelf, n.Value, n.Was, n.LastValue = bits&1*100001, bits>>1&1*2, bits>>2&1, bits>>3&1, bits>>4&1
								use(n)
								n.Old, n.Last = impl.Stamp{}, then
								use(n)
							}
						}
					}
				}
			}
		}
	}
}

func TestManyNotes(t *testing.T) {
	g, right := noteGroup(), 0
	manyNotes(func(n impl.Note) {
		got := impl.NoteOk(g, n)
		if got != wantNoteOk(g, n) {
			t.Fatalf("NoteOk of %+v is %v", n, got)
		}
		if got {
			right++
		}
	})
	if right == 0 {
		t.Error("none of them is right")
	}
}

func TestAnswers(t *testing.T) {
	rows := [][2]int64{{impl.NtAsk, impl.NtTell}, {impl.NtTell, 0}, {impl.NtReady, impl.NtAm}, {impl.NtAm, 0}, {impl.NtWrite, impl.NtDone}, {impl.NtDone, 0}}
	for _, row := range rows {
		wrong := impl.Note{Kind: row[0], From: -1, To: 99, Op: -1, Shelf: 7, Value: -1, Was: 1, More: make([]impl.Seal, 21)}
		for _, n := range []impl.Note{bareNote(noteGroup(), row[0]), fullNote(noteGroup(), row[0]), {Kind: row[0]}, wrong} {
			if got := impl.AnswerTo(n); got != row[1] {
				t.Errorf("AnswerTo %+v is %d, not %d", n, got, row[1])
			}
		}
	}
	for _, kind := range []int64{math.MinInt64, math.MinInt64 + 1, -5, -3, -1, 0, 7, 9, math.MaxInt64} {
		if got := impl.AnswerTo(impl.Note{Kind: kind}); got != 0 {
			t.Errorf("AnswerTo the kind %d is %d", kind, got)
		}
	}
}

// What answers a note is of a kind that answers no other and that nothing is answered to; it goes back where the note came from.
func TestAnAnswerHasAKindOfItsOwn(t *testing.T) {
	g, answered := noteGroup(), map[int64]int64{}
	for _, kind := range kindsOfNotes() {
		n := fullNote(g, kind)
		answer := impl.AnswerTo(n)
		if answer == 0 {
			continue
		}
		if other, is := answered[answer]; is || answer == kind {
			t.Errorf("the kind %d answers %d and %d", answer, kind, other)
		}
		answered[answer] = kind
		back := impl.Note{Kind: answer, From: n.To, To: n.From, Op: n.Op, Shelf: n.Shelf}
		checkNote(t, "an answer", g, back, true)
		if impl.AnswerTo(back) != 0 {
			t.Errorf("the kind %d, which answers %d, is answered", answer, kind)
		}
		back.From, back.To = n.From, n.To
		checkNote(t, "an answer that goes the same way", g, back, false)
	}
	if len(answered) != 3 {
		t.Errorf("%d kinds are answered", len(answered))
	}
}

func TestNoteArgumentsStay(t *testing.T) {
	cert, more := append(sealList(3, 9, 0, 4, 3, 1), make([]impl.Seal, 19)...), sealList(2, 5, -1, 7, 2, 6, 11, lastTag+1)
	for _, kind := range append(kindsOfNotes(), 0, 7) {
		listStays(t, cert, func(cert []impl.Seal) {
			listStays(t, more, func(more []impl.Seal) {
				keysStay(t, func(g impl.Group) {
					n := bareNote(noteGroup(), kind)
					n.Cert, n.More = cert, more
					impl.NoteOk(g, n)
					impl.AnswerTo(n)
				})
			})
		})
	}
}
