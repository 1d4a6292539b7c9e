package tests

import (
	"math"
	"slices"
	"testing"

	"loop.example/g00695/impl"
)

// wantAnswer has the Note's Op and Shelf, and goes back to where it came from.
func wantAnswer(g impl.Group, node int64, reg impl.Reg, n impl.Note) impl.Note {
	a := impl.Note{Kind: n.Kind + 1, From: node, To: n.From, Op: n.Op, Shelf: n.Shelf, Stamp: n.Stamp, Value: n.Value}
	switch n.Kind {
	case 1:
		a.Stamp, a.Value, a.Cert = reg.Stamp, reg.Value, reg.Cert
	case 3:
		a.Cert = sealsOf(g, impl.Claim{Kind: 1, Shelf: n.Shelf, Stamp: n.Stamp, Value: n.Value}, node)
	case 5:
		a.Cert = sealsOf(g, impl.Claim{Kind: 2, Shelf: n.Shelf, Stamp: n.Stamp, Value: n.Value}, node)
	}
	return a
}

// wantDone is the Reg behind n, the record of it, and whether it may be done.
func wantDone(g impl.Group, reg impl.Reg, n impl.Note) (impl.Reg, impl.Rec, bool) {
	switch n.Kind {
	case 3:
		next, code := wantReadied(g, reg, n)
		return next, openRec(0, n.Shelf, impl.Open{Client: n.From, Stamp: n.Stamp, Value: n.Value}), code == 0
	case 5:
		next, is := wantWritten(g, reg, impl.Claim{Kind: 1, Shelf: n.Shelf, Stamp: n.Stamp, Value: n.Value}, n.Cert)
		return next, impl.Rec{Kind: 2, Shelf: n.Shelf, Stamp: n.Stamp, Value: n.Value, Cert: next.Cert}, is
	}
	return reg, impl.Rec{}, true
}

func wantHeard(g impl.Group, s impl.Server, n impl.Note) (impl.Server, int64) {
	if !wantServerOk(g, s) {
		return impl.Server{}, 1
	}
	if !wantNoteOk(g, n) || n.To != s.Node || n.Kind%2 == 0 {
		return s, 1
	}
	reg, rec, is := wantDone(g, s.Regs[n.Shelf], n)
	if !is {
		return s, 2
	}
	next := s
	if !sameReg(reg, s.Regs[n.Shelf]) {
		next.Journal, is = wantNoted(g, s.Journal, rec)
		next.Regs = slices.Clone(s.Regs)
		next.Regs[n.Shelf] = reg
	}
	if !is || len(s.Out) >= 40 {
		return s, 3
	}
	next.Out = append(slices.Clone(s.Out), wantAnswer(g, s.Node, reg, n))
	return next, 0
}

// checkHeard fails unless n is answered by that code, and the server is then as it must be.
func checkHeard(t *testing.T, why string, g impl.Group, s impl.Server, n impl.Note, want int64) impl.Server {
	t.Helper()
	wantNext, wantCode := wantHeard(g, s, n)
	if wantCode != want {
		t.Errorf("%s: the test itself is wrong about %+v heard by %+v: %d", why, n, s, wantCode)
	}
	got, code := impl.Heard(g, s, n)
	if !sameServer(got, wantNext) || code != want {
		t.Errorf("%s: %+v Heard by %+v makes %+v and %d, not %+v and %d", why, n, s, got, code, wantNext, want)
	}
	if want == impl.HdOk {
		heardTwice(t, why, g, got, n)
	}
	return got
}

// heardTwice fails unless n, which s has heard already, is answered, and nothing else is done.
func heardTwice(t *testing.T, why string, g impl.Group, s impl.Server, n impl.Note) {
	t.Helper()
	if !impl.ServerOk(g, s) {
		t.Errorf("%s: behind %+v it is not ServerOk: %+v", why, n, s)
	}
	again, code := impl.Heard(g, s, n)
	if len(s.Out) == impl.MaxOut {
		if code != impl.HdFull || !sameServer(again, s) {
			t.Errorf("%s: with Out full, %+v heard again makes %+v and %d of %+v", why, n, again, code, s)
		}
		return
	}
	if code != impl.HdOk || !sameServer(again, withOut(s, append(slices.Clone(s.Out), wantAnswer(g, s.Node, s.Regs[n.Shelf], n)))) {
		t.Errorf("%s: %+v heard again makes %+v and %d of %+v", why, n, again, code, s)
	}
}

func askNote(shelf int64) impl.Note {
	return impl.Note{Kind: impl.NtAsk, From: 5, To: 2, Op: 7, Shelf: shelf}
}

// writeNote asks the server 2 of readyGroup to write what c claims, by the Seals of those servers, in that order.
func writeNote(c impl.Claim, servers ...int64) impl.Note {
	return impl.Note{Kind: impl.NtWrite, From: 4, To: 2, Op: 9, Shelf: c.Shelf, Stamp: c.Stamp, Value: c.Value, Cert: sealsOf(readyGroup(), c, servers...)}
}

// toTwo is n, but to the server 2.
func toTwo(n impl.Note) impl.Note {
	n.To = 2
	return n
}

// requests are right Notes to the server 2 of readyGroup, of each kind that it may answer, not all of which it does.
func requests() []impl.Note {
	return []impl.Note{
		askNote(0), askNote(1), readyNote(), toTwo(firstNote(4, 0, 3)), toTwo(firstNote(6, 1, 0)),
		writeNote(claimOf(impl.ClReady, 1, 8, 4, 6), 3, 0, 1, 2), writeNote(claimOf(impl.ClReady, 0, 1, 4, 5), 1, 2, 3), writeNote(claimOf(impl.ClReady, 0, 2, 4, 5), 1, 2),
	}
}

// unheard fails unless n is answered by that code, and the server stays as it is.
func unheard(t *testing.T, why string, g impl.Group, s impl.Server, n impl.Note, want int64) {
	t.Helper()
	if got := checkHeard(t, why, g, s, n, want); !sameServer(got, s) {
		t.Errorf("%s: %+v makes %+v of %+v", why, n, got, s)
	}
}

// variedServers are the server 2 of readyGroup: fresh, busy, with Out full, with the Journal full, and with both full.
func variedServers() []impl.Server {
	full := serverOn(readyGroup(), 2, journalOf(390, manyRecs(400)))
	return []impl.Server{
		freshServer(readyGroup()), busyServer(), withOut(busyServer(), fullOut(2, 40)), full, withOut(full, fullOut(2, 40)),
	}
}

func TestWrongNotesAreNotHeard(t *testing.T) {
	g := readyGroup()
	for _, s := range variedServers()[:3] {
		for _, n := range requests() {
			for _, spoil := range wrongFields(g) {
				wrong := n
				spoil(&wrong)
				checkNote(t, "wrong", g, wrong, false)
				unheard(t, "wrong", g, s, wrong, impl.HdNote)
			}
		}
		for _, field := range noteFields() {
			n := askNote(0)
			field.set(&n)
			unheard(t, "more than NtAsk has", g, s, n, impl.HdNote)
		}
	}
	for _, s := range variedServers() {
		for _, n := range []impl.Note{{}, {Kind: impl.NtAsk, To: 2}, {Kind: impl.NtAsk, From: 3, To: 2}, {Kind: impl.NtAsk, From: 7, To: 2}, {Kind: impl.NtAsk, From: 5, To: 2, Shelf: 2}} {
			unheard(t, "wrong", g, s, n, impl.HdNote)
		}
	}
}

func TestNotesToOthersAreNotHeard(t *testing.T) {
	g := readyGroup()
	for _, s := range variedServers() {
		for _, n := range requests() {
			for _, node := range []int64{0, 1, 3} {
				n.To = node
				checkNote(t, "to another", g, n, true)
				unheard(t, "to another", g, s, n, impl.HdNote)
			}
			for _, node := range []int64{math.MinInt64, -2, -1, 4, 5, 6, 7, math.MaxInt64} {
				n.To = node
				unheard(t, "to no server", g, s, n, impl.HdNote)
			}
		}
	}
	// The same Note is heard by just the one to which it goes.
	for node := range g.Servers {
		for to := range g.Servers {
			n := askNote(1)
			n.To = to
			want := int64(impl.HdNote)
			if node == to {
				want = impl.HdOk
			}
			checkHeard(t, "to each", g, serverOn(g, node, journalOf(3, sixRecs())), n, want)
		}
	}
}

func TestKindsThatAServerDoesNotHear(t *testing.T) {
	g := readyGroup()
	for _, s := range variedServers() {
		for _, kind := range append(kindsOfNotes(), math.MinInt64, -5, -3, -1, 0, 7, 9, math.MaxInt64) {
			if kind == impl.NtAsk || kind == impl.NtReady || kind == impl.NtWrite {
				continue
			}
			for _, n := range []impl.Note{bareNote(g, kind), fullNote(g, kind), toTwo(bareNote(g, kind)), toTwo(fullNote(g, kind)), {Kind: kind, From: 2, To: 2}, {Kind: kind, From: 5, To: 2}} {
				unheard(t, "another kind", g, s, n, impl.HdNote)
			}
			for _, n := range requests() {
				n.Kind = kind
				unheard(t, "another kind", g, s, n, impl.HdNote)
			}
		}
	}
}

// readyServer is the server 2 of readyGroup that has that Reg on that shelf, and nothing on any other.
func readyServer(r impl.Reg, shelf int64) impl.Server {
	var list []impl.Rec
	for _, o := range r.Opens {
		list = append(list, openRec(0, shelf, o))
	}
	if r.Stamp != stampOf(0, 0) {
		list = append(list, impl.Rec{Kind: impl.RcWrite, Shelf: shelf, Stamp: r.Stamp, Value: r.Value, Cert: r.Cert})
	}
	return serverOn(readyGroup(), 2, journalOf(len(list)/2, numbered(list...)))
}

func TestWhatIsNotReadied(t *testing.T) {
	g := readyGroup()
	for _, list := range [][]hindrance{nextHindrances(), proofHindrances(), openHindrances()} {
		for _, h := range list {
			r, n := readyReg(), readyNote()
			h.make(&r, &n)
			for _, out := range [][]impl.Note{nil, fullOut(2, 5), fullOut(2, 40)} {
				s := withOut(readyServer(r, 1), out)
				if !sameReg(s.Regs[1], r) {
					t.Fatalf("the test itself is wrong: %+v has not %+v", s, r)
				}
				unheard(t, h.why, g, s, n, impl.HdNo)
			}
		}
	}
	for _, s := range variedServers() {
		next := readyNote()
		next.Stamp.Count++
		unheard(t, "not the next one", g, s, next, impl.HdNo)
	}
}

// unwritten are writes by Certs that do not prove them.
func unwritten() map[string]impl.Note {
	g := readyGroup()
	c := claimOf(impl.ClReady, 1, 9, 4, 6)
	zero, zeroValue, stamp, client, value, shelf, twice, wrong := writeNote(claimOf(1, 1, 0, 0, 0)), writeNote(claimOf(1, 1, 0, 0, 6), 0, 1, 2, 3), writeNote(c, 0, 1, 2),
		writeNote(c, 0, 1, 2), writeNote(c, 0, 1, 2), writeNote(c, 0, 1, 2), writeNote(c, 0, 1, 0, 1, 1), writeNote(c, 0, 1)
	stamp.Stamp.Count++
	client.Stamp.Client++
	value.Value++
	shelf.Shelf = 0
	wrong.Cert = append(wrong.Cert, sealOf(2, 5), sealOf(3, 5))
	wrote := writeNote(c)
	c.Kind = impl.ClWrote
	wrote.Cert = sealsOf(g, c, 0, 1, 2, 3)
	return map[string]impl.Note{
		"the zero Stamp": zero, "the zero Stamp and a value": zeroValue, "another Count": stamp, "another Client": client, "another value": value, "another shelf": shelf,
		"one server twice": twice, "wrong ones": wrong, "sealed as written": wrote, "no Cert": writeNote(claimOf(1, 1, 9, 4, 6)), "a Seal too few": writeNote(claimOf(1, 1, 9, 4, 6), 1, 3),
		"older, and not proven": writeNote(claimOf(1, 1, 1, 4, 6), 1, 3), "there already, and not proven": writeNote(claimOf(1, 1, 100000, 15, 9999), 1, 3),
	}
}

func TestWhatIsNotWritten(t *testing.T) {
	g := readyGroup()
	for why, n := range unwritten() {
		checkNote(t, why, g, n, true)
		for _, s := range variedServers() {
			unheard(t, why, g, s, n, impl.HdNo)
		}
	}
}

// heard fails unless n is done, by that record or, where there is none, without one, and answered as it must be.
func heard(t *testing.T, why string, g impl.Group, s impl.Server, n impl.Note, recs []impl.Rec, reg impl.Reg, answer impl.Note) impl.Server {
	t.Helper()
	got := checkHeard(t, why, g, s, n, impl.HdOk)
	want := serverCopy(s)
	want.Regs[n.Shelf] = reg
	want.Journal.Loose = append(want.Journal.Loose, recs...)
	want.Out = append(want.Out, answer)
	if !sameServer(got, want) {
		t.Errorf("%s: %+v makes %+v of %+v, not %+v", why, n, got, s, want)
	}
	return got
}

// someServers are such as can hear more, with something or nothing in each list.
func someServers() []impl.Server {
	list := []impl.Server{freshServer(readyGroup()), busyServer(), withOut(busyServer(), fullOut(2, 38))}
	for kept := range 7 {
		list = append(list, serverOn(readyGroup(), 2, journalOf(kept, sixRecs()), fullOut(2, kept)...))
	}
	return append(list, serverOn(readyGroup(), 2, journalOf(3, manyRecs(9))))
}

func TestWhatIsToldToWhoAsks(t *testing.T) {
	g := readyGroup()
	for _, s := range someServers() {
		for _, from := range []int64{4, 5, 6} {
			for _, shelf := range []int64{0, 1} {
				for _, op := range []int64{0, 1, 100000} {
					n := impl.Note{Kind: impl.NtAsk, From: from, To: 2, Op: op, Shelf: shelf}
					r := s.Regs[shelf]
					heard(t, "asked", g, s, n, nil, r, impl.Note{Kind: impl.NtTell, From: 2, To: from, Op: op, Shelf: shelf, Stamp: r.Stamp, Value: r.Value, Cert: r.Cert})
				}
			}
		}
	}
}

// amNote is what the server 2 of readyGroup answers once it is ready for n.
func amNote(n impl.Note) impl.Note {
	c := impl.Claim{Kind: impl.ClReady, Shelf: n.Shelf, Stamp: n.Stamp, Value: n.Value}
	return impl.Note{Kind: impl.NtAm, From: 2, To: n.From, Op: n.Op, Shelf: n.Shelf, Stamp: n.Stamp, Value: n.Value, Cert: sealsOf(readyGroup(), c, 2)}
}

// doneNote is what it answers once it has what n writes, or a newer one.
func doneNote(n impl.Note) impl.Note {
	c := impl.Claim{Kind: impl.ClWrote, Shelf: n.Shelf, Stamp: n.Stamp, Value: n.Value}
	return impl.Note{Kind: impl.NtDone, From: 2, To: n.From, Op: n.Op, Shelf: n.Shelf, Stamp: n.Stamp, Value: n.Value, Cert: sealsOf(readyGroup(), c, 2)}
}

func nextNo(s impl.Server) int64 { return int64(len(allOf(s.Journal))) + 1 }

func TestWhatIsReadied(t *testing.T) {
	g := readyGroup()
	for _, s := range someServers() {
		for _, from := range []int64{4, 5, 6} {
			for _, shelf := range []int64{0, 1} {
				old := claimOf(impl.ClReady, shelf, 50, 4, 9)
				o := openOf(from, 51, 7)
				n := impl.Note{Kind: impl.NtReady, From: from, To: 2, Op: 11, Shelf: shelf, Stamp: o.Stamp, Value: 7, Old: old.Stamp, Was: 9, Cert: sealsOf(g, old, 0, 1, 3)}
				n = wrote(g, n, stampOf(50, from), 3, 1, 2, 3)
				if open, is := impl.OpenOf(s.Regs[shelf], from); is && open.Stamp.Count > 51 {
					unheard(t, "newer is open", g, s, n, impl.HdNo)
					continue
				}
				list := wantWithOpen(s.Regs[shelf].Opens, o)
				next := heard(t, "readied", g, s, n, []impl.Rec{openRec(nextNo(s), shelf, o)}, withOpens(s.Regs[shelf], list), amNote(n))
				// Once more, by another Note, too, that asks for the same: nothing is noted.
				n.Op, n.Last, n.LastValue, n.More = 12, impl.Stamp{}, 0, nil
				next = heard(t, "readied already", g, next, n, nil, next.Regs[shelf], amNote(n))
				n.Value = 8
				unheard(t, "another value", g, next, n, impl.HdNo)
			}
		}
	}
}

// What is open already must be asked for as what is not must be.
func TestWhatIsOpenAlreadyNeedsItsProof(t *testing.T) {
	g, s := readyGroup(), busyServer()
	n := readyNote()
	if !impl.SameOpen(s.Regs[1], n) {
		t.Fatal("the test itself is wrong")
	}
	heard(t, "open already", g, s, n, nil, s.Regs[1], amNote(n))
	n.Cert = n.Cert[:2]
	unheard(t, "open already, and not proven", g, s, n, impl.HdNo)
	n = readyNote()
	n.Old.Count--
	unheard(t, "open already, and not next", g, s, n, impl.HdNo)
}

func TestWhatIsWritten(t *testing.T) {
	g := readyGroup()
	for _, s := range someServers() {
		for _, stamp := range []impl.Stamp{stampOf(60, 4), stampOf(61, 0), stampOf(62, 15), stampOf(100000, 15)} {
			for _, shelf := range []int64{0, 1} {
				for _, servers := range [][]int64{{0, 1, 2}, {3, 2, 1, 0}, {1, 3, 1, 0, 3}} {
					c := impl.Claim{Kind: impl.ClReady, Shelf: shelf, Stamp: stamp, Value: 5}
					n := writeNote(c, servers...)
					n.Cert = append(n.Cert, sealOf(2, 5), sealOf(9, 0))
					if wantCmpStamp(stamp, s.Regs[shelf].Stamp) != 1 {
						heard(t, "older", g, s, n, nil, s.Regs[shelf], doneNote(n))
						continue
					}
					// A right Seal stays only where no wrong one stands in its place.
					good := slices.Compact(slices.Sorted(slices.Values(servers)))
					rec := writeRec(g, nextNo(s), c, good...)
					next := heard(t, "written", g, s, n, []impl.Rec{rec}, withOpens(regOf(g, c, good...), s.Regs[shelf].Opens), doneNote(n))
					n.Cert = sealsOf(g, c, 0, 1, 2, 3)
					heard(t, "written by more", g, next, n, nil, next.Regs[shelf], doneNote(n))
				}
			}
		}
	}
}

// It has a newer one, or just that one: it says so of the Stamp and the Value that it was asked for.
func TestWritesThatLeaveTheReg(t *testing.T) {
	g, s := readyGroup(), busyServer()
	s.Journal.Loose = append(s.Journal.Loose, writeRec(g, 7, claimOf(impl.ClReady, 0, 5, 5, 5), 0, 1, 2))
	s = serverOn(g, 2, s.Journal, s.Out...)
	for _, c := range []impl.Claim{
		claimOf(1, 0, 5, 5, 5), claimOf(1, 0, 5, 5, 4), claimOf(1, 0, 5, 5, 6), claimOf(1, 0, 5, 4, 5), claimOf(1, 0, 5, 0, 5), claimOf(1, 0, 4, 15, 5), claimOf(1, 0, 1, 0, 0),
		claimOf(1, 1, 100000, 15, 9999), claimOf(1, 1, 100000, 15, 0), claimOf(1, 1, 100000, 14, 9999), claimOf(1, 1, 99999, 15, 9999), claimOf(1, 1, 7, 5, 8),
	} {
		for _, servers := range [][]int64{{0, 1, 2}, {1, 2, 3}, {3, 2, 1, 0}} {
			n := writeNote(c, servers...)
			heard(t, "nothing newer", g, s, n, nil, s.Regs[c.Shelf], doneNote(n))
		}
	}
	newer := claimOf(impl.ClReady, 0, 5, 6, 5)
	heard(t, "newer", g, s, writeNote(newer, 0, 1, 2), []impl.Rec{writeRec(g, 8, newer, 0, 1, 2)}, withOpens(regOf(g, newer, 0, 1, 2), s.Regs[0].Opens), doneNote(writeNote(newer)))
}

func TestHeardWithOutFull(t *testing.T) {
	g := readyGroup()
	new, write := toTwo(firstNote(5, 0, 3)), writeNote(claimOf(impl.ClReady, 0, 3, 4, 6), 0, 1, 2)
	done := []impl.Note{askNote(0), askNote(1), readyNote(), new, write, writeNote(claimOf(impl.ClReady, 1, 7, 5, 8), 0, 1, 2)}
	for _, n := range done {
		for _, count := range []int{0, 1, 38, 39} {
			got := checkHeard(t, "room to answer", g, withOut(busyServer(), fullOut(2, count)), n, impl.HdOk)
			if len(got.Out) != count+1 || !sameNotes(got.Out[:count], fullOut(2, count)) {
				t.Errorf("behind %d Notes there stand %+v", count, got.Out)
			}
		}
		unheard(t, "no room to answer", g, withOut(busyServer(), fullOut(2, 40)), n, impl.HdFull)
	}
	// It is named behind the others.
	full := withOut(busyServer(), fullOut(2, 40))
	unheard(t, "to another, and no room", g, full, impl.Note{Kind: impl.NtAsk, From: 5, To: 1}, impl.HdNote)
	other := readyNote()
	other.Value = 9
	unheard(t, "another value, and no room", g, full, other, impl.HdNo)
	unheard(t, "not proven, and no room", g, full, writeNote(claimOf(impl.ClReady, 0, 3, 4, 6), 0, 1), impl.HdNo)
	// What is flushed makes room.
	flushed, _ := impl.Flushed(g, full)
	for _, n := range done {
		checkHeard(t, "room again", g, flushed, n, impl.HdOk)
	}
}

func TestHeardWithTheJournalFull(t *testing.T) {
	g, list := readyGroup(), manyRecs(400)
	newer := writeNote(claimOf(impl.ClReady, 0, 500, 5, 400), 0, 1, 2)
	older := writeNote(claimOf(impl.ClReady, 0, 4, 5, 4), 0, 1, 2)
	unproven := writeNote(claimOf(impl.ClReady, 0, 500, 5, 400), 0, 1)
	for _, kept := range []int{0, 200, 400} {
		s := serverOn(g, 2, journalOf(kept, list))
		o, is := impl.OpenOf(s.Regs[1], 5)
		if !is {
			t.Fatal("the test itself is wrong: nothing is open")
		}
		same := impl.Note{Kind: impl.NtReady, From: 5, To: 2, Op: 3, Shelf: 1, Stamp: o.Stamp, Value: o.Value}
		same = afterNote(same, stampOf(o.Stamp.Count-1, 4))
		next := wrote(g, same, o.Stamp, o.Value, 0, 1, 2)
		next.Stamp.Count++
		next = afterNote(next, o.Stamp)
		heard(t, "asked", g, s, askNote(1), nil, s.Regs[1], wantAnswer(g, 2, s.Regs[1], askNote(1)))
		heard(t, "open already", g, s, same, nil, s.Regs[1], amNote(same))
		heard(t, "an older one", g, s, older, nil, s.Regs[0], doneNote(older))
		unheard(t, "not open yet", g, s, next, impl.HdFull)
		unheard(t, "a newer one", g, s, newer, impl.HdFull)
		// It is named behind the others.
		unheard(t, "not proven", g, s, unproven, impl.HdNo)
		same.Value++
		unheard(t, "another value", g, s, same, impl.HdNo)
		same.Value--
		s.Out = fullOut(2, 40)
		for _, n := range []impl.Note{askNote(1), same, older, next, newer} {
			unheard(t, "both full", g, s, n, impl.HdFull)
		}
		// With one record less there is room for one.
		s = serverOn(g, 2, journalOf(min(kept, 399), list[:399]))
		got := checkHeard(t, "the last one", g, s, newer, impl.HdOk)
		unheard(t, "one too many", g, withOut(got, nil), next, impl.HdFull)
		if len(allOf(got.Journal)) != 400 {
			t.Errorf("the Journal has %d records", len(allOf(got.Journal)))
		}
	}
}

// The limit is that of the Journal and not of a shelf, so that what is kept counts too.
func TestSyncedRecordsCountToo(t *testing.T) {
	g := readyGroup()
	s, _ := impl.Flushed(g, serverOn(g, 2, journalOf(0, manyRecs(400)), fullOut(2, 3)...))
	unheard(t, "all are kept", g, s, writeNote(claimOf(impl.ClReady, 0, 500, 5, 3), 0, 1, 2), impl.HdFull)
	s = impl.Fallen(g, serverOn(g, 2, journalOf(200, manyRecs(400))), []bool{false, true})
	checkHeard(t, "most are lost", g, s, writeNote(claimOf(impl.ClReady, 0, 500, 5, 3), 0, 1, 2), impl.HdOk)
}

func TestHeardInEveryGroup(t *testing.T) {
	for _, g := range rightGroups() {
		node, client, shelf := g.Servers-1, g.Servers+g.Clients-1, g.Shelves-1
		s, _ := impl.NewServer(g, node)
		c := claimOf(impl.ClReady, shelf, 1, client, 9)
		quorum := (g.Servers+g.Liars)/2 + 1
		ready := impl.Note{Kind: impl.NtReady, From: client, To: node, Op: 2, Shelf: shelf, Stamp: c.Stamp, Value: 9}
		few := impl.Note{Kind: impl.NtWrite, From: client, To: node, Op: 3, Shelf: shelf, Stamp: c.Stamp, Value: 9, Cert: sealsOf(g, c, upTo(quorum-1)...)}
		write := few
		write.Cert = sealsOf(g, c, upTo(quorum)...)
		s = checkHeard(t, "ready", g, s, ready, impl.HdOk)
		s = checkHeard(t, "by too few", g, s, few, impl.HdNo)
		s = checkHeard(t, "by enough", g, s, write, impl.HdOk)
		s = checkHeard(t, "asked", g, s, impl.Note{Kind: impl.NtAsk, From: client, To: node, Op: 4, Shelf: shelf}, impl.HdOk)
		if len(s.Out) != 3 || s.Out[2].Stamp != c.Stamp || s.Out[2].Value != 9 || len(s.Journal.Loose) != 2 {
			t.Fatalf("in %+v it is %+v", g, s)
		}
		past := impl.Note{Kind: impl.NtAsk, From: client, To: node, Shelf: g.Shelves}
		checkHeard(t, "past the last shelf", g, s, past, impl.HdNote)
		past.Shelf, past.From = 0, client+1
		checkHeard(t, "past the last client", g, s, past, impl.HdNote)
	}
}

func TestManyHeard(t *testing.T) {
	g, seen := readyGroup(), map[int64]int{}
	servers := []impl.Server{freshServer(g), readyServer(readyReg(5, 2, 8), 1), withOut(readyServer(readyReg(4, 3, 8, 5, 3, 8), 1), fullOut(2, 40)), readyServer(impl.Reg{Opens: openList(5, 3, 8)}, 0)}
	manyReadyNotes(func(n impl.Note) {
		if n.Kind == impl.NtWrite {
			// A right write has nothing past; what proves its old Stamp proves this one.
			n = impl.Note{Kind: n.Kind, From: n.From, Shelf: n.Shelf, Stamp: n.Old, Value: n.Was, Cert: n.Cert}
		}
		for i, s := range servers {
			n.To = 2 - int64(i/3)*n.Value%2
			got, code := impl.Heard(g, s, n)
			want, wantCode := wantHeard(g, s, n)
			if code != wantCode || !sameServer(got, want) {
				t.Fatalf("%+v Heard by %+v makes %+v and %d, not %+v and %d", n, s, got, code, want, wantCode)
			}
			seen[code]++
		}
	})
	for code := range int64(4) {
		if seen[code] == 0 {
			t.Errorf("none of them has the code %d: %v", code, seen)
		}
	}
}
