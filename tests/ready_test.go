package tests

import (
	"math"
	"slices"
	"testing"

	"loop.example/g00695/impl"
)

// readyGroup has a client on either side of 5, which asks in most of these tests.
func readyGroup() impl.Group { return groupOf(4, 1, 3, 2) }

// readyNote is a right one for the value 8 on the shelf 1, behind the 9 of the client 4; of what 5 wrote itself it tells nothing.
func readyNote() impl.Note {
	old := claimOf(impl.ClReady, 1, 6, 4, 9)
	return impl.Note{
		Kind: impl.NtReady, From: 5, To: 2, Op: 7, Shelf: 1, Stamp: stampOf(7, 5), Value: 8,
		Old: old.Stamp, Was: old.Value, Cert: sealsOf(readyGroup(), old, 3, 0, 1),
	}
}

// firstNote is for the first Stamp of that client, ahead of which nothing need be proven.
func firstNote(client, shelf, value int64) impl.Note {
	return impl.Note{Kind: impl.NtReady, From: client, Shelf: shelf, Stamp: stampOf(1, client), Value: value}
}

// wrote is n, and tells, too, that those servers have what was written last.
func wrote(g impl.Group, n impl.Note, last impl.Stamp, value int64, servers ...int64) impl.Note {
	n.Last, n.LastValue = last, value
	n.More = sealsOf(g, wroteOf(n), servers...)
	return n
}

func wroteOf(n impl.Note) impl.Claim {
	return impl.Claim{Kind: impl.ClWrote, Shelf: n.Shelf, Stamp: n.Last, Value: n.LastValue}
}

// readyReg has something written on the shelf 1 of readyGroup; each three numbers are an Open.
func readyReg(numbers ...int64) impl.Reg {
	return withOpens(regOf(readyGroup(), claimOf(impl.ClReady, 1, 5, 4, 3), 0, 2, 3), openList(numbers...))
}

func wantCert(g impl.Group, c impl.Claim, list []impl.Seal) bool {
	return wantGroupOk(g) && wantClaimOk(c) && len(list) <= 20 && wantQuorum(g, rightServers(g, c, list))
}

func wantProven(g impl.Group, n impl.Note) bool {
	if !wantGroupOk(g) || n.Shelf < 0 || n.Shelf >= g.Shelves {
		return false
	}
	old := impl.Claim{Kind: impl.ClReady, Shelf: n.Shelf, Stamp: n.Old, Value: n.Was}
	return n.Old == stampOf(0, 0) && n.Was == 0 || wantCert(g, old, n.Cert)
}

func wantNext(n impl.Note) bool {
	return wantStampOk(n.Old) && wantStampOk(n.Stamp) && n.Stamp.Count-n.Old.Count == 1 && n.Stamp.Client == n.From
}

// wantFree asks of the first Open of From alone.
func wantFree(g impl.Group, r impl.Reg, n impl.Note) bool {
	i := slices.IndexFunc(r.Opens, func(o impl.Open) bool { return o.Client == n.From })
	if i < 0 {
		return true
	}
	switch o := r.Opens[i]; wantCmpStamp(n.Stamp, o.Stamp) {
	case 0:
		return o.Value == n.Value
	case 1:
		return n.Last.Client == n.From && wantCmpStamp(n.Last, o.Stamp) != -1 && wantCert(g, wroteOf(n), n.More)
	}
	return false
}

// wantCodes are all that apply, rising, each asked for by itself.
func wantCodes(g impl.Group, r impl.Reg, n impl.Note) []int64 {
	holds := []bool{n.Kind == 3 && wantNoteOk(g, n) && wantRegOk(g, n.Shelf, r), wantNext(n), wantProven(g, n), wantFree(g, r, n)}
	var codes []int64
	for i, is := range holds {
		if !is {
			codes = append(codes, int64(i)+1)
		}
	}
	return codes
}

func wantReadied(g impl.Group, r impl.Reg, n impl.Note) (impl.Reg, int64) {
	isRight := func(shelf int64) bool { return wantRegOk(g, shelf, r) }
	if !slices.ContainsFunc(upTo(impl.MaxShelves), isRight) {
		return impl.Reg{}, 1
	}
	if codes := wantCodes(g, r, n); len(codes) > 0 {
		return r, codes[0]
	}
	return withOpens(r, wantWithOpen(r.Opens, impl.Open{Client: n.From, Stamp: n.Stamp, Value: n.Value})), 0
}

// checkReady fails unless n is answered by that code, and r is then as it must be.
func checkReady(t *testing.T, why string, g impl.Group, r impl.Reg, n impl.Note, want int64) impl.Reg {
	t.Helper()
	if code := impl.CodeReady(g, r, n); code != want {
		t.Errorf("%s: CodeReady of %+v on %+v is %d, not %d", why, n, r, code, want)
	}
	wantReg, wantCode := wantReadied(g, r, n)
	if wantCode != want {
		t.Errorf("%s: the test itself is wrong about %+v on %+v", why, n, r)
	}
	got, code := impl.Readied(g, r, n)
	if !sameReg(got, wantReg) || code != want {
		t.Errorf("%s: Readied of %+v on %+v is %+v and %d, not %+v and %d", why, n, r, got, code, wantReg, want)
	}
	if want == impl.RdOk {
		readyAlone(t, why, g, got, n)
	}
	return got
}

// readyAlone fails unless r is ready for n, for no other value at its Stamp, and for nothing older.
func readyAlone(t *testing.T, why string, g impl.Group, r impl.Reg, n impl.Note) {
	t.Helper()
	checkReg(t, why, g, n.Shelf, r, true)
	if !impl.SameOpen(r, n) {
		t.Errorf("%s: %+v is not open for %+v", why, r, n)
	}
	readyStays(t, why+", once more", g, r, n, impl.RdOk)
	other := n
	other.Value = (n.Value + 1) % (impl.MaxValue + 1)
	readyStays(t, why+", then another value", g, r, other, impl.RdOpen)
	if n.Stamp.Count > 1 {
		older := firstNote(n.From, n.Shelf, n.Value)
		readyStays(t, why+", then an older one", g, r, older, impl.RdOpen)
		older = wrote(g, older, n.Stamp, n.Value, upTo(g.Servers)...)
		readyStays(t, why+", then an older one, though it is written", g, r, older, impl.RdOpen)
	}
}

// readyStays fails unless n is answered by that code, and r stays as it is.
func readyStays(t *testing.T, why string, g impl.Group, r impl.Reg, n impl.Note, want int64) {
	t.Helper()
	if got, code := impl.Readied(g, r, n); code != want || !sameReg(got, r) || impl.CodeReady(g, r, n) != want {
		t.Errorf("%s: %+v makes %+v and %d of %+v", why, n, got, code, r)
	}
}

// zeroReadied fails unless the zero Reg and RdNote are answered.
func zeroReadied(t *testing.T, why string, g impl.Group, r impl.Reg, n impl.Note) {
	t.Helper()
	if got := checkReady(t, why, g, r, n, impl.RdNote); !sameReg(got, impl.Reg{}) {
		t.Errorf("%s: Readied on %+v is %+v", why, r, got)
	}
}

func TestConstantsOfReady(t *testing.T) {
	if !slices.Equal([]int64{impl.RdOk, impl.RdNote, impl.RdNext, impl.RdProof, impl.RdOpen}, []int64{0, 1, 2, 3, 4}) {
		t.Error("a constant of being ready is not the document's")
	}
}

func TestReadyInNumbers(t *testing.T) {
	g := impl.Group{Servers: 4, Liars: 1, Clients: 2, Shelves: 2, Keys: []int64{11, 22, 33, 44, 55, 66}}
	n := impl.Note{
		Kind: impl.NtReady, From: 5, To: 3, Op: 2, Shelf: 1, Stamp: stampOf(4, 5), Value: 7,
		Old: stampOf(3, 4), Was: 6, Cert: sealsOf(g, claimOf(impl.ClReady, 1, 3, 4, 6), 0, 2, 3),
		Last: stampOf(2, 5), LastValue: 5, More: sealsOf(g, claimOf(impl.ClWrote, 1, 2, 5, 5), 1, 3, 2),
	}
	r := regOf(g, claimOf(impl.ClReady, 1, 1, 4, 9), 0, 1, 2)
	got, code := impl.Readied(g, withOpens(r, openList(4, 3, 6, 5, 2, 5)), n)
	if want := withOpens(r, openList(4, 3, 6, 5, 4, 7)); code != 0 || !sameReg(got, want) {
		t.Errorf("Readied is %+v and %d, not %+v", got, code, want)
	}
	got, code = impl.Readied(g, withOpens(r, openList(4, 3, 6, 5, 3, 5)), n)
	if want := withOpens(r, openList(4, 3, 6, 5, 3, 5)); code != 4 || !sameReg(got, want) {
		t.Errorf("Readied is %+v and %d, not %+v", got, code, want)
	}
}

func TestReadyInEveryGroup(t *testing.T) {
	for _, g := range rightGroups() {
		quorum, shelf := impl.QuorumOf(g), g.Shelves-1
		client := g.Servers + g.Clients - 1
		checkReady(t, "the first one", g, impl.Reg{}, firstNote(g.Servers, 0, 9), impl.RdOk)
		checkReady(t, "the first one, on the last shelf", g, impl.Reg{}, firstNote(client, shelf, 9), impl.RdOk)
		checkReady(t, "past the last shelf", g, impl.Reg{}, firstNote(client, g.Shelves, 9), impl.RdNote)
		checkReady(t, "past the last client", g, impl.Reg{}, firstNote(client+1, 0, 9), impl.RdNote)
		checkReady(t, "of a server", g, impl.Reg{}, firstNote(g.Servers-1, 0, 9), impl.RdNote)
		old := claimOf(impl.ClReady, shelf, 2, 15, 6)
		n := impl.Note{Kind: impl.NtReady, From: client, Shelf: shelf, Stamp: stampOf(3, client), Old: old.Stamp, Was: 6}
		n.Cert = sealsOf(g, old, upTo(quorum-1)...)
		checkReady(t, "not proven", g, impl.Reg{}, n, impl.RdProof)
		n.Cert = sealsOf(g, old, upTo(quorum)...)
		checkReady(t, "proven", g, impl.Reg{}, n, impl.RdOk)
		r := impl.Reg{Opens: openList(client, 2, 6)}
		last := r.Opens[0].Stamp
		checkReady(t, "not closed", g, r, wrote(g, n, last, 6, upTo(quorum-1)...), impl.RdOpen)
		checkReady(t, "closed", g, r, wrote(g, n, last, 6, upTo(quorum)...), impl.RdOk)
	}
}

func TestKindsThatAskForNothing(t *testing.T) {
	g := readyGroup()
	for _, kind := range append(kindsOfNotes(), math.MinInt64, -3, 0, 7, math.MaxInt64) {
		if kind == impl.NtReady {
			continue
		}
		like := readyNote()
		like.Kind = kind
		first := firstNote(5, 1, 8)
		first.Kind = kind
		for _, n := range []impl.Note{like, first, bareNote(g, kind), fullNote(g, kind)} {
			checkReady(t, "another kind", g, impl.Reg{}, n, impl.RdNote)
			checkReady(t, "another kind", g, readyReg(4, 1, 1, 5, 1, 2), n, impl.RdNote)
		}
	}
	// But for its Kind this one is as it must be.
	n := firstNote(5, 1, 8)
	checkReady(t, "its own kind", g, readyReg(), n, impl.RdOk)
	n.Kind = impl.NtWrite
	checkNote(t, "another kind", g, n, true)
	checkReady(t, "another kind", g, readyReg(), n, impl.RdNote)
}

func TestNotesThatAreNotRightAskForNothing(t *testing.T) {
	g := readyGroup()
	wrong := append(wrongFields(g),
		func(n *impl.Note) { n.To = 4 }, func(n *impl.Note) { n.Op = -1 }, func(n *impl.Note) { n.Shelf = -1 },
		func(n *impl.Note) { n.Value = 10000 }, func(n *impl.Note) { n.Value = -1 }, func(n *impl.Note) { n.Was = 10000 }, func(n *impl.Note) { n.LastValue = -1 },
		func(n *impl.Note) { n.Stamp.Count = math.MaxInt64 }, func(n *impl.Note) { n.Old.Count = math.MaxInt64 }, func(n *impl.Note) { n.Old = stampOf(0, 4) },
		func(n *impl.Note) { n.Old.Count = math.MinInt64 }, func(n *impl.Note) { n.Old.Client = 16 }, func(n *impl.Note) { n.Last.Client = 16 },
		func(n *impl.Note) { n.More = sealList(-1, 0) }, func(n *impl.Note) { n.More = append(n.More, sealOf(1, lastTag+1)) }, func(n *impl.Note) { n.From = 3 },
	)
	for _, spoil := range wrong {
		n := wrote(g, readyNote(), stampOf(5, 5), 2, 0, 1, 2)
		checkReady(t, "a right note", g, readyReg(5, 5, 2), n, impl.RdOk)
		spoil(&n)
		checkNote(t, "a wrong note", g, n, false)
		for _, r := range []impl.Reg{{}, readyReg(), readyReg(5, 5, 2), readyReg(4, 1, 1, 5, 9, 2, 6, 1, 1)} {
			checkReady(t, "a wrong note", g, r, n, impl.RdNote)
		}
	}
	checkReady(t, "the zero note", g, readyReg(4, 1, 1), impl.Note{}, impl.RdNote)
}

func TestNotesAtTheLimitsAskForSomething(t *testing.T) {
	g := wideGroup()
	old := claimOf(impl.ClReady, 3, 99999, 15, 9999)
	n := impl.Note{
		Kind: impl.NtReady, From: 15, To: 9, Op: 100000, Shelf: 3, Stamp: stampOf(100000, 15), Value: 9999,
		Old: old.Stamp, Was: 9999, Cert: append(make([]impl.Seal, 13), sealsOf(g, old, 9, 8, 7, 6, 5, 4, 3)...),
	}
	n = wrote(g, n, stampOf(100000, 15), 9999, 9, 8, 7, 6, 5, 4, 3)
	n.More = append(make([]impl.Seal, 13), n.More...)
	checkReady(t, "all at the limits", g, impl.Reg{}, n, impl.RdOk)
	checkReady(t, "all at the limits", g, impl.Reg{Opens: openList(10, 1, 1, 15, 99999, 7)}, n, impl.RdOk)
	cert, more := n, n
	cert.Cert, more.More = append(cert.Cert[:20:20], cert.Cert[19]), append(more.More[:20:20], more.More[19])
	checkReady(t, "Cert past its limit", g, impl.Reg{}, cert, impl.RdNote)
	checkReady(t, "More past its limit", g, impl.Reg{}, more, impl.RdNote)
}

func TestRegsOfAnotherShelfAreNotReady(t *testing.T) {
	g, n := readyGroup(), readyNote()
	r := withOpens(regOf(g, claimOf(impl.ClReady, 0, 5, 4, 3), 0, 2, 3), openList(4, 1, 1, 5, 1, 2))
	checkReg(t, "its own shelf", g, 0, r, true)
	if got := checkReady(t, "another shelf", g, r, n, impl.RdNote); !sameReg(got, r) {
		t.Errorf("a Reg of another shelf is answered as %+v", got)
	}
	other := firstNote(6, 0, 8)
	checkReady(t, "its own shelf", g, r, other, impl.RdOk)
	checkReady(t, "another shelf", g, readyReg(4, 1, 1), other, impl.RdNote)
	// Where nothing is written, a Reg is right on each shelf.
	r = impl.Reg{Opens: openList(4, 1, 1)}
	checkReady(t, "nothing is written", g, r, n, impl.RdOk)
	checkReady(t, "nothing is written", g, r, other, impl.RdOk)
}

// wrongRegs are right on no shelf of readyGroup.
func wrongRegs() []impl.Reg {
	g := readyGroup()
	order, twice, short, value := readyReg(), readyReg(), readyReg(), readyReg(5, 1, 1)
	slices.Reverse(order.Cert)
	twice.Cert = append(twice.Cert, twice.Cert[2])
	short.Cert = short.Cert[:2]
	value.Value = 4
	return []impl.Reg{
		order, twice, short, value, readyReg(5, 1, 1, 4, 1, 1), readyReg(5, 1, 1, 5, 1, 1), readyReg(3, 1, 1), readyReg(7, 1, 1), readyReg(5, 1, 10000), readyReg(5, 0, 1),
		regOf(g, claimOf(impl.ClReady, 2, 5, 4, 3), 0, 1, 2), regOf(g, claimOf(impl.ClWrote, 1, 5, 4, 3), 0, 1, 2), regOf(g, claimOf(impl.ClReady, 1, 0, 0, 3), 0, 1, 2),
		{Value: 1}, {Cert: sealList(0, 0)}, {Stamp: stampOf(1, 4)}, {Stamp: stampOf(-1, -1)}, {Opens: []impl.Open{{Client: 5, Stamp: stampOf(1, 4)}}},
	}
}

func TestRegsOfNoShelf(t *testing.T) {
	g, write := readyGroup(), firstNote(5, 1, 8)
	write.Kind = impl.NtWrite
	next, proof := readyNote(), readyNote()
	next.Stamp.Count++
	proof.Cert = nil
	for _, r := range wrongRegs() {
		for _, n := range []impl.Note{readyNote(), firstNote(5, 0, 8), firstNote(6, 1, 1), write, next, proof, {}, {Shelf: 2}, {Shelf: math.MinInt64}} {
			zeroReadied(t, "right on no shelf", g, r, n)
		}
	}
	// Right on a shelf, but not on one that this Group has.
	r := readyReg(5, 1, 1)
	zeroReadied(t, "right on a shelf that is none", groupOf(4, 1, 3, 1), r, firstNote(5, 0, 8))
	zeroReadied(t, "right on a shelf that is none", groupOf(4, 1, 3, 1), r, readyNote())
}

func TestNothingIsReadyInAWrongGroup(t *testing.T) {
	// Nobody can go through so many shelves.
	groups := append(wrongGroups(), groupOf(4, 1, 3, math.MaxInt64), groupOf(4, 1, 3, math.MinInt64), groupOf(4, 1, 7, 2))
	for _, g := range groups {
		for _, r := range []impl.Reg{{}, readyReg(), readyReg(5, 5, 2), {Opens: openList(4, 1, 1)}} {
			for _, n := range []impl.Note{readyNote(), firstNote(5, 0, 8), {}, {Shelf: math.MaxInt64}} {
				zeroReadied(t, "a wrong group", g, r, n)
			}
		}
	}
}

func TestWhatIsNotNext(t *testing.T) {
	g := readyGroup()
	for count := int64(1); count <= 9; count++ {
		for client := range int64(16) {
			n := readyNote()
			n.Stamp = stampOf(count, client)
			want := int64(impl.RdNext)
			if count == 7 && client == 5 {
				want = impl.RdOk
			}
			checkReady(t, "about the next one", g, readyReg(4, 7, 1, 6, 6, 1), n, want)
		}
	}
	n := readyNote()
	for _, stamp := range []impl.Stamp{{}, n.Old, stampOf(8, 5), stampOf(6, 5), stampOf(7, 4), stampOf(100000, 5)} {
		n.Stamp = stamp
		checkReady(t, "not the next one", g, readyReg(), n, impl.RdNext)
	}
	first := firstNote(5, 1, 8)
	for _, stamp := range []impl.Stamp{{}, stampOf(2, 5), stampOf(1, 0), stampOf(1, 4), stampOf(1, 6)} {
		first.Stamp = stamp
		checkReady(t, "not the first one", g, impl.Reg{}, first, impl.RdNext)
	}
}

// afterNote is n behind that old Stamp, which is proven.
func afterNote(n impl.Note, old impl.Stamp) impl.Note {
	n.Old = old
	n.Cert = sealsOf(readyGroup(), impl.Claim{Kind: impl.ClReady, Shelf: n.Shelf, Stamp: old, Value: n.Was}, 0, 1, 2)
	return n
}

func TestNothingIsNextToTheLastStamp(t *testing.T) {
	g := readyGroup()
	for client := range int64(16) {
		n := readyNote()
		n.Stamp = stampOf(100000, 5)
		checkReady(t, "the last Stamp", g, readyReg(), afterNote(n, stampOf(99999, client)), impl.RdOk)
		for _, stamp := range []impl.Stamp{{}, stampOf(1, 5), stampOf(99999, 5), stampOf(100000, 5), stampOf(100000, 15)} {
			n.Stamp = stamp
			checkReady(t, "behind the last Stamp", g, readyReg(), afterNote(n, stampOf(100000, client)), impl.RdNext)
		}
		n.Stamp = stampOf(100001, 5)
		checkReady(t, "past the last Stamp", g, readyReg(), afterNote(n, stampOf(100000, client)), impl.RdNote)
	}
	// Whose the old one is does not matter: the next one is newer in any case.
	for _, client := range []int64{0, 3, 4, 5, 6, 15} {
		checkReady(t, "behind anyone", g, readyReg(), afterNote(readyNote(), stampOf(6, client)), impl.RdOk)
	}
}

func TestWhatIsNotProven(t *testing.T) {
	g, right := readyGroup(), readyNote()
	old := impl.Claim{Kind: impl.ClReady, Shelf: 1, Stamp: right.Old, Value: right.Was}
	certs := [][]impl.Seal{nil, {}, sealsOf(g, old, 1), sealsOf(g, old, 0, 3), sealsOf(g, old, 2, 2, 2, 2), sealList(0, 0, 1, 0, 2, 0, 3, 0)}
	// The first of the others is ClWrote; the rest have another shelf, stamp or value.
	for _, other := range otherClaims(old) {
		certs = append(certs, sealsOf(g, other, 0, 1, 2, 3), append(sealsOf(g, old, 0, 1), sealsOf(g, other, 2, 3)...))
	}
	for _, cert := range certs {
		n := right
		n.Cert = cert
		checkReady(t, "not proven", g, readyReg(4, 1, 1), n, impl.RdProof)
		checkReady(t, "not proven, of the same one", g, readyReg(5, 7, 8), n, impl.RdProof)
		// What stands there itself proves nothing.
		checkReady(t, "not proven by what is written", g, regOf(g, old, 0, 1, 2), n, impl.RdProof)
		// Nor does what the client itself wrote.
		n = wrote(g, n, right.Old, right.Was, 0, 1, 2, 3)
		checkReady(t, "not proven by More", g, readyReg(), n, impl.RdProof)
	}
	for _, was := range []int64{0, 8, 10, 9999} {
		n := right
		n.Was = was
		checkReady(t, "another value was there", g, readyReg(), n, impl.RdProof)
	}
}

func TestWhatIsProven(t *testing.T) {
	g, right := readyGroup(), readyNote()
	old := impl.Claim{Kind: impl.ClReady, Shelf: 1, Stamp: right.Old, Value: right.Was}
	some := append(sealsOf(g, old, 3, 3, 1), sealList(0, 5, 7, 7)...)
	for _, cert := range [][]impl.Seal{sealsOf(g, old, 1, 2, 3), sealsOf(g, old, 3, 2, 1, 0), append(some, sealsOf(g, old, 0)...)} {
		n := right
		n.Cert = cert
		// What stands there may be older, newer, or the same one with another value.
		for _, r := range []impl.Reg{{}, readyReg(), regOf(g, claimOf(1, 1, 6, 4, 2), 0, 1, 2), regOf(g, claimOf(1, 1, 90, 4, 2), 0, 1, 2)} {
			checkReady(t, "proven", g, r, n, impl.RdOk)
		}
	}
}

func TestNothingNeedBeProvenAheadOfTheFirst(t *testing.T) {
	g, zero := readyGroup(), claimOf(impl.ClReady, 1, 0, 0, 0)
	for _, cert := range [][]impl.Seal{nil, {}, {{}}, sealList(3, 7, 9, 1), make([]impl.Seal, 20), sealsOf(g, zero, 0, 1, 2)} {
		n := firstNote(5, 1, 8)
		n.Cert = cert
		checkReady(t, "the first one", g, readyReg(4, 1, 1), n, impl.RdOk)
		for _, was := range []int64{1, 8, 9999} {
			n.Was = was
			checkReady(t, "a value at the zero Stamp", g, readyReg(), n, impl.RdProof)
		}
	}
	// As in chapter 4, a certificate proves a value at the zero Stamp too.
	n := firstNote(5, 1, 8)
	n.Was = 6
	checkReady(t, "a certificate at the zero Stamp", g, readyReg(), afterNote(n, stampOf(0, 0)), impl.RdOk)
}

func TestWhatIsOpen(t *testing.T) {
	g, n := readyGroup(), readyNote()
	// This closes all that is older than n, but nothing that is not.
	written := wrote(g, n, stampOf(7, 5), 8, 0, 1, 2)
	rows := []struct {
		why  string
		open []int64
		n    impl.Note
		want int64
	}{
		{"nothing", nil, n, impl.RdOk},
		{"nothing, and something written", nil, written, impl.RdOk},
		{"just that one", []int64{5, 7, 8}, n, impl.RdOk},
		{"just that one, and it is written", []int64{5, 7, 8}, written, impl.RdOk},
		{"that Stamp, another value", []int64{5, 7, 9}, n, impl.RdOpen},
		{"that Stamp, a lesser value", []int64{5, 7, 0}, n, impl.RdOpen},
		{"that Stamp, another value, though it is written", []int64{5, 7, 9}, written, impl.RdOpen},
		{"a newer Stamp", []int64{5, 8, 8}, n, impl.RdOpen},
		{"the newest Stamp", []int64{5, 100000, 8}, n, impl.RdOpen},
		{"a newer Stamp, though the older one is written", []int64{5, 8, 8}, written, impl.RdOpen},
		{"a newer Stamp, though it is written", []int64{5, 8, 8}, wrote(g, n, stampOf(8, 5), 8, 0, 1, 2, 3), impl.RdOpen},
		{"an older Stamp", []int64{5, 6, 8}, n, impl.RdOpen},
		{"an older Stamp, another value", []int64{5, 6, 1}, n, impl.RdOpen},
		{"the first Stamp", []int64{5, 1, 8}, n, impl.RdOpen},
	}
	for _, row := range rows {
		checkReady(t, row.why, g, readyReg(row.open...), row.n, row.want)
		checkReady(t, row.why, g, impl.Reg{Opens: openList(row.open...)}, row.n, row.want)
	}
}

func TestWhatClosesAnOlderOne(t *testing.T) {
	g, n, r := readyGroup(), readyNote(), readyReg(5, 4, 3)
	rows := []struct {
		why   string
		last  impl.Stamp
		value int64
		want  int64
	}{
		{"just that one", stampOf(4, 5), 3, impl.RdOk},
		{"just that one, another value", stampOf(4, 5), 2, impl.RdOk},
		{"a newer one", stampOf(5, 5), 6, impl.RdOk},
		{"one at the old Count", stampOf(6, 5), 9, impl.RdOk},
		{"one at this Stamp", stampOf(7, 5), 0, impl.RdOk},
		{"one that is newer than this Stamp", stampOf(9, 5), 1, impl.RdOk},
		{"the newest one", stampOf(100000, 5), 9999, impl.RdOk},
		{"an older one", stampOf(3, 5), 3, impl.RdOpen},
		{"the first one", stampOf(1, 5), 3, impl.RdOpen},
		{"the zero one", stampOf(0, 0), 0, impl.RdOpen},
		{"another client's, older", stampOf(4, 4), 3, impl.RdOpen},
		{"another client's, newer", stampOf(4, 6), 3, impl.RdOpen},
		{"what was there", n.Old, n.Was, impl.RdOpen},
		{"another client's, by its Count", stampOf(5, 4), 3, impl.RdOpen},
		{"another client's, much newer", stampOf(100000, 6), 3, impl.RdOpen},
		{"one of no client", stampOf(5, 0), 3, impl.RdOpen},
	}
	for _, row := range rows {
		checkReady(t, row.why, g, r, wrote(g, n, row.last, row.value, 0, 1, 2, 3), row.want)
		checkReady(t, row.why, g, r, wrote(g, n, row.last, row.value, 3, 1, 2), row.want)
		checkReady(t, row.why+", by too few", g, r, wrote(g, n, row.last, row.value, 3, 2), impl.RdOpen)
	}
}

func TestWhatMoreMustTell(t *testing.T) {
	g, r := readyGroup(), readyReg(5, 4, 3)
	n := wrote(g, readyNote(), stampOf(4, 5), 3)
	right := wroteOf(n)
	lists := [][]impl.Seal{nil, {}, sealsOf(g, right, 0), sealsOf(g, right, 1, 3), sealsOf(g, right, 2, 2, 2, 2), sealList(0, 0, 1, 0, 2, 0, 3, 0), n.Cert}
	// The first of the others is ClReady; the rest have another shelf, stamp or value.
	for _, other := range otherClaims(right) {
		lists = append(lists, sealsOf(g, other, 0, 1, 2, 3), append(sealsOf(g, right, 0, 1), sealsOf(g, other, 2, 3)...))
	}
	for _, more := range lists {
		n.More = more
		checkReady(t, "More is not enough", g, r, n, impl.RdOpen)
		checkReady(t, "More need not be enough", g, readyReg(4, 4, 3, 6, 4, 3), n, impl.RdOk)
		checkReady(t, "More need not be enough for the same one", g, readyReg(5, 7, 8), n, impl.RdOk)
	}
	for _, value := range []int64{0, 2, 4, 9999} {
		n.LastValue, n.More = value, sealsOf(g, right, 0, 1, 2, 3)
		checkReady(t, "another LastValue", g, r, n, impl.RdOpen)
	}
	n.LastValue = 3
	for _, more := range [][]impl.Seal{sealsOf(g, right, 3, 2, 0), append(make([]impl.Seal, 17), sealsOf(g, right, 3, 1, 2)...), append(sealsOf(g, right, 3, 3, 1), append(sealList(0, 5, 9, 7), sealsOf(g, right, 0)...)...)} {
		n.More = more
		checkReady(t, "More is enough", g, r, n, impl.RdOk)
	}
}

func TestOpensOfOthersChangeNothing(t *testing.T) {
	g, n := readyGroup(), readyNote()
	closed := wrote(g, n, stampOf(6, 5), 2, 0, 1, 2)
	rows := []struct {
		open []int64
		n    impl.Note
		want int64
	}{
		{nil, n, impl.RdOk}, {[]int64{5, 7, 8}, n, impl.RdOk}, {[]int64{5, 6, 2}, closed, impl.RdOk},
		{[]int64{5, 7, 9}, closed, impl.RdOpen}, {[]int64{5, 8, 8}, closed, impl.RdOpen}, {[]int64{5, 6, 2}, n, impl.RdOpen},
	}
	for _, row := range rows {
		for count := int64(6); count <= 8; count++ {
			for _, value := range []int64{8, 9} {
				before := append([]int64{4, count, value}, row.open...)
				behind := append(slices.Clone(row.open), 6, count, value)
				both := append(slices.Clone(before), 6, count, value)
				for _, numbers := range [][]int64{before, behind, both} {
					checkReady(t, "beside others", g, readyReg(numbers...), row.n, row.want)
				}
			}
		}
	}
}

// hindrance is one way in which a code comes to apply.
type hindrance struct {
	why  string
	make func(r *impl.Reg, n *impl.Note)
}

func changed(why string, change func(n *impl.Note)) hindrance {
	return hindrance{why, func(_ *impl.Reg, n *impl.Note) { change(n) }}
}

// opened has, of the client 5, a Count that is so much more than that of the Stamp, but at least 1.
func opened(why string, more, value int64) hindrance {
	return hindrance{why, func(r *impl.Reg, n *impl.Note) {
		r.Opens = openList(4, 3, 3, 5, max(n.Stamp.Count+more, 1), value, 6, 4, 4)
	}}
}

func noteHindrances() []hindrance {
	g := readyGroup()
	return []hindrance{
		changed("NtWrite", func(n *impl.Note) { n.Kind = impl.NtWrite }),
		changed("NtAm", func(n *impl.Note) { n.Kind = impl.NtAm }),
		changed("an Op below 0", func(n *impl.Note) { n.Op = -1 }),
		changed("to a client", func(n *impl.Note) { n.To = 4 }),
		changed("a LastValue past its limit", func(n *impl.Note) { n.LastValue = 10000 }),
		changed("too much of More", func(n *impl.Note) { n.More = make([]impl.Seal, 21) }),
		{"a Reg that is not right", func(r *impl.Reg, _ *impl.Note) { r.Cert = r.Cert[:2] }},
		{"a Reg of another shelf", func(r *impl.Reg, _ *impl.Note) {
			*r = withOpens(regOf(g, claimOf(impl.ClReady, 0, 5, 4, 3), 0, 2, 3), r.Opens)
		}},
	}
}

func nextHindrances() []hindrance {
	return []hindrance{
		changed("a Count too many", func(n *impl.Note) { n.Stamp.Count++ }),
		changed("a Count too few", func(n *impl.Note) { n.Stamp.Count-- }),
		changed("a lesser client's", func(n *impl.Note) { n.Stamp.Client = 4 }),
		changed("a greater client's", func(n *impl.Note) { n.Stamp.Client = 6 }),
		changed("the old one", func(n *impl.Note) { n.Stamp = n.Old }),
		changed("the zero Stamp", func(n *impl.Note) { n.Stamp = impl.Stamp{} }),
	}
}

func proofHindrances() []hindrance {
	g := readyGroup()
	return []hindrance{
		changed("no Cert", func(n *impl.Note) { n.Cert = nil }),
		changed("a Seal too few", func(n *impl.Note) { n.Cert = n.Cert[:2] }),
		changed("another value was there", func(n *impl.Note) { n.Was = 0 }),
		changed("a Cert of another shelf", func(n *impl.Note) { n.Cert = sealsOf(g, claimOf(impl.ClReady, 0, 6, 4, 9), 0, 1, 2, 3) }),
		changed("a Cert of what was written", func(n *impl.Note) { n.Cert = sealsOf(g, claimOf(impl.ClWrote, 1, 6, 4, 9), 0, 1, 2, 3) }),
	}
}

func openHindrances() []hindrance {
	g := readyGroup()
	last := func(why string, count, client int64, servers ...int64) hindrance {
		return hindrance{why, func(r *impl.Reg, n *impl.Note) {
			opened("", -2, 8).make(r, n)
			*n = wrote(g, *n, stampOf(count, client), 2, servers...)
		}}
	}
	return []hindrance{
		opened("a newer one", 1, 8),
		opened("this Stamp, another value", 0, 9),
		opened("an older one", -1, 8),
		last("a Last of another client", 7, 6, 0, 1, 2),
		last("an older Last", 2, 5, 0, 1, 2),
		last("a Last of too few", 7, 5, 0, 1),
	}
}

// Of all codes that apply at once, however they come to, it is the one named first.
func TestOfManyCodesItIsTheFirst(t *testing.T) {
	// The Opens are made to fit the Stamp, and a Reg of another shelf keeps them, so this is not the order of the codes.
	order := [][]hindrance{nextHindrances(), proofHindrances(), openHindrances(), noteHindrances()}
	codes := []int64{impl.RdNext, impl.RdProof, impl.RdOpen, impl.RdNote}
	seen := map[int]int{}
	var hinder func(at int, why string, r impl.Reg, n impl.Note, made []int64)
	hinder = func(at int, why string, r impl.Reg, n impl.Note, made []int64) {
		if at < len(order) {
			hinder(at+1, why, r, n, made)
			for _, each := range order[at] {
				spoiledReg, spoiled := r, n
				each.make(&spoiledReg, &spoiled)
				hinder(at+1, why+each.why+"; ", spoiledReg, spoiled, append(slices.Clone(made), codes[at]))
			}
			return
		}
		want := int64(impl.RdOk)
		if len(made) > 0 {
			want = slices.Min(made)
		}
		checkReady(t, why, readyGroup(), r, n, want)
		applies := wantCodes(readyGroup(), r, n)
		for _, code := range made {
			if !slices.Contains(applies, code) {
				t.Errorf("%s: the code %d does not apply to %+v on %+v", why, code, n, r)
			}
		}
		seen[len(made)]++
	}
	hinder(0, "", readyReg(4, 3, 3, 6, 4, 4), readyNote(), nil)
	if seen[0] != 1 || seen[1] != 25 || seen[2] < 6*25 || seen[4] != 8*6*5*6 {
		t.Errorf("so many codes at once, so often: %v", seen)
	}
}

func TestReadiedChangesOneOpenAlone(t *testing.T) {
	g, n := readyGroup(), readyNote()
	closed := wrote(g, n, stampOf(4, 5), 3, 0, 1, 2)
	rows := []struct {
		why        string
		open, want []int64
	}{
		{"alone", nil, []int64{5, 7, 8}},
		{"behind a lesser client", []int64{4, 9, 1}, []int64{4, 9, 1, 5, 7, 8}},
		{"ahead of a greater client", []int64{6, 9, 1}, []int64{5, 7, 8, 6, 9, 1}},
		{"between both", []int64{4, 9, 1, 6, 2, 2}, []int64{4, 9, 1, 5, 7, 8, 6, 2, 2}},
		{"instead of its own", []int64{5, 4, 3}, []int64{5, 7, 8}},
		{"instead of its own, at the end", []int64{4, 9, 1, 5, 4, 3}, []int64{4, 9, 1, 5, 7, 8}},
		{"instead of its own, at the beginning", []int64{5, 4, 3, 6, 2, 2}, []int64{5, 7, 8, 6, 2, 2}},
		{"instead of its own, between both", []int64{4, 9, 1, 5, 4, 3, 6, 2, 2}, []int64{4, 9, 1, 5, 7, 8, 6, 2, 2}},
		{"just that one", []int64{4, 9, 1, 5, 7, 8, 6, 2, 2}, []int64{4, 9, 1, 5, 7, 8, 6, 2, 2}},
	}
	for _, row := range rows {
		for _, r := range []impl.Reg{readyReg(row.open...), {Opens: openList(row.open...)}} {
			got := checkReady(t, row.why, g, r, closed, impl.RdOk)
			if want := withOpens(r, openList(row.want...)); !sameReg(got, want) {
				t.Errorf("%s: %+v is Readied to %+v", row.why, r, got)
			}
		}
	}
	// To whom and in which round it is asked is not kept; nor is what was there.
	other := closed
	other.To, other.Op = 0, 99999
	checkReady(t, "another round", g, readyReg(5, 7, 8), afterNote(other, stampOf(6, 6)), impl.RdOk)
}

// A client that writes all that it asks for goes on and on, whatever others do meanwhile.
func TestAClientGoesOn(t *testing.T) {
	g, r := readyGroup(), readyReg()
	for count := int64(1); count <= 40; count++ {
		for _, client := range []int64{4, 5, 6} {
			n := afterNote(firstNote(client, 1, count*client), stampOf(count-1, min(count-1, 6)))
			n.Stamp.Count = count
			if count > 1 {
				last, _ := impl.OpenOf(r, client)
				checkReady(t, "not written yet", g, r, n, impl.RdOpen)
				n = wrote(g, n, last.Stamp, last.Value, 3, 0, 1)
			}
			r = checkReady(t, "gone on", g, r, n, impl.RdOk)
		}
		c := claimOf(impl.ClReady, 1, count, 4, count*4)
		r, _ = impl.Written(g, 1, r, c.Stamp, c.Value, sealsOf(g, c, 0, 1, 2))
	}
	if want := openList(4, 40, 160, 5, 40, 200, 6, 40, 240); !slices.Equal(r.Opens, want) {
		t.Errorf("in the end %v are open", r.Opens)
	}
}

// askedNotes are those of two clients, which ask for whatever they like, and have all written that they could have.
func askedNotes() []impl.Note {
	var list []impl.Note
	for _, client := range []int64{4, 5} {
		for count := int64(1); count <= 4; count++ {
			for _, value := range []int64{1, 2} {
				n := firstNote(client, 1, value)
				n.Stamp.Count = count
				n = afterNote(n, stampOf(count-1, min(count-1, 1)*6))
				list = append(list, n)
				for last := int64(1); last <= 4; last++ {
					list = append(list, wrote(readyGroup(), n, stampOf(last, client), value, 0, 1, 2))
				}
			}
		}
	}
	return list
}

// Whatever is asked, in whatever order: one value alone at each Stamp, and never an older one of that client again.
func TestOneValueAloneAtEachStamp(t *testing.T) {
	g, notes := readyGroup(), askedNotes()
	for step := 1; step < 83; step++ {
		r, values, newest := readyReg(), map[impl.Stamp]int64{}, map[int64]impl.Stamp{}
		for i := range 82 {
			n := notes[(i+1)*step%83%len(notes)]
			code := impl.CodeReady(g, r, n)
			r = checkReady(t, "one after the other", g, r, n, code)
			if code != impl.RdOk {
				continue
			}
			if value, is := values[n.Stamp]; is && value != n.Value {
				t.Fatalf("ready for %d and %d at %v", value, n.Value, n.Stamp)
			}
			if impl.CmpStamp(n.Stamp, newest[n.From]) < 0 {
				t.Fatalf("ready for %v behind %v", n.Stamp, newest[n.From])
			}
			values[n.Stamp], newest[n.From] = n.Value, n.Stamp
		}
		if len(newest) != 2 {
			t.Fatalf("only %d clients have asked by steps of %d", len(newest), step)
		}
	}
}

// manyReadyNotes hands to use each of many notes of the client 5, right and wrong in several things at once.
func manyReadyNotes(use func(n impl.Note)) {
	g := readyGroup()
	for _, stamp := range []impl.Stamp{stampOf(3, 5), stampOf(2, 5), stampOf(3, 4), stampOf(0, 5)} {
		for _, old := range []impl.Stamp{stampOf(2, 4), stampOf(2, 5), {}} {
			for _, sealed := range [][]int64{{0, 1, 2}, {1, 2}} {
				for _, last := range []impl.Stamp{{}, stampOf(1, 5), stampOf(2, 5), stampOf(2, 6), stampOf(3, 5)} {
					for _, servers := range [][]int64{nil, {3, 1}, {3, 1, 0}} {
						for bits := range int64(8) {
							n := impl.Note{Kind: 3 + bits&1*2, From: 5, Shelf: bits >> 1 & 1, Stamp: stamp, Value: 8, Was: 9, Old: old}
							n.Cert = sealsOf(g, impl.Claim{Kind: impl.ClReady, Shelf: n.Shelf, Stamp: old, Value: 9}, sealed...)
							n = wrote(g, n, last, 7, servers...)
							n.LastValue += bits >> 2 & 1
							use(n)
						}
					}
				}
			}
		}
	}
}

func TestManyReady(t *testing.T) {
	g, seen := readyGroup(), map[int64]int{}
	var regs []impl.Reg
	for count := int64(1); count <= 4; count++ {
		regs = append(regs, readyReg(5, count, 8), readyReg(4, 3, 8, 5, count, 7, 6, 3, 8))
	}
	regs = append(regs, impl.Reg{}, readyReg(), readyReg(4, 3, 7, 6, 3, 7), readyReg(5, 3, 8, 5, 3, 8), regOf(g, claimOf(impl.ClReady, 0, 9, 4, 3), 1, 2, 3))
	manyReadyNotes(func(n impl.Note) {
		for _, r := range regs {
			_, want := wantReadied(g, r, n)
			checkReady(t, "many", g, r, n, want)
			seen[want]++
		}
	})
	for code := range int64(5) {
		if seen[code] == 0 {
			t.Errorf("none of them has the code %d", code)
		}
	}
}

func checkSame(t *testing.T, why string, r impl.Reg, n impl.Note, want bool) {
	t.Helper()
	if impl.SameOpen(r, n) != want {
		t.Errorf("%s: SameOpen of %+v for %+v is not %v", why, r, n, want)
	}
}

func TestSameOpen(t *testing.T) {
	n := readyNote()
	rows := []struct {
		why  string
		open []int64
		want bool
	}{
		{"nothing", nil, false},
		{"just that one", []int64{5, 7, 8}, true},
		{"just that one between others", []int64{4, 1, 1, 5, 7, 8, 6, 9, 9}, true},
		{"a newer Stamp", []int64{5, 8, 8}, false},
		{"an older Stamp", []int64{5, 6, 8}, false},
		{"a greater value", []int64{5, 7, 9}, false},
		{"a lesser value", []int64{5, 7, 7}, false},
		{"another Stamp and value", []int64{5, 6, 9}, false},
		{"other clients' alone", []int64{4, 7, 8, 6, 7, 8}, false},
		{"two of that client, just that one first", []int64{5, 7, 8, 5, 6, 1}, true},
		{"two of that client, just that one last", []int64{5, 6, 1, 5, 7, 8}, false},
		{"just that one twice", []int64{5, 7, 8, 5, 7, 8}, true},
		{"out of order", []int64{6, 1, 1, 5, 7, 8, 4, 1, 1}, true},
	}
	for _, row := range rows {
		checkSame(t, row.why, readyReg(row.open...), n, row.want)
		checkSame(t, row.why, impl.Reg{Opens: openList(row.open...)}, n, row.want)
	}
	// The Client of the Open counts, and that of the Stamp too.
	stamp, client := openOf(5, 7, 8), openOf(5, 7, 8)
	stamp.Stamp.Client, client.Client = 4, 4
	checkSame(t, "another client's Stamp", impl.Reg{Opens: []impl.Open{stamp}}, n, false)
	n.Stamp = stamp.Stamp
	checkSame(t, "another client's Stamp in both", impl.Reg{Opens: []impl.Open{stamp}}, n, true)
	n.Stamp = client.Stamp
	checkSame(t, "another client", impl.Reg{Opens: []impl.Open{client}}, n, false)
}

// SameOpen asks of nothing but the client, the Stamp and the Value.
func TestSameOpenOfWhatIsNotRight(t *testing.T) {
	const low, high = math.MinInt64, math.MaxInt64
	for _, kind := range append(kindsOfNotes(), low, 0, 7, high) {
		n := impl.Note{Kind: kind, From: 5, To: -1, Op: -1, Shelf: 9, Stamp: stampOf(7, 5), Value: 8, Was: -1, Last: stampOf(low, high), More: make([]impl.Seal, 21)}
		checkSame(t, "a wrong note", readyReg(5, 7, 8), n, true)
		checkSame(t, "a wrong note", readyReg(5, 7, 7), n, false)
	}
	for _, r := range wrongRegs() {
		r.Opens = openList(5, 7, 8)
		checkSame(t, "a wrong Reg", r, readyNote(), true)
	}
	for _, number := range []int64{low, -1, 0, 99, high} {
		n := impl.Note{From: number, Stamp: stampOf(number, number), Value: number}
		checkSame(t, "at the ends of numbers", impl.Reg{Opens: openList(number, number, number)}, n, true)
		checkSame(t, "at the ends of numbers", impl.Reg{Opens: openList(number, number, 5)}, n, false)
		checkSame(t, "at the ends of numbers", impl.Reg{}, n, false)
	}
	checkSame(t, "nothing and the zero note", impl.Reg{}, impl.Note{}, false)
	checkSame(t, "the zero Open and the zero note", impl.Reg{Opens: []impl.Open{{}}}, impl.Note{}, true)
	checkSame(t, "in spare room", impl.Reg{Opens: openList(5, 7, 8)[:0]}, readyNote(), false)
}

func TestReadyArgumentsStay(t *testing.T) {
	g, n, r := noteGroup(), wrote(noteGroup(), readyNote(), stampOf(4, 5), 3, 3, 1, 0), readyReg(4, 1, 1, 5, 4, 3)
	n.Cert = sealsOf(g, claimOf(impl.ClReady, 1, 6, 4, 9), 3, 0, 1)
	seen := map[int64]int{}
	listStays(t, append(r.Cert, sealList(1, 7)...), func(old []impl.Seal) {
		listStays(t, append(r.Opens, openList(4, 1, 5)...), func(opens []impl.Open) {
			listStays(t, append(n.Cert, sealList(2, 5)...), func(cert []impl.Seal) {
				listStays(t, append(n.More, sealList(-1, 7)...), func(more []impl.Seal) {
					keysStay(t, func(g impl.Group) {
						reg, note := impl.Reg{Stamp: r.Stamp, Value: r.Value, Cert: old, Opens: opens}, n
						note.Cert, note.More = cert, more
						impl.CodeReady(g, reg, note)
						_, code := impl.Readied(g, reg, note)
						impl.SameOpen(reg, note)
						seen[code]++
					})
				})
			})
		})
	})
	if seen[impl.RdOk] == 0 || seen[impl.RdNote] == 0 || seen[impl.RdProof] == 0 || seen[impl.RdOpen] == 0 {
		t.Errorf("so often was answered: %v", seen)
	}
}

func TestReadyAnswersAreNewMemory(t *testing.T) {
	g := readyGroup()
	right := wrote(g, readyNote(), stampOf(4, 5), 3, 3, 1, 0)
	kind, next, proof, open, shelf := right, right, right, right, right
	kind.Kind, next.Stamp.Count, proof.Cert, open.More, shelf.Shelf = impl.NtDone, 9, right.Cert[:1], right.More[:2], 0
	regs := []impl.Reg{readyReg(5, 4, 3), readyReg(4, 1, 1, 5, 4, 3, 6, 2, 2), readyReg(5, 7, 8), readyReg(5, 9, 1), readyReg(), {}, {Opens: openList(4, 1, 1)}, {Opens: openList(3, 1, 1)}}
	for _, r := range regs {
		r.Cert, r.Opens = append(r.Cert, sealList(1, 7)...)[:len(r.Cert)], append(r.Opens, openOf(6, 1, 5))[:len(r.Opens)]
		for _, n := range []impl.Note{right, kind, next, proof, open, shelf, readyNote(), {}} {
			regIsNew(t, "Readied", r, [][]impl.Seal{n.Cert, n.More}, func() impl.Reg {
				got, _ := impl.Readied(g, r, n)
				return got
			})
		}
	}
}
