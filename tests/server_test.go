package tests

import (
	"math"
	"slices"
	"testing"

	"loop.example/g00695/impl"
)

// serverOn has on its shelves what j tells.
func serverOn(g impl.Group, node int64, j impl.Journal, out ...impl.Note) impl.Server {
	regs, _ := wantReplayed(g, allOf(j))
	return impl.Server{Node: node, Regs: regs, Journal: j, Out: out}
}

// busyServer is the server 2 of readyGroup, with three records kept, three loose, and one of each answer to send.
func busyServer() impl.Server {
	tell := impl.Note{Kind: impl.NtTell, From: 2, To: 4, Op: 1, Stamp: stampOf(1, 0), Cert: sealsOf(readyGroup(), claimOf(impl.ClReady, 0, 1, 0, 0), 1, 2, 3)}
	am := impl.Note{Kind: impl.NtAm, From: 2, To: 5, Op: 2, Shelf: 1, Stamp: stampOf(7, 5), Value: 8, Cert: sealsOf(readyGroup(), claimOf(impl.ClReady, 1, 7, 5, 8), 2)}
	done := impl.Note{Kind: impl.NtDone, From: 2, To: 6, Op: 3, Shelf: 1, Stamp: stampOf(7, 5), Value: 8, Cert: sealsOf(readyGroup(), claimOf(impl.ClWrote, 1, 7, 5, 8), 2)}
	return serverOn(readyGroup(), 2, journalOf(3, sixRecs()), tell, am, done)
}

// freshServer is the server 2 of g, which has heard nothing.
func freshServer(g impl.Group) impl.Server {
	return impl.Server{Node: 2, Regs: make([]impl.Reg, g.Shelves)}
}

// outIn are so many Notes from that server to the first client of g.
func outIn(g impl.Group, node int64, count int) []impl.Note {
	out := []impl.Note{}
	for i := range count {
		out = append(out, impl.Note{Kind: impl.NtTell, From: node, To: g.Servers, Op: int64(i)})
	}
	return out
}

func fullOut(node int64, count int) []impl.Note { return outIn(readyGroup(), node, count) }

func withOut(s impl.Server, out []impl.Note) impl.Server {
	s.Out = out
	return s
}

func sameNotes(a, b []impl.Note) bool { return slices.EqualFunc(a, b, sameNote) }

func sameServer(a, b impl.Server) bool {
	return a.Node == b.Node && sameRegs(a.Regs, b.Regs) && sameJournal(a.Journal, b.Journal) && sameNotes(a.Out, b.Out)
}

func wantServerOk(g impl.Group, s impl.Server) bool {
	regs, is := wantReplayed(g, allOf(s.Journal))
	for _, n := range s.Out {
		is = is && n.From == s.Node && wantNoteOk(g, n)
	}
	return is && s.Node >= 0 && s.Node < g.Servers && sameRegs(s.Regs, regs) && len(s.Out) <= 40
}

func wantFlushed(g impl.Group, s impl.Server) (impl.Server, []impl.Note) {
	if !wantServerOk(g, s) {
		return impl.Server{}, nil
	}
	return impl.Server{Node: s.Node, Regs: s.Regs, Journal: impl.Journal{Kept: allOf(s.Journal)}}, s.Out
}

func wantFallen(g impl.Group, s impl.Server, lost []bool) impl.Server {
	if !wantServerOk(g, s) {
		return impl.Server{}
	}
	return serverOn(g, s.Node, wantCrashed(g, s.Journal, lost))
}

// checkServer fails unless s is right or not, as it must be, and all that is asked of it is answered so.
func checkServer(t *testing.T, why string, g impl.Group, s impl.Server, want bool) {
	t.Helper()
	if got := impl.ServerOk(g, s); got != want {
		t.Errorf("%s: ServerOk of %+v is %v", why, s, got)
	}
	if wantServerOk(g, s) != want {
		t.Errorf("%s: the test itself is wrong about %+v", why, s)
	}
	flushed, out := impl.Flushed(g, s)
	if wantNext, wantOut := wantFlushed(g, s); !sameServer(flushed, wantNext) || !sameNotes(out, wantOut) {
		t.Errorf("%s: %+v is Flushed to %+v, and %+v", why, s, flushed, out)
	}
	for _, lost := range allLost(len(s.Journal.Loose)) {
		if got, wantNext := impl.Fallen(g, s, lost), wantFallen(g, s, lost); !sameServer(got, wantNext) {
			t.Errorf("%s: %+v is Fallen by %v to %+v, not %+v", why, s, lost, got, wantNext)
		}
	}
	for _, n := range requests() {
		_, code := wantHeard(g, s, n)
		checkHeard(t, why, g, s, n, code)
	}
	checkHeard(t, why, g, s, impl.Note{}, impl.HdNote)
}

// wrongServer fails unless s is not right, and nothing but zero values is answered of it.
func wrongServer(t *testing.T, why string, g impl.Group, s impl.Server) {
	t.Helper()
	checkServer(t, why, g, s, false)
	flushed, out := impl.Flushed(g, s)
	answers := []impl.Server{flushed, {Out: out}, impl.Fallen(g, s, nil), impl.Fallen(g, s, []bool{true})}
	for _, n := range append(requests(), impl.Note{}) {
		got, code := impl.Heard(g, s, n)
		if code != impl.HdNote {
			t.Errorf("%s: %+v is Heard by %+v: %d", why, n, s, code)
		}
		answers = append(answers, got)
	}
	for i, got := range answers {
		if !sameServer(got, impl.Server{}) {
			t.Errorf("%s: the answer %d of %+v is %+v", why, i, s, got)
		}
	}
}

func TestConstantsOfServers(t *testing.T) {
	if impl.MaxOut != 40 || !slices.Equal([]int64{impl.HdOk, impl.HdNote, impl.HdNo, impl.HdFull}, []int64{0, 1, 2, 3}) {
		t.Error("a constant of servers is not the document's")
	}
}

// nodesAbout are all that may be nodes, some past their ends, and some at the ends of int64.
func nodesAbout() []int64 {
	nodes := []int64{math.MinInt64, math.MinInt64 + 1, -2, -1, 100, math.MaxInt64 - 1, math.MaxInt64}
	for node := range int64(18) {
		nodes = append(nodes, node)
	}
	return nodes
}

func TestNewServers(t *testing.T) {
	for _, g := range rightGroups() {
		for _, node := range nodesAbout() {
			got, is := impl.NewServer(g, node)
			var want impl.Server
			if node >= 0 && node < g.Servers {
				want = impl.Server{Node: node, Regs: make([]impl.Reg, g.Shelves)}
			}
			if wantIs := len(want.Regs) > 0; is != wantIs || !sameServer(got, want) || impl.ServerOk(g, got) != wantIs {
				t.Fatalf("NewServer %d of %+v is %+v and %v", node, g, got, is)
			}
		}
	}
}

func TestNoNewServerInAWrongGroup(t *testing.T) {
	for _, g := range groupsThatAreWrong() {
		for _, node := range nodesAbout() {
			if got, is := impl.NewServer(g, node); is || !sameServer(got, impl.Server{}) {
				t.Errorf("NewServer %d of %+v is %+v and %v", node, g, got, is)
			}
		}
	}
}

func TestServersInNumbers(t *testing.T) {
	g := impl.Group{Servers: 4, Liars: 1, Clients: 2, Shelves: 2, Keys: []int64{11, 22, 33, 44, 55, 66}}
	one, two := stampOf(1, 4), stampOf(2, 5)
	c := impl.Claim{Kind: impl.ClReady, Shelf: 1, Stamp: one, Value: 9}
	// More Seals than are needed, a wrong one and one twice, in another order than that of their servers.
	cert := append(sealsOf(g, c, 3, 0, 3, 1), sealOf(2, 5))
	sealed := func(kind, shelf int64, stamp impl.Stamp, value int64) []impl.Seal {
		tag := mixOf(33, mixOf(kind, shelf, stamp.Count, stamp.Client, value), 2)
		return []impl.Seal{{Who: 2, Tag: tag}}
	}
	s, _ := impl.NewServer(g, 2)
	for _, n := range []impl.Note{
		{Kind: impl.NtAsk, From: 5, To: 2, Op: 7, Shelf: 1},
		{Kind: impl.NtReady, From: 4, To: 2, Op: 1, Shelf: 1, Stamp: one, Value: 9},
		{Kind: impl.NtWrite, From: 4, To: 2, Op: 2, Shelf: 1, Stamp: one, Value: 9, Cert: cert},
		{Kind: impl.NtReady, From: 5, To: 2, Op: 8, Shelf: 1, Stamp: two, Value: 6, Old: one, Was: 9, Cert: cert},
		{Kind: impl.NtAsk, From: 5, To: 2, Op: 100000, Shelf: 1},
		{Kind: impl.NtAsk, From: 4, To: 2, Op: 3, Shelf: 0},
	} {
		next, code := impl.Heard(g, s, n)
		if code != 0 {
			t.Fatalf("%+v is Heard by %+v: %d", n, s, code)
		}
		s = next
	}
	good := sealsOf(g, c, 0, 1, 3)
	want := impl.Server{
		Node: 2,
		Regs: []impl.Reg{{}, {Stamp: one, Value: 9, Cert: good, Opens: openList(4, 1, 9, 5, 2, 6)}},
		Journal: impl.Journal{Loose: []impl.Rec{
			recFrom(1, 1, 1, 4, 1, 4, 9),
			recFrom(2, 2, 1, 0, 1, 4, 9, 0, good[0].Tag, 1, good[1].Tag, 3, good[2].Tag),
			recFrom(3, 1, 1, 5, 2, 5, 6),
		}},
		Out: []impl.Note{
			{Kind: 2, From: 2, To: 5, Op: 7, Shelf: 1},
			{Kind: 4, From: 2, To: 4, Op: 1, Shelf: 1, Stamp: one, Value: 9, Cert: sealed(1, 1, one, 9)},
			{Kind: 6, From: 2, To: 4, Op: 2, Shelf: 1, Stamp: one, Value: 9, Cert: sealed(2, 1, one, 9)},
			{Kind: 4, From: 2, To: 5, Op: 8, Shelf: 1, Stamp: two, Value: 6, Cert: sealed(1, 1, two, 6)},
			{Kind: 2, From: 2, To: 5, Op: 100000, Shelf: 1, Stamp: one, Value: 9, Cert: good},
			{Kind: 2, From: 2, To: 4, Op: 3, Shelf: 0},
		},
	}
	if !sameServer(s, want) || !impl.ServerOk(g, s) {
		t.Errorf("it is %+v, not %+v", s, want)
	}
	if f := impl.Fallen(g, s, []bool{false, true}); !sameServer(f, impl.Server{Node: 2, Regs: []impl.Reg{{}, {Opens: openList(4, 1, 9)}}, Journal: impl.Journal{Kept: want.Journal.Loose[:1]}}) {
		t.Errorf("Fallen it is %+v", f)
	}
	if f, out := impl.Flushed(g, s); !sameServer(f, impl.Server{Node: 2, Regs: want.Regs, Journal: impl.Journal{Kept: want.Journal.Loose}}) || !sameNotes(out, want.Out) {
		t.Errorf("Flushed it is %+v and %+v", f, out)
	}
}

func TestRightServers(t *testing.T) {
	g := readyGroup()
	for _, j := range append(manyJournals(), emptyJournals()...) {
		for node := range g.Servers {
			checkServer(t, "nothing to send", g, serverOn(g, node, j), true)
			checkServer(t, "something to send", g, serverOn(g, node, j, fullOut(node, 2)...), true)
		}
	}
	checkServer(t, "busy", g, busyServer(), true)
	for _, g := range rightGroups() {
		if s := serverOn(g, g.Servers-1, impl.Journal{}); !impl.ServerOk(g, s) {
			t.Errorf("%+v is not right in %+v", s, g)
		}
	}
}

func TestNodesOfServers(t *testing.T) {
	for _, g := range []impl.Group{readyGroup(), wideGroup(), groupOf(1, 0, 1, 1)} {
		for _, node := range nodesAbout() {
			s := serverOn(g, node, impl.Journal{})
			is := node >= 0 && node < g.Servers
			checkServer(t, "a Node", g, s, is)
			checkServer(t, "a Node with something to send", g, withOut(s, outIn(g, node, 3)), is)
			if !is {
				wrongServer(t, "no server", g, s)
			}
		}
	}
	wrongServer(t, "the zero Server", readyGroup(), impl.Server{})
}

// regChanges are ways in which Regs come to be others than those that the Journal of busyServer tells.
func regChanges() map[string]func(s *impl.Server) {
	g := readyGroup()
	return map[string]func(s *impl.Server){
		"none at all":     func(s *impl.Server) { s.Regs = nil },
		"one less":        func(s *impl.Server) { s.Regs = s.Regs[:1] },
		"the first less":  func(s *impl.Server) { s.Regs = s.Regs[1:] },
		"one more":        func(s *impl.Server) { s.Regs = append(s.Regs, impl.Reg{}) },
		"one more, ahead": func(s *impl.Server) { s.Regs = slices.Insert(s.Regs, 0, impl.Reg{}) },
		"the last twice":  func(s *impl.Server) { s.Regs = append(s.Regs, s.Regs[1]) },
		"swapped":         func(s *impl.Server) { slices.Reverse(s.Regs) },
		"all zero":        func(s *impl.Server) { s.Regs = make([]impl.Reg, 2) },
		"one zero":        func(s *impl.Server) { s.Regs[1] = impl.Reg{} },
		"one as the other": func(s *impl.Server) {
			s.Regs[1] = s.Regs[0]
		},
		"a lesser Count":      func(s *impl.Server) { s.Regs[1].Stamp.Count-- },
		"a greater Count":     func(s *impl.Server) { s.Regs[0].Stamp.Count++ },
		"another Client":      func(s *impl.Server) { s.Regs[1].Stamp.Client-- },
		"another Value":       func(s *impl.Server) { s.Regs[1].Value-- },
		"a greater Value":     func(s *impl.Server) { s.Regs[0].Value++ },
		"no Cert":             func(s *impl.Server) { s.Regs[1].Cert = nil },
		"a Seal less":         func(s *impl.Server) { s.Regs[1].Cert = s.Regs[1].Cert[:3] },
		"a Seal more":         func(s *impl.Server) { s.Regs[0].Cert = sealsOf(g, claimOf(impl.ClReady, 0, 1, 0, 0), 0, 1, 2, 3) },
		"another Seal":        func(s *impl.Server) { s.Regs[0].Cert = sealsOf(g, claimOf(impl.ClReady, 0, 1, 0, 0), 0, 2, 3) },
		"a Seal twice":        func(s *impl.Server) { s.Regs[1].Cert = append(s.Regs[1].Cert, s.Regs[1].Cert[3]) },
		"another order":       func(s *impl.Server) { slices.Reverse(s.Regs[1].Cert) },
		"a wrong Tag":         func(s *impl.Server) { s.Regs[1].Cert[2].Tag++ },
		"no Opens":            func(s *impl.Server) { s.Regs[1].Opens = nil },
		"an Open less":        func(s *impl.Server) { s.Regs[1].Opens = s.Regs[1].Opens[:1] },
		"the first Open less": func(s *impl.Server) { s.Regs[1].Opens = s.Regs[1].Opens[1:] },
		"an Open more":        func(s *impl.Server) { s.Regs[0].Opens = append(s.Regs[0].Opens, openOf(5, 1, 1)) },
		"an Open twice":       func(s *impl.Server) { s.Regs[0].Opens = append(s.Regs[0].Opens, s.Regs[0].Opens[0]) },
		"an Open's Value":     func(s *impl.Server) { s.Regs[1].Opens[0].Value++ },
		"an Open's Count":     func(s *impl.Server) { s.Regs[1].Opens[1].Stamp.Count-- },
		"an Open's Client":    func(s *impl.Server) { s.Regs[0].Opens[0] = openOf(5, 1, 0) },
		"an Open, its node":   func(s *impl.Server) { s.Regs[0].Opens[0].Client++ },
		"Opens in another order": func(s *impl.Server) {
			slices.Reverse(s.Regs[1].Opens)
		},
		"of another shelf": func(s *impl.Server) { s.Regs[0] = regOf(g, claimOf(impl.ClReady, 0, 9, 4, 3), 0, 1, 2) },
	}
}

func TestRegsThatTheJournalDoesNotTell(t *testing.T) {
	g := readyGroup()
	for why, change := range regChanges() {
		s := serverCopy(busyServer())
		change(&s)
		wrongServer(t, why, g, s)
	}
	// Each such Reg is a right one, and what some Journal tells, but not this one.
	newer, opened := serverCopy(busyServer()), serverCopy(busyServer())
	newer.Regs[0] = withOpens(regOf(g, claimOf(impl.ClReady, 0, 2, 4, 3), 0, 1, 2), newer.Regs[0].Opens)
	opened.Regs[1] = impl.WithOpen(opened.Regs[1], openOf(4, 3, 9))
	for _, s := range []impl.Server{newer, opened} {
		checkReg(t, "a right Reg", g, 0, s.Regs[0], true)
		checkReg(t, "a right Reg", g, 1, s.Regs[1], true)
		wrongServer(t, "what no record tells", g, s)
	}
}

func TestRecordsThatTheRegsDoNotTell(t *testing.T) {
	g, list := readyGroup(), manyRecs(8)
	for count := range 9 {
		for kept := range count + 1 {
			s := serverOn(g, 1, journalOf(kept, list[:count]))
			checkServer(t, "all of them", g, s, true)
			for other := range 9 {
				if other != count {
					s.Journal = journalOf(min(kept, other), list[:other])
					wrongServer(t, "a record more, or less", g, s)
				}
			}
		}
	}
	// What changes no Reg may be there, or not.
	same := openRec(7, 1, openOf(5, 7, 8))
	s := busyServer()
	s.Journal.Loose = append(s.Journal.Loose, same)
	checkServer(t, "open once more", g, s, true)
	s.Journal.Loose = nil
	wrongServer(t, "nothing loose", g, s)
}

func TestEmptyListsOfServers(t *testing.T) {
	g := readyGroup()
	for _, s := range []impl.Server{
		{Node: 2, Regs: make([]impl.Reg, 2)},
		{Node: 2, Regs: []impl.Reg{{Cert: []impl.Seal{}, Opens: []impl.Open{}}, {Cert: sealList(1, 7)[:0], Opens: openList(4, 1, 1)[:0]}}},
		{Node: 2, Regs: make([]impl.Reg, 2, 9), Journal: impl.Journal{Kept: []impl.Rec{}, Loose: sixRecs()[:0]}, Out: []impl.Note{}},
		{Node: 2, Regs: make([]impl.Reg, 2), Out: fullOut(3, 60)[:0]},
	} {
		checkServer(t, "empty lists", g, s, true)
	}
	s := busyServer()
	for i := range s.Journal.Kept {
		s.Journal.Kept[i].Cert = append([]impl.Seal{}, s.Journal.Kept[i].Cert...)
	}
	checkServer(t, "empty Certs", g, s, true)
}

func TestServersWithAWrongJournal(t *testing.T) {
	g := readyGroup()
	for place := range 6 {
		for _, spoil := range spoiled() {
			s := serverCopy(busyServer())
			list := allOf(s.Journal)
			spoil(&list[place])
			s.Journal = journalOf(3, list)
			wrongServer(t, "a wrong one, by the old Sum", g, s)
			list[place] = summed(list[place])
			s.Journal = journalOf(3, list)
			wrongServer(t, "a wrong one", g, s)
			// What is not Replayed is nothing, but a Server is not right by that.
			s.Regs = nil
			wrongServer(t, "a wrong one, and no Regs", g, s)
			s.Regs, _ = wantReplayed(g, list[:place])
			wrongServer(t, "a wrong one, and the Regs ahead of it", g, s)
		}
	}
	for _, nos := range [][]int64{{1, 2, 3, 1, 2, 3}, {1, 2, 3, 5, 6, 7}, {2, 3, 4, 5, 6, 7}, {0, 1, 2, 3, 4, 5}, {1, 2, 3, 4, 5, math.MaxInt64}, {6, 5, 4, 3, 2, 1}} {
		s := busyServer()
		s.Journal = journalOf(3, withNos(sixRecs(), nos...))
		wrongServer(t, "other Nos", g, s)
	}
	s := serverOn(g, 2, journalOf(200, manyRecs(400)))
	checkServer(t, "MaxRecs", g, s, true)
	s.Journal = journalOf(200, manyRecs(401))
	wrongServer(t, "one more than MaxRecs", g, s)
}

func TestHowMuchServersMaySend(t *testing.T) {
	g := readyGroup()
	for _, count := range []int{0, 1, 2, 38, 39, 40} {
		checkServer(t, "so many to send", g, withOut(busyServer(), fullOut(2, count)), true)
	}
	for _, count := range []int{41, 42, 80, 1000} {
		wrongServer(t, "too many to send", g, withOut(busyServer(), fullOut(2, count)))
	}
	for _, count := range []int{1, 2, 39, 40, 41} {
		for _, place := range []int{0, count / 2, count - 1} {
			for _, from := range []int64{math.MinInt64, -2, -1, 0, 1, 3, 4, 5, 10, math.MaxInt64} {
				s := withOut(busyServer(), fullOut(2, count))
				s.Out[place].From = from
				wrongServer(t, "one from another", g, s)
			}
		}
	}
	s := withOut(busyServer(), fullOut(3, 2))
	wrongServer(t, "all from another", g, s)
	s.Node = 3
	checkServer(t, "all from itself", g, s, true)
	wrongServer(t, "the zero Note, from the server 0", g, serverOn(g, 0, impl.Journal{}, impl.Note{}))
	wrongServer(t, "the zero Note, from another", g, serverOn(g, 1, impl.Journal{}, impl.Note{}))
}

// sentBy fails unless the server 2 of readyGroup, with nothing or more ahead and behind, may have n to send, or not.
func sentBy(t *testing.T, why string, n impl.Note, want bool) {
	t.Helper()
	g := readyGroup()
	checkNote(t, why, g, n, want)
	for _, ahead := range []int{0, 1, 39} {
		out := append(fullOut(2, ahead), n)
		for _, behind := range []int{0, 39 - ahead} {
			s := withOut(busyServer(), append(slices.Clone(out), fullOut(2, behind)...))
			if got := impl.ServerOk(g, s); got != want || wantServerOk(g, s) != want {
				t.Errorf("%s: with %+v behind %d and ahead of %d, ServerOk is %v", why, n, ahead, behind, got)
			}
		}
	}
	s := withOut(freshServer(g), []impl.Note{n})
	if want {
		checkServer(t, why, g, s, true)
		return
	}
	wrongServer(t, why, g, s)
}

// kindsToSend are what a server sends, from the server 2, with all or with nothing that each kind has.
func kindsToSend() []impl.Note {
	list := []impl.Note{}
	for _, kind := range []int64{impl.NtTell, impl.NtAm, impl.NtDone} {
		for _, n := range []impl.Note{bareNote(readyGroup(), kind), fullNote(readyGroup(), kind)} {
			n.From = 2
			list = append(list, n)
		}
	}
	return list
}

func TestKindsThatServersMaySend(t *testing.T) {
	g := readyGroup()
	for _, n := range kindsToSend() {
		sentBy(t, "what a server sends", n, true)
	}
	for _, kind := range append(kindsOfNotes(), math.MinInt64, -2, -1, 0, 7, 8, math.MaxInt64) {
		for _, n := range kindsToSend() {
			n.Kind = kind
			sentBy(t, "a kind", n, kind == impl.NtTell || kind == impl.NtAm || kind == impl.NtDone)
		}
	}
	for _, kind := range []int64{impl.NtAsk, impl.NtReady, impl.NtWrite} {
		for _, n := range []impl.Note{bareNote(g, kind), fullNote(g, kind)} {
			checkNote(t, "what a client sends", g, n, true)
			wrongServer(t, "what a client sends", g, withOut(freshServer(g), []impl.Note{n}))
			n.From = 2
			sentBy(t, "what a client sends, from a server", n, false)
		}
	}
}

func TestWrongNotesToSend(t *testing.T) {
	g := readyGroup()
	for _, spoil := range wrongFields(g) {
		for _, n := range kindsToSend() {
			spoil(&n)
			n.From = 2
			sentBy(t, "wrong", n, wantNoteOk(g, n))
		}
		for place := range busyServer().Out {
			s := serverCopy(busyServer())
			spoil(&s.Out[place])
			wrongServer(t, "one that is wrong", g, s)
		}
	}
	for _, field := range noteFields() {
		for _, n := range kindsToSend() {
			field.set(&n)
			sentBy(t, field.name, n, slices.Contains(field.kinds, n.Kind))
		}
	}
}

func TestLimitsOfNotesToSend(t *testing.T) {
	for _, node := range nodesAbout() {
		for _, n := range kindsToSend() {
			n.To = node
			sentBy(t, "to a node", n, node >= 4 && node <= 6)
		}
	}
	limits := []struct {
		why string
		set func(n *impl.Note, past int64)
	}{
		{"Op", func(n *impl.Note, past int64) { n.Op = impl.MaxOp + past }},
		{"Op, below", func(n *impl.Note, past int64) { n.Op = -past }},
		{"Shelf", func(n *impl.Note, past int64) { n.Shelf = 1 + past }},
		{"Shelf, below", func(n *impl.Note, past int64) { n.Shelf = -past }},
		{"Value", func(n *impl.Note, past int64) { n.Value = impl.MaxValue + past }},
		{"Value, below", func(n *impl.Note, past int64) { n.Value = -past }},
		{"Count", func(n *impl.Note, past int64) { n.Stamp = stampOf(impl.MaxCount+past, 4) }},
		{"Count, below", func(n *impl.Note, past int64) { n.Stamp = stampOf(-past, 0) }},
		{"Client", func(n *impl.Note, past int64) { n.Stamp = stampOf(1, 15+past) }},
		{"Client, beside no Count", func(n *impl.Note, past int64) { n.Stamp = stampOf(0, past) }},
		{"Seals", func(n *impl.Note, past int64) { n.Cert = make([]impl.Seal, impl.MaxSeals+past) }},
		{"Who", func(n *impl.Note, past int64) { n.Cert = sealList(0, 1, 9+past, 5) }},
		{"Who, below", func(n *impl.Note, past int64) { n.Cert = sealList(0, 1, -past, 5) }},
		{"Tag", func(n *impl.Note, past int64) { n.Cert = sealList(0, 1, 1, lastTag+past) }},
		{"Tag, below", func(n *impl.Note, past int64) { n.Cert = sealList(0, 1, 1, -past) }},
	}
	for _, limit := range limits {
		for _, n := range kindsToSend() {
			limit.set(&n, 0)
			sentBy(t, limit.why, n, true)
			limit.set(&n, 1)
			sentBy(t, limit.why+", passed by one", n, false)
		}
	}
}

func TestServersInAWrongGroup(t *testing.T) {
	for _, g := range groupsThatAreWrong() {
		for _, s := range []impl.Server{{}, busyServer(), freshServer(readyGroup()), {Node: 2}, {Node: 2, Regs: make([]impl.Reg, 5)}} {
			wrongServer(t, "a wrong group", g, s)
		}
	}
	wrongServer(t, "fewer shelves", groupOf(4, 1, 3, 1), busyServer())
	wrongServer(t, "more shelves", groupOf(4, 1, 3, 3), busyServer())
	wrongServer(t, "fewer clients", groupOf(4, 1, 2, 2), busyServer())
	wrongServer(t, "more servers", groupOf(5, 1, 3, 2), busyServer())
	// Nothing is sealed in it, so that it is right wherever there are two shelves.
	checkServer(t, "more servers", groupOf(5, 1, 3, 2), freshServer(readyGroup()), true)
	// What is to be sent must be right there, too: 4 is no client then, and 6 is none where they are fewer.
	wrongServer(t, "more servers, and something to send", groupOf(5, 1, 3, 2), withOut(freshServer(readyGroup()), fullOut(2, 1)))
	toLast := withOut(freshServer(readyGroup()), []impl.Note{{Kind: impl.NtTell, From: 2, To: 6}})
	checkServer(t, "to the last client", readyGroup(), toLast, true)
	wrongServer(t, "to the last client, with fewer of them", groupOf(4, 1, 2, 2), toLast)
	wrongServer(t, "fewer servers", groupOf(2, 0, 3, 2), freshServer(readyGroup()))
}

func TestFlushed(t *testing.T) {
	g := readyGroup()
	for _, s := range append(someServers(), variedServers()...) {
		got, out := impl.Flushed(g, s)
		if got.Node != 2 || !sameRegs(got.Regs, s.Regs) || !sameRecs(got.Journal.Kept, allOf(s.Journal)) || len(got.Journal.Loose) > 0 || len(got.Out) > 0 || !sameNotes(out, s.Out) {
			t.Errorf("%+v is Flushed to %+v and %+v", s, got, out)
		}
		if again, out := impl.Flushed(g, got); !sameServer(again, got) || len(out) > 0 || !impl.ServerOk(g, got) {
			t.Errorf("Flushed once more it is %+v and %+v", again, out)
		}
	}
}

func TestBehindFlushedAFallForgetsNothing(t *testing.T) {
	g := readyGroup()
	for _, s := range append(someServers(), variedServers()...) {
		s, _ = impl.Flushed(g, s)
		for _, lost := range append(allLost(3), slices.Repeat([]bool{true}, 500)) {
			if got := impl.Fallen(g, s, lost); !sameServer(got, s) {
				t.Errorf("%+v is Fallen by %v to %+v", s, lost, got)
			}
		}
	}
}

func TestFallen(t *testing.T) {
	g := readyGroup()
	rows := []struct {
		why  string
		lost []bool
		left int
	}{
		{"nothing lost", nil, 6},
		{"an empty list", []bool{}, 6},
		{"none of them lost", lostOf(3), 6},
		{"the first one lost", lostOf(3, 0), 3},
		{"the first one lost, in a short list", lostOf(1, 0), 3},
		{"the one between lost", lostOf(3, 1), 4},
		{"the one between and the last one lost", lostOf(3, 1, 2), 4},
		{"the last one lost", lostOf(3, 2), 5},
		{"all lost", lostOf(3, 0, 1, 2), 3},
		{"none of more places lost", lostOf(9), 6},
		{"one that is not there lost", lostOf(9, 3), 6},
		{"many that are not there lost", lostOf(9, 3, 5, 8), 6},
		{"one that is there and one that is not lost", lostOf(9, 2, 7), 5},
		{"all of more places lost", slices.Repeat([]bool{true}, 9), 3},
	}
	for _, row := range rows {
		for _, out := range [][]impl.Note{nil, busyServer().Out, fullOut(2, 40)} {
			want := serverOn(g, 2, journalOf(row.left, sixRecs()[:row.left]))
			got := impl.Fallen(g, withOut(busyServer(), out), row.lost)
			if !sameServer(got, want) || !impl.ServerOk(g, got) {
				t.Errorf("%s: Fallen it is %+v, not %+v", row.why, got, want)
			}
		}
	}
	// What it would have done is forgotten, too, on each shelf by itself.
	s := checkHeard(t, "ready", g, freshServer(g), toTwo(firstNote(4, 0, 3)), impl.HdOk)
	s = checkHeard(t, "ready", g, s, toTwo(firstNote(5, 1, 4)), impl.HdOk)
	got := impl.Fallen(g, s, lostOf(2, 1))
	if !sameRegs(got.Regs, []impl.Reg{{Opens: openList(4, 1, 3)}, {}}) {
		t.Errorf("Fallen it has %+v", got.Regs)
	}
	// What is forgotten may be asked for anew, and otherwise.
	checkHeard(t, "another value", g, s, toTwo(firstNote(5, 1, 6)), impl.HdNo)
	checkHeard(t, "another value behind a fall", g, got, toTwo(firstNote(5, 1, 6)), impl.HdOk)
	checkHeard(t, "another value of what is not forgotten", g, got, toTwo(firstNote(4, 0, 6)), impl.HdNo)
}

func TestManyFallen(t *testing.T) {
	g, list := readyGroup(), sixRecs()
	for kept := range 7 {
		s := serverOn(g, 2, journalOf(kept, list), fullOut(2, kept)...)
		for _, lost := range manyLost(7) {
			left := slices.Index(lost, true)
			if left < 0 || left > 6-kept {
				left = 6 - kept
			}
			want := serverOn(g, 2, journalOf(kept+left, list[:kept+left]))
			if got := impl.Fallen(g, s, lost); !sameServer(got, want) {
				t.Fatalf("%+v is Fallen by %v to %+v, not %+v", s, lost, got, want)
			}
		}
	}
}

// life is a server, what its Regs were since they were sure, one more for each record, and what it has sent.
type life struct {
	g    impl.Group
	s    impl.Server
	were [][]impl.Reg
	sent []impl.Note
}

func (l *life) hear(t *testing.T, n impl.Note) int64 {
	t.Helper()
	_, code := wantHeard(l.g, l.s, n)
	next := checkHeard(t, "over long times", l.g, l.s, n, code)
	if len(allOf(next.Journal)) > len(allOf(l.s.Journal)) {
		l.were = append(l.were, next.Regs)
	}
	l.s = next
	return code
}

func (l *life) flush() {
	next, out := impl.Flushed(l.g, l.s)
	l.were = [][]impl.Reg{l.s.Regs}
	l.s, l.sent = next, append(l.sent, out...)
}

// fall fails unless l is as it was when it was sure, or a little later: as it was ahead of the first lost record.
func (l *life) fall(t *testing.T, lost []bool) {
	t.Helper()
	left := slices.Index(lost, true)
	if left < 0 || left >= len(l.were) {
		left = len(l.were) - 1
	}
	next := impl.Fallen(l.g, l.s, lost)
	if !sameRegs(next.Regs, l.were[left]) || len(next.Out) > 0 {
		t.Fatalf("%+v is Fallen by %v to %+v, and not to %+v", l.s, lost, next, l.were[left])
	}
	l.s, l.were = next, [][]impl.Reg{next.Regs}
}

// remembers fails if l has forgotten something that it has sent.
func (l *life) remembers(t *testing.T) {
	t.Helper()
	values := map[impl.Claim]int64{}
	for _, n := range l.sent {
		reg := l.s.Regs[n.Shelf]
		o, is := impl.OpenOf(reg, n.To)
		switch {
		case n.Kind == impl.NtAm && (!is || impl.CmpStamp(o.Stamp, n.Stamp) < 0 || o.Stamp == n.Stamp && o.Value != n.Value):
			t.Fatalf("it has said %+v and has %+v", n, reg)
		case n.Kind != impl.NtAm && impl.CmpStamp(reg.Stamp, n.Stamp) < 0:
			t.Fatalf("it has said %+v and has %+v", n, reg)
		case n.Kind == impl.NtAm:
			at := impl.Claim{Shelf: n.Shelf, Stamp: n.Stamp}
			if value, is := values[at]; is && value != n.Value {
				t.Fatalf("it has said that it is ready for %d and for %d at %v", value, n.Value, n.Stamp)
			}
			values[at] = n.Value
		}
	}
}

// longRequests are those of two clients and a third one that writes, right and wrong, on both shelves.
func longRequests() []impl.Note {
	list := []impl.Note{askNote(0), askNote(1), {Kind: impl.NtAsk, From: 5, To: 1}, writeNote(claimOf(impl.ClReady, 1, 3, 4, 7), 0, 1)}
	for _, n := range askedNotes() {
		list = append(list, toTwo(n))
	}
	for count := int64(1); count <= 4; count++ {
		list = append(list, toTwo(afterNote(impl.Note{Kind: impl.NtReady, From: 6, Stamp: stampOf(count, 6), Value: count}, stampOf(count-1, min(count-1, 1)*5))))
		for shelf := range int64(2) {
			for client := range int64(2) {
				list = append(list, writeNote(claimOf(impl.ClReady, shelf, count, 4+client, count), 0, 1, 2))
			}
		}
	}
	return list
}

// Whatever is heard, flushed and lost, in whatever order, no fall takes back what was sent.
func TestWhatWasAnsweredIsNotForgotten(t *testing.T) {
	g, notes, seen, newest, sent := readyGroup(), longRequests(), map[int64]int{}, int64(0), 0
	for step := 1; step < 107; step += 2 {
		s, _ := impl.NewServer(g, 2)
		l := &life{g: g, s: s, were: [][]impl.Reg{s.Regs}}
		for i := range 106 {
			at := (i + 1) * step % 107
			switch {
			case at%9 == 4:
				l.flush()
			case at%9 == 7:
				l.fall(t, lostOf(at+1, at/25, at))
			default:
				seen[l.hear(t, notes[at%len(notes)])]++
			}
			l.remembers(t)
		}
		newest, sent = max(newest, l.s.Regs[1].Stamp.Count), sent+len(l.sent)
	}
	if seen[impl.HdOk] < 1000 || seen[impl.HdNote] == 0 || seen[impl.HdNo] < 1000 || newest != 4 || sent < 500 {
		t.Errorf("so often there was each code: %v; so much was sent: %d", seen, sent)
	}
}

// notesCopy shares nothing with the Notes.
func notesCopy(list []impl.Note) []impl.Note {
	list = slices.Clone(list)
	for i, n := range list {
		list[i].Cert, list[i].More = slices.Clone(n.Cert), slices.Clone(n.More)
	}
	return list
}

func serverCopy(s impl.Server) impl.Server {
	return impl.Server{Node: s.Node, Regs: regsCopy(s.Regs), Journal: journalCopy(s.Journal), Out: notesCopy(s.Out)}
}

// serverRooms has what stands in all lists of s and in the room behind them.
func serverRooms(s impl.Server) impl.Server {
	rooms := impl.Server{Regs: roomOf(s.Regs), Out: roomOf(s.Out), Journal: impl.Journal{Kept: recRooms(s.Journal.Kept), Loose: recRooms(s.Journal.Loose)}}
	for i, r := range rooms.Regs {
		rooms.Regs[i].Cert, rooms.Regs[i].Opens = roomOf(r.Cert), roomOf(r.Opens)
	}
	for i, n := range rooms.Out {
		rooms.Out[i].Cert, rooms.Out[i].More = roomOf(n.Cert), roomOf(n.More)
	}
	return rooms
}

// stays fails if use writes into s or n, or into the room behind a list of theirs.
func stays(t *testing.T, why string, s impl.Server, n impl.Note, use func()) {
	t.Helper()
	was, rooms, note := serverCopy(s), serverRooms(s), serverRooms(impl.Server{Out: []impl.Note{n}})
	use()
	if !sameServer(s, was) || !sameServer(serverRooms(s), rooms) {
		t.Fatalf("%s: %+v was written into: it was %+v", why, s, was)
	}
	if !sameServer(serverRooms(impl.Server{Out: []impl.Note{n}}), note) {
		t.Fatalf("%s: %+v was written into", why, n)
	}
}

// roomFor has something in the room behind each list of s.
func roomFor(s impl.Server) impl.Server {
	s = serverCopy(s)
	seals := func(list []impl.Seal) []impl.Seal { return append(list, sealList(1, 7, 0, 8)...)[:len(list)] }
	recs := func(list []impl.Rec) []impl.Rec {
		for i, r := range list {
			list[i].Cert = seals(r.Cert)
		}
		return append(list, openRec(7, 1, openOf(4, 9, 9)), impl.Rec{})[:len(list)]
	}
	for i, r := range s.Regs {
		s.Regs[i].Cert, s.Regs[i].Opens = seals(r.Cert), append(r.Opens, openOf(4, 9, 9), openOf(6, 1, 5))[:len(r.Opens)]
	}
	for i, n := range s.Out {
		s.Out[i].Cert, s.Out[i].More = seals(n.Cert), seals(n.More)
	}
	s.Regs, s.Out = append(s.Regs, readyReg(), impl.Reg{})[:len(s.Regs)], append(s.Out, askNote(1), impl.Note{})[:len(s.Out)]
	s.Journal.Kept, s.Journal.Loose = recs(s.Journal.Kept), recs(s.Journal.Loose)
	return s
}

// roomyServers have spare room behind all their lists, and something or nothing in them; the last two are not right.
func roomyServers() []impl.Server {
	more := withOut(busyServer(), []impl.Note{wrote(readyGroup(), readyNote(), stampOf(5, 5), 2, 0, 1, 2), {}})
	more.Out[0].From, more.Out[1].From = 2, 2
	wrong := busyServer()
	wrong.Regs[1].Value--
	list := append(someServers()[:7], withOut(busyServer(), kindsToSend()), withOut(busyServer(), fullOut(2, 40)), more, wrong)
	for i, s := range list {
		list[i] = roomFor(s)
	}
	return list
}

// heardNotes come to each of the codes, and of HdOk to each way of it; their Seals have spare room behind them.
func heardNotes() []impl.Note {
	list := append(requests(), writeNote(claimOf(impl.ClReady, 0, 1, 0, 0), 0, 1, 2), wrote(readyGroup(), readyNote(), stampOf(5, 5), 2, 0, 1, 2), fullNote(readyGroup(), impl.NtAm))
	list = append(list, writeNote(claimOf(impl.ClReady, 0, 9, 4, 6), 3, 3, 0, 2, 1))
	for i, n := range list {
		list[i].Cert, list[i].More = append(n.Cert, sealList(2, 5, -4, 7)...)[:len(n.Cert)], append(n.More, sealList(1, 7)...)[:len(n.More)]
	}
	return list
}

// serverAnswer takes of what it is given what it needs.
type serverAnswer func(g impl.Group, s impl.Server, n impl.Note, lost []bool) impl.Server

// serverAnswers hands to use each way in which a Server, or what it sends, is answered; of Flushed both at once.
func serverAnswers(use func(why string, answer serverAnswer)) {
	use("NewServer", func(g impl.Group, s impl.Server, n impl.Note, lost []bool) impl.Server {
		got, _ := impl.NewServer(g, 2)
		return got
	})
	use("Heard", func(g impl.Group, s impl.Server, n impl.Note, lost []bool) impl.Server {
		got, _ := impl.Heard(g, s, n)
		return got
	})
	use("Flushed", func(g impl.Group, s impl.Server, n impl.Note, lost []bool) impl.Server {
		got, out := impl.Flushed(g, s)
		got.Out = out
		return got
	})
	use("Fallen", func(g impl.Group, s impl.Server, n impl.Note, lost []bool) impl.Server {
		return impl.Fallen(g, s, lost)
	})
	use("Fallen without a loss", func(g impl.Group, s impl.Server, n impl.Note, lost []bool) impl.Server {
		return impl.Fallen(g, s, nil)
	})
}

func TestServerArgumentsStay(t *testing.T) {
	roomy := readyGroup()
	roomy.Keys = append(roomy.Keys, 98, 99)[:len(roomy.Keys)]
	keys := roomOf(roomy.Keys)
	for _, s := range roomyServers() {
		for _, n := range heardNotes() {
			serverAnswers(func(why string, answer serverAnswer) {
				stays(t, why, s, n, func() {
					impl.ServerOk(roomy, s)
					lost := []bool{false, true, false, true, true}
					answer(roomy, s, n, lost[:3])
					if !slices.Equal(lost, []bool{false, true, false, true, true}) {
						t.Errorf("%s: the list of what is lost was written into", why)
					}
				})
			})
		}
		listStays(t, []bool{false, false, true, false, true, true, false}, func(lost []bool) { impl.Fallen(roomy, s, lost) })
	}
	if !slices.Equal(roomOf(roomy.Keys), keys) {
		t.Error("the keys or the room behind them were written into")
	}
	fresh := freshServer(noteGroup())
	keysStay(t, func(g impl.Group) {
		impl.ServerOk(g, fresh)
		for _, n := range []impl.Note{askNote(1), toTwo(firstNote(5, 1, 8))} {
			serverAnswers(func(why string, answer serverAnswer) {
				answer(g, fresh, n, nil)
			})
		}
	})
}

// spoilsOf are ways to write into each list of s, one each.
func spoilsOf(s impl.Server) []func() {
	list := []func(){
		func() { fillRoom(s.Regs, impl.Reg{Value: -77}) },
		func() { fillRoom(s.Out, impl.Note{Kind: -77}) },
	}
	for _, r := range s.Regs {
		list = append(list, func() { scribble(r.Cert) }, func() { fillRoom(r.Opens, openOf(-77, -78, -79)) })
	}
	for place := range listsOf(s.Journal) {
		list = append(list, func() { spoilJournal(s.Journal, place) })
	}
	for _, n := range s.Out {
		list = append(list, func() { scribble(n.Cert) }, func() { scribble(n.More) })
	}
	return list
}

// serverIsNew fails if two answers share memory, or two lists of one do.
func serverIsNew(t *testing.T, why string, answer func() impl.Server) {
	t.Helper()
	first := answer()
	want := serverCopy(first)
	for place := range spoilsOf(want) {
		got := answer()
		apart := serverCopy(got)
		spoilsOf(got)[place]()
		spoilsOf(apart)[place]()
		if !sameServer(got, apart) {
			t.Fatalf("%s: the list %d of %+v has some of the memory of another one", why, place, want)
		}
	}
	if !sameServer(first, want) || !sameServer(answer(), want) {
		t.Fatalf("%s: %+v has some of the memory of another answer, or of an argument", why, want)
	}
}

func TestServerAnswersAreNewMemory(t *testing.T) {
	g, lost := readyGroup(), []bool{false, false, true}
	for _, s := range roomyServers() {
		for _, n := range heardNotes() {
			serverAnswers(func(why string, answer serverAnswer) {
				stays(t, why, s, n, func() {
					serverIsNew(t, why, func() impl.Server { return answer(g, s, n, lost) })
				})
			})
		}
	}
}

// An answer does not change when what it was made of does.
func TestServerAnswersDoNotFollow(t *testing.T) {
	g := readyGroup()
	for place := range roomyServers() {
		for i := range heardNotes() {
			serverAnswers(func(why string, answer serverAnswer) {
				s, n, lost := roomyServers()[place], heardNotes()[i], []bool{false, false, true}
				kept := answer(g, s, n, lost)
				want := serverCopy(kept)
				for _, spoil := range slices.Backward(spoilsOf(s)) {
					spoil()
				}
				scribble(n.Cert)
				scribble(n.More)
				fillRoom(lost, true)
				if !sameServer(kept, want) {
					t.Fatalf("%s: an answer changes with an argument: %+v was %+v", why, kept, want)
				}
			})
		}
	}
}
