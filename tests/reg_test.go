package tests

import (
	"math"
	"slices"
	"testing"

	"loop.example/g00695/impl"
)

func openOf(client, count, value int64) impl.Open {
	return impl.Open{Client: client, Stamp: stampOf(count, client), Value: value}
}

// openList has each three numbers as a Client, a Count and a Value.
func openList(numbers ...int64) []impl.Open {
	var list []impl.Open
	for each := range slices.Chunk(numbers, 3) {
		list = append(list, openOf(each[0], each[1], each[2]))
	}
	return list
}

// regOf has the Stamp and the Value of c, sealed by those servers, in that order; nothing is open.
func regOf(g impl.Group, c impl.Claim, servers ...int64) impl.Reg {
	return impl.Reg{Stamp: c.Stamp, Value: c.Value, Cert: sealsOf(g, c, servers...)}
}

func withOpens(r impl.Reg, list []impl.Open) impl.Reg {
	r.Opens = list
	return r
}

// sameReg takes an empty list and nil as the same.
func sameReg(a, b impl.Reg) bool {
	return a.Stamp == b.Stamp && a.Value == b.Value && slices.Equal(a.Cert, b.Cert) && slices.Equal(a.Opens, b.Opens)
}

// rightServers are those of which there is a Seal that is right for c, rising.
func rightServers(g impl.Group, c impl.Claim, list []impl.Seal) []int64 {
	var servers []int64
	for who := range g.Servers {
		if wantClaimOk(c) && slices.Contains(list, sealsOf(g, c, who)[0]) {
			servers = append(servers, who)
		}
	}
	return servers
}

func wantQuorum(g impl.Group, servers []int64) bool {
	return int64(len(servers)) >= (g.Servers+g.Liars)/2+1
}

func wantOpens(g impl.Group, list []impl.Open) bool {
	least := g.Servers
	for _, o := range list {
		if o.Client < least || o.Client >= g.Servers+g.Clients || o.Client != o.Stamp.Client ||
			o.Stamp.Count < 1 || o.Stamp.Count > 100000 || o.Value < 0 || o.Value > 9999 {
			return false
		}
		least = o.Client + 1
	}
	return true
}

func wantRegOk(g impl.Group, shelf int64, r impl.Reg) bool {
	if !wantGroupOk(g) || shelf < 0 || shelf >= g.Shelves || !wantOpens(g, r.Opens) {
		return false
	}
	if r.Stamp == stampOf(0, 0) {
		return r.Value == 0 && len(r.Cert) == 0
	}
	c := impl.Claim{Kind: impl.ClReady, Shelf: shelf, Stamp: r.Stamp, Value: r.Value}
	servers := rightServers(g, c, r.Cert)
	return wantQuorum(g, servers) && slices.Equal(r.Cert, sealsOf(g, c, servers...))
}

func checkReg(t *testing.T, why string, g impl.Group, shelf int64, r impl.Reg, want bool) {
	t.Helper()
	if got := impl.RegOk(g, shelf, r); got != want {
		t.Errorf("%s: RegOk of %+v on the shelf %d is %v", why, r, shelf, got)
	}
	if wantRegOk(g, shelf, r) != want {
		t.Errorf("%s: the test itself is wrong about %+v on the shelf %d", why, r, shelf)
	}
}

func TestTheZeroReg(t *testing.T) {
	for _, g := range rightGroups() {
		for shelf := range int64(impl.MaxShelves) {
			checkReg(t, "the zero Reg", g, shelf, impl.Reg{}, shelf < g.Shelves)
			empty := impl.Reg{Cert: []impl.Seal{}, Opens: []impl.Open{}}
			checkReg(t, "empty lists", g, shelf, empty, shelf < g.Shelves)
		}
	}
}

func TestWhatStandsBesideTheZeroStamp(t *testing.T) {
	g := noteGroup()
	for _, value := range []int64{math.MinInt64, -1, 0, 1, 9999, 10000, math.MaxInt64} {
		checkReg(t, "a value alone", g, 0, impl.Reg{Value: value}, value == 0)
		// Chapter 4 takes such a certificate, but nothing may stand beside the zero Stamp.
		c := claimOf(impl.ClReady, 0, 0, 0, value)
		checkReg(t, "sealed by all", g, 0, regOf(g, c, 0, 1, 2, 3), false)
		checkReg(t, "sealed by a quorum", g, 0, regOf(g, c, 0, 1, 2), false)
		checkReg(t, "sealed by one", g, 0, regOf(g, c, 2), false)
	}
	for _, cert := range [][]impl.Seal{{{}}, sealList(3, 5), make([]impl.Seal, 20), make([]impl.Seal, 21)} {
		checkReg(t, "wrong seals", g, 0, impl.Reg{Cert: cert}, false)
	}
	checkReg(t, "spare room", g, 0, impl.Reg{Cert: sealList(1, 2)[:0]}, true)
}

func TestRegsAboutAQuorum(t *testing.T) {
	for _, g := range rightGroups() {
		shelf, quorum := g.Shelves-1, (g.Servers+g.Liars)/2+1
		c := claimOf(impl.ClReady, shelf, 2, 4, 9)
		for count := range g.Servers + 1 {
			checkReg(t, "the first servers", g, shelf, regOf(g, c, upTo(count)...), count >= quorum)
		}
		// The last ones are no fewer than the first ones.
		checkReg(t, "the last servers", g, shelf, regOf(g, c, upTo(g.Servers)[g.Servers-quorum:]...), true)
	}
}

func TestRegsAtTheLimits(t *testing.T) {
	g := wideGroup()
	for _, stamp := range manyStamps() {
		for _, value := range []int64{math.MinInt64, -1, 0, 1, 9998, 9999, 10000, math.MaxInt64} {
			c := impl.Claim{Kind: impl.ClReady, Shelf: 3, Stamp: stamp, Value: value}
			want := wantClaimOk(c) && stamp != stampOf(0, 0)
			checkReg(t, "a stamp and a value", g, 3, regOf(g, c, upTo(10)...), want)
		}
	}
}

// The order is that of Who, whatever the Tags are.
func TestCertsOfRegsInAnotherOrder(t *testing.T) {
	g := noteGroup()
	for value := range int64(20) {
		c := readyOf(value)
		checkReg(t, "rising", g, 0, regOf(g, c, 0, 1, 2, 3), true)
		checkReg(t, "rising", g, 0, regOf(g, c, 0, 2, 3), true)
		for _, order := range [][]int64{{3, 2, 1, 0}, {1, 0, 2, 3}, {0, 1, 3, 2}, {0, 2, 1, 3}, {1, 2, 3, 0}, {3, 0, 1, 2}, {2, 0, 1}, {0, 3, 1}} {
			checkReg(t, "another order", g, 0, regOf(g, c, order...), false)
		}
		for _, twice := range [][]int64{{0, 0, 1, 2}, {0, 1, 1, 2}, {0, 1, 2, 2}, {0, 1, 2, 0}, {0, 1, 2, 3, 3}, {0, 1, 1}, {0, 0, 0}} {
			checkReg(t, "a Seal twice", g, 0, regOf(g, c, twice...), false)
		}
	}
}

func TestCertsOfRegsWithAWrongSeal(t *testing.T) {
	g, c := noteGroup(), readyOf(9)
	for _, wrong := range wrongSeals(g, c) {
		for place := range 5 {
			r := regOf(g, c, 0, 1, 2, 3)
			r.Cert = slices.Insert(r.Cert, place, wrong)
			checkReg(t, "a wrong one more", g, 0, r, false)
			if place < 4 {
				r = regOf(g, c, 0, 1, 2, 3)
				r.Cert[place] = wrong
				checkReg(t, "a wrong one instead", g, 0, r, false)
			}
		}
	}
}

func TestLongCertsOfRegs(t *testing.T) {
	g, c := wideGroup(), readyOf(9)
	checkReg(t, "all that there are", g, 0, regOf(g, c, upTo(10)...), true)
	for _, count := range []int64{20, 21, 300} {
		r := impl.Reg{Stamp: c.Stamp, Value: 9}
		for i := range count {
			r.Cert = append(r.Cert, sealsOf(g, c, i*10/count)...)
		}
		checkReg(t, "too many", g, 0, r, false)
	}
}

func TestRegsOfAnotherClaim(t *testing.T) {
	g := groupOf(4, 1, 2, impl.MaxShelves)
	for _, c := range []impl.Claim{claimOf(1, 1, 2, 4, 9), claimOf(1, 3, 100000, 15, 9999), claimOf(1, 0, 1, 0, 0)} {
		checkReg(t, "its own", g, c.Shelf, regOf(g, c, 0, 1, 2, 3), true)
		// The first of the others is ClWrote; the rest have another shelf, stamp or value.
		for _, other := range otherClaims(c) {
			r := regOf(g, other, 0, 1, 2, 3)
			r.Stamp, r.Value = c.Stamp, c.Value
			checkReg(t, "sealed for another", g, c.Shelf, r, false)
		}
	}
}

func TestShelvesOfRegs(t *testing.T) {
	for shelves := int64(1); shelves <= impl.MaxShelves; shelves++ {
		g := groupOf(4, 1, 2, shelves)
		for _, shelf := range []int64{math.MinInt64, -1, 0, 1, 2, 3, 4, 5, math.MaxInt64} {
			is := shelf >= 0 && shelf < shelves
			checkReg(t, "a shelf", g, shelf, regOf(g, claimOf(1, shelf, 2, 4, 9), 0, 1, 2), is)
			checkReg(t, "an empty shelf", g, shelf, impl.Reg{}, is)
			checkReg(t, "an open shelf", g, shelf, impl.Reg{Opens: openList(4, 1, 7)}, is)
		}
	}
}

func TestRegsInAWrongGroup(t *testing.T) {
	right, c := noteGroup(), readyOf(9)
	for _, g := range wrongGroups() {
		for _, shelf := range []int64{math.MinInt64, -1, 0, 1, math.MaxInt64} {
			for _, r := range []impl.Reg{{}, regOf(right, c, 0, 1, 2), {Opens: openList(4, 1, 7)}, {Cert: sealList(0, 0)}} {
				checkReg(t, "a wrong group", g, shelf, r, false)
			}
		}
	}
}

// eachOpens asks of such Opens beside the zero Stamp and beside what is written.
func eachOpens(t *testing.T, why string, g impl.Group, list []impl.Open, want bool) {
	t.Helper()
	for _, r := range []impl.Reg{{}, regOf(g, readyOf(9), upTo(g.Servers)...)} {
		checkReg(t, why, g, 0, withOpens(r, list), want)
	}
}

func TestAsManyOpensAsThereAreClients(t *testing.T) {
	for _, g := range rightGroups() {
		var all []impl.Open
		for client := g.Servers; client < g.Servers+g.Clients; client++ {
			eachOpens(t, "one", g, openList(client, 1, 0), true)
			all = append(all, openOf(client, 100000, 9999))
			eachOpens(t, "the first clients", g, all, true)
		}
		eachOpens(t, "the last client but not the first", g, all[len(all)-1:], true)
		past := g.Servers + g.Clients
		eachOpens(t, "past the last client", g, append(slices.Clone(all), openOf(past, 1, 0)), false)
		eachOpens(t, "past the last client, alone", g, openList(past, 1, 0), false)
		eachOpens(t, "the last server", g, append(openList(g.Servers-1, 1, 0), all...), false)
		eachOpens(t, "the last server, alone", g, openList(g.Servers-1, 1, 0), false)
	}
}

func TestNoOpens(t *testing.T) {
	room := openList(9, 9, 9, -1, -1, -1)
	for _, none := range [][]impl.Open{nil, {}, make([]impl.Open, 0, 3), room[:0]} {
		eachOpens(t, "nothing is open", noteGroup(), none, true)
	}
	eachOpens(t, "the zero Open", noteGroup(), []impl.Open{{}}, false)
}

func TestTheOrderOfOpens(t *testing.T) {
	g := groupOf(4, 1, 3, 2)
	for _, rising := range [][]int64{{4, 5}, {4, 6}, {5, 6}, {4, 5, 6}} {
		eachOpens(t, "rising", g, opensOf(rising...), true)
	}
	for _, other := range [][]int64{{5, 4}, {6, 5, 4}, {4, 6, 5}, {5, 4, 6}, {6, 4, 5}, {4, 4}, {6, 6}, {4, 4, 5}, {4, 5, 5}, {4, 5, 4}, {4, 5, 6, 6}, {4, 5, 6, 4}} {
		eachOpens(t, "not rising", g, opensOf(other...), false)
	}
	// It is the order of the clients, not that of the Stamps or Values.
	eachOpens(t, "falling Stamps", g, openList(4, 3, 3, 5, 2, 2, 6, 1, 1), true)
	eachOpens(t, "rising Stamps", g, openList(6, 1, 1, 5, 2, 2, 4, 3, 3), false)
	eachOpens(t, "one client, two Stamps", g, openList(4, 1, 1, 4, 2, 1), false)
}

// opensOf are those clients', each with a Count and a Value of its place.
func opensOf(clients ...int64) []impl.Open {
	var list []impl.Open
	for i, client := range clients {
		list = append(list, openOf(client, int64(i)+1, int64(i)+30))
	}
	return list
}

func TestEachOpen(t *testing.T) {
	g := groupOf(4, 1, 3, 2)
	var rows []impl.Open
	for _, node := range []int64{math.MinInt64, -1, 0, 3, 4, 5, 6, 7, 15, 16, math.MaxInt64} {
		rows = append(rows, openOf(node, 1, 0), impl.Open{Client: 5, Stamp: stampOf(1, node)}, impl.Open{Client: node, Stamp: stampOf(1, 5)})
	}
	for _, count := range []int64{math.MinInt64, -1, 0, 1, 2, 99999, 100000, 100001, math.MaxInt64} {
		rows = append(rows, openOf(5, count, 0), impl.Open{Client: 5, Stamp: stampOf(count, 0)})
	}
	for _, value := range []int64{math.MinInt64, -1, 0, 1, 9998, 9999, 10000, math.MaxInt64} {
		rows = append(rows, openOf(5, 1, value))
	}
	for _, o := range rows {
		eachOpens(t, "one alone", g, []impl.Open{o}, wantOpens(g, []impl.Open{o}))
		for place := range 3 {
			list := opensOf(4, 5, 6)
			list[place] = o
			eachOpens(t, "one of three", g, list, wantOpens(g, list))
		}
	}
}

// What is open need be neither newer nor older than what is written, nor of another client.
func TestOpensBesideWhatIsWritten(t *testing.T) {
	g := noteGroup()
	r := regOf(g, claimOf(1, 1, 5, 4, 9), 0, 1, 3)
	for count := int64(1); count <= 9; count++ {
		checkReg(t, "beside", g, 1, withOpens(r, openList(4, count, 9, 5, 10-count, 8)), true)
	}
}

func checkOpenOf(t *testing.T, r impl.Reg, client int64, want impl.Open, is bool) {
	t.Helper()
	if o, got := impl.OpenOf(r, client); o != want || got != is {
		t.Errorf("OpenOf %d in %+v is %v and %v, not %v and %v", client, r, o, got, want, is)
	}
}

func TestOpenOfEachClient(t *testing.T) {
	r := withOpens(regOf(noteGroup(), readyOf(9), 0, 1, 2), opensOf(4, 6, 7))
	for _, o := range r.Opens {
		checkOpenOf(t, r, o.Client, o, true)
	}
	for _, client := range []int64{math.MinInt64, -4, -1, 0, 1, 3, 5, 8, math.MaxInt64} {
		checkOpenOf(t, r, client, impl.Open{}, false)
	}
	// What is of the Stamp alone is not of the client.
	r.Opens[1].Stamp.Client = 5
	checkOpenOf(t, r, 5, impl.Open{}, false)
	checkOpenOf(t, r, 6, r.Opens[1], true)
}

func TestOpenOfNothing(t *testing.T) {
	for _, none := range [][]impl.Open{nil, {}, opensOf(4, 0)[:0]} {
		for _, client := range []int64{math.MinInt64, -1, 0, 4, math.MaxInt64} {
			checkOpenOf(t, impl.Reg{Opens: none}, client, impl.Open{}, false)
		}
	}
	checkOpenOf(t, impl.Reg{Opens: opensOf(4, 5)[:1]}, 5, impl.Open{}, false)
}

func TestOpenOfTheFirstOne(t *testing.T) {
	r := impl.Reg{Opens: openList(6, 1, 10, 4, 9, 11, 6, 7, 12, 4, 1, 13, 5, 3, 14, 6, 1, 10)}
	checkOpenOf(t, r, 4, openOf(4, 9, 11), true)
	checkOpenOf(t, r, 5, openOf(5, 3, 14), true)
	checkOpenOf(t, r, 6, openOf(6, 1, 10), true)
	r.Opens = r.Opens[1:]
	checkOpenOf(t, r, 6, openOf(6, 7, 12), true)
}

// OpenOf asks of nothing but the client: of nodes, Stamps and Values that are none too.
func TestOpenOfWhatIsNotRight(t *testing.T) {
	const low, high = math.MinInt64, math.MaxInt64
	r := impl.Reg{Stamp: stampOf(low, high), Value: -1, Opens: openList(high, low, high, low, high, low, -1, 0, -1)}
	for _, o := range r.Opens {
		checkOpenOf(t, r, o.Client, o, true)
	}
	checkOpenOf(t, r, 0, impl.Open{}, false)
	checkOpenOf(t, impl.Reg{Opens: []impl.Open{{}}}, 0, impl.Open{}, true)
}

// wantWithOpen counts how far the list goes that stands ahead of the new one.
func wantWithOpen(list []impl.Open, o impl.Open) []impl.Open {
	var got []impl.Open
	ahead := 0
	for i, each := range list {
		if each.Client == o.Client {
			got = append(got, list...)
			got[i] = o
			return got
		}
		if each.Client < o.Client {
			ahead = i + 1
		}
	}
	got = append(got, list[:ahead]...)
	got = append(got, o)
	return append(got, list[ahead:]...)
}

func checkWithOpen(t *testing.T, why string, r impl.Reg, o impl.Open, want []impl.Open) {
	t.Helper()
	got := impl.WithOpen(r, o)
	if !sameReg(got, withOpens(r, want)) {
		t.Errorf("%s: WithOpen %v of %+v is %+v, and its Opens not %v", why, o, r, got, want)
	}
	if !slices.Equal(wantWithOpen(r.Opens, o), want) {
		t.Errorf("%s: the test itself is wrong about %v in %v", why, o, r.Opens)
	}
	if first, is := impl.OpenOf(got, o.Client); !is || first != o {
		t.Errorf("%s: OpenOf %d is %v behind WithOpen %v", why, o.Client, first, o)
	}
	if again := impl.WithOpen(got, o); !sameReg(again, got) {
		t.Errorf("%s: WithOpen %v once more makes %+v of %+v", why, o, again, got)
	}
}

func TestWithOpenInOrder(t *testing.T) {
	r := regOf(noteGroup(), readyOf(9), 0, 1, 2)
	rows := []struct {
		why        string
		list, want []impl.Open
		o          impl.Open
	}{
		{"in nil", nil, openList(5, 2, 8), openOf(5, 2, 8)},
		{"in an empty list", []impl.Open{}, openList(5, 2, 8), openOf(5, 2, 8)},
		{"in spare room", openList(5, 1, 1, 6, 1, 1)[:0], openList(5, 2, 8), openOf(5, 2, 8)},
		{"at the beginning", openList(5, 1, 1, 7, 1, 2), openList(4, 2, 8, 5, 1, 1, 7, 1, 2), openOf(4, 2, 8)},
		{"between two", openList(5, 1, 1, 7, 1, 2), openList(5, 1, 1, 6, 2, 8, 7, 1, 2), openOf(6, 2, 8)},
		{"at the end", openList(5, 1, 1, 7, 1, 2), openList(5, 1, 1, 7, 1, 2, 9, 2, 8), openOf(9, 2, 8)},
		{"in the place of the first one", openList(5, 1, 1, 6, 1, 3, 7, 1, 2), openList(5, 2, 8, 6, 1, 3, 7, 1, 2), openOf(5, 2, 8)},
		{"in the place of the one between", openList(5, 1, 1, 6, 1, 3, 7, 1, 2), openList(5, 1, 1, 6, 2, 8, 7, 1, 2), openOf(6, 2, 8)},
		{"in the place of the last one", openList(5, 1, 1, 6, 1, 3, 7, 1, 2), openList(5, 1, 1, 6, 1, 3, 7, 2, 8), openOf(7, 2, 8)},
		{"in the place of the only one", openList(5, 3, 1), openList(5, 2, 8), openOf(5, 2, 8)},
		{"in the place of itself", openList(5, 2, 8), openList(5, 2, 8), openOf(5, 2, 8)},
	}
	for _, row := range rows {
		checkWithOpen(t, row.why, withOpens(r, row.list), row.o, row.want)
		checkWithOpen(t, row.why, impl.Reg{Opens: row.list}, row.o, row.want)
	}
}

func TestWithOpenOutOfOrder(t *testing.T) {
	rows := []struct {
		why        string
		list, want []impl.Open
		o          impl.Open
	}{
		{"behind the last lesser one", openList(4, 1, 1, 9, 1, 2, 5, 1, 3, 8, 1, 4), openList(4, 1, 1, 9, 1, 2, 5, 1, 3, 6, 2, 8, 8, 1, 4), openOf(6, 2, 8)},
		{"behind one at the end", openList(9, 1, 1, 8, 1, 2, 4, 1, 3), openList(9, 1, 1, 8, 1, 2, 4, 1, 3, 6, 2, 8), openOf(6, 2, 8)},
		{"behind the first one", openList(5, 1, 1, 9, 1, 2, 8, 1, 3), openList(5, 1, 1, 7, 2, 8, 9, 1, 2, 8, 1, 3), openOf(7, 2, 8)},
		{"no lesser one", openList(9, 1, 1, 7, 1, 2, 8, 1, 3), openList(6, 2, 8, 9, 1, 1, 7, 1, 2, 8, 1, 3), openOf(6, 2, 8)},
		{"its client behind greater ones", openList(9, 1, 1, 8, 1, 2, 6, 1, 3), openList(9, 1, 1, 8, 1, 2, 6, 2, 8), openOf(6, 2, 8)},
		{"its client ahead of lesser ones", openList(9, 1, 1, 8, 1, 2, 6, 1, 3), openList(9, 2, 8, 8, 1, 2, 6, 1, 3), openOf(9, 2, 8)},
		{"the first of its client", openList(6, 1, 1, 4, 1, 2, 6, 1, 3), openList(6, 2, 8, 4, 1, 2, 6, 1, 3), openOf(6, 2, 8)},
		{"the first of its client, side by side", openList(4, 1, 1, 6, 1, 2, 6, 1, 3), openList(4, 1, 1, 6, 2, 8, 6, 1, 3), openOf(6, 2, 8)},
		{"two of a lesser one", openList(4, 1, 1, 4, 1, 2, 9, 1, 3), openList(4, 1, 1, 4, 1, 2, 6, 2, 8, 9, 1, 3), openOf(6, 2, 8)},
	}
	for _, row := range rows {
		checkWithOpen(t, row.why, impl.Reg{Opens: row.list}, row.o, row.want)
	}
}

// WithOpen asks of nothing: it stands where its client belongs, even where it is no right one.
func TestWithOpenThatIsNotRight(t *testing.T) {
	const low, high = math.MinInt64, math.MaxInt64
	r := impl.Reg{Stamp: stampOf(low, high), Value: -1, Cert: sealList(-1, low, 99, high), Opens: openList(-1, 0, -5, 4, 1, 1)}
	checkWithOpen(t, "the least", r, openOf(low, high, low), openList(low, high, low, -1, 0, -5, 4, 1, 1))
	checkWithOpen(t, "the greatest", r, openOf(high, low, high), openList(-1, 0, -5, 4, 1, 1, high, low, high))
	checkWithOpen(t, "the zero one", r, impl.Open{}, openList(-1, 0, -5, 0, 0, 0, 4, 1, 1))
	// By its Client, not by that of its Stamp.
	strange := impl.Open{Client: 2, Stamp: stampOf(7, 4), Value: 10000}
	checkWithOpen(t, "another Stamp", r, strange, []impl.Open{r.Opens[0], strange, r.Opens[1]})
	r.Cert = make([]impl.Seal, 21)
	checkWithOpen(t, "a long Cert", r, openOf(4, 2, 2), openList(-1, 0, -5, 4, 2, 2))
}

// manyOpenLists are all lists of up to four clients, each with a Count and a Value of its own.
func manyOpenLists() [][]impl.Open {
	lists := [][]impl.Open{nil}
	for from, size := 0, int64(0); size < 4; size++ {
		until := len(lists)
		for _, list := range lists[from:until] {
			for _, client := range []int64{4, 5, 6, 8} {
				lists = append(lists, append(slices.Clone(list), openOf(client, size+1, size+20)))
			}
		}
		from = until
	}
	return lists
}

func TestWithOpenInManyLists(t *testing.T) {
	g := groupOf(4, 1, 6, 2)
	for _, list := range manyOpenLists() {
		for client := int64(3); client <= 9; client++ {
			o := openOf(client, 9, 90)
			checkWithOpen(t, "many", impl.Reg{Opens: list}, o, wantWithOpen(list, o))
			// Where all is right, a right one more leaves it so.
			if impl.RegOk(g, 0, impl.Reg{Opens: list}) && client > 3 {
				checkReg(t, "one more", g, 0, impl.WithOpen(impl.Reg{Opens: list}, o), true)
			}
		}
	}
}

func TestWithOpenOfAllInAnyOrder(t *testing.T) {
	g := groupOf(4, 1, 6, 2)
	want := openList(4, 5, 40, 5, 6, 50, 6, 7, 60, 7, 8, 70, 8, 9, 80, 9, 10, 90)
	for step := int64(1); step < 7; step++ {
		var r impl.Reg
		for i := range int64(6) {
			client := 4 + (i+1)*step%7 - 1
			r = impl.WithOpen(r, openOf(client, client+1, client*10))
			checkReg(t, "one after the other", g, 0, r, true)
		}
		if !slices.Equal(r.Opens, want) {
			t.Errorf("all that are open, by steps of %d, are %v", step, r.Opens)
		}
	}
}

func wantWritten(g impl.Group, r impl.Reg, c impl.Claim, cert []impl.Seal) (impl.Reg, bool) {
	if !wantRegOk(g, c.Shelf, r) {
		return impl.Reg{}, false
	}
	servers := rightServers(g, c, cert)
	if c.Stamp == stampOf(0, 0) || len(cert) > 20 || !wantQuorum(g, servers) {
		return r, false
	}
	if wantCmpStamp(c.Stamp, r.Stamp) != 1 {
		return r, true
	}
	return withOpens(regOf(g, c, servers...), r.Opens), true
}

// checkWritten fails unless c is written as it must be, once more changes nothing, and nothing becomes older.
func checkWritten(t *testing.T, why string, g impl.Group, r impl.Reg, c impl.Claim, cert []impl.Seal) impl.Reg {
	t.Helper()
	want, wantIs := wantWritten(g, r, c, cert)
	got, is := impl.Written(g, c.Shelf, r, c.Stamp, c.Value, cert)
	if !sameReg(got, want) || is != wantIs {
		t.Errorf("%s: %v Written on %+v by %v is %+v and %v, not %+v and %v", why, c, r, cert, got, is, want, wantIs)
	}
	if !wantRegOk(g, c.Shelf, r) {
		return got
	}
	checkReg(t, why, g, c.Shelf, got, true)
	if order := impl.CmpStamp(got.Stamp, r.Stamp); order != 0 && order != 1 {
		t.Errorf("%s: %v Written on %+v is older: %+v", why, c, r, got)
	}
	if is && impl.CmpStamp(got.Stamp, c.Stamp) < 0 {
		t.Errorf("%s: what was Written, %v, is newer than what stands there: %+v", why, c, got)
	}
	again, isAgain := impl.Written(g, c.Shelf, got, c.Stamp, c.Value, cert)
	if !sameReg(again, got) || isAgain != is {
		t.Errorf("%s: %v Written once more is %+v and %v, not %+v and %v", why, c, again, isAgain, got, is)
	}
	return got
}

// written fails unless c, sealed by those servers, takes the place of what is newest on r.
func written(t *testing.T, why string, g impl.Group, r impl.Reg, c impl.Claim, servers ...int64) {
	t.Helper()
	got := checkWritten(t, why, g, r, c, sealsOf(g, c, servers...))
	if got.Stamp != c.Stamp || got.Value != c.Value || !slices.Equal(got.Opens, r.Opens) {
		t.Errorf("%s: %v is not written on %+v, but %+v", why, c, r, got)
	}
}

// notWritten fails unless r stays as it is, and is answered so.
func notWritten(t *testing.T, why string, g impl.Group, r impl.Reg, c impl.Claim, cert []impl.Seal, is bool) {
	t.Helper()
	checkWritten(t, why, g, r, c, cert)
	got, answered := impl.Written(g, c.Shelf, r, c.Stamp, c.Value, cert)
	if !sameReg(got, r) || answered != is {
		t.Errorf("%s: %v makes %+v and %v of %+v", why, c, got, answered, r)
	}
}

// zeroWritten fails unless the zero Reg and false are answered.
func zeroWritten(t *testing.T, why string, g impl.Group, r impl.Reg, c impl.Claim, cert []impl.Seal) {
	t.Helper()
	checkWritten(t, why, g, r, c, cert)
	if got, is := impl.Written(g, c.Shelf, r, c.Stamp, c.Value, cert); is || !sameReg(got, impl.Reg{}) {
		t.Errorf("%s: %v Written on %+v is %+v and %v", why, c, r, got, is)
	}
}

// writtenReg is a right one on the shelf 1 of noteGroup, with all that it may have.
func writtenReg() impl.Reg {
	return withOpens(regOf(noteGroup(), claimOf(impl.ClReady, 1, 5, 4, 9), 0, 2, 3), openList(4, 7, 1, 5, 6, 2))
}

func TestWrittenInNumbers(t *testing.T) {
	g := impl.Group{Servers: 4, Liars: 1, Clients: 2, Shelves: 2, Keys: []int64{11, 22, 33, 44, 55, 66}}
	c := claimOf(impl.ClReady, 1, 1, 4, 9)
	seals := sealsOf(g, c, 2, 3, 2, 0)
	got, is := impl.Written(g, 1, impl.Reg{Opens: openList(4, 1, 9)}, stampOf(1, 4), 9, append(sealList(1, 7), seals...))
	want := impl.Reg{Stamp: stampOf(1, 4), Value: 9, Cert: []impl.Seal{seals[3], seals[0], seals[1]}, Opens: openList(4, 1, 9)}
	if !is || !sameReg(got, want) {
		t.Errorf("Written is %+v and %v, not %+v", got, is, want)
	}
}

func TestWrittenNewer(t *testing.T) {
	g := noteGroup()
	for _, stamp := range []impl.Stamp{stampOf(5, 5), stampOf(5, 15), stampOf(6, 0), stampOf(6, 4), stampOf(100000, 0), stampOf(100000, 15)} {
		for _, value := range []int64{0, 8, 9, 10, 9999} {
			c := impl.Claim{Kind: impl.ClReady, Shelf: 1, Stamp: stamp, Value: value}
			written(t, "a quorum", g, writtenReg(), c, 0, 1, 2)
			written(t, "all", g, writtenReg(), c, 0, 1, 2, 3)
			written(t, "out of order, some twice", g, writtenReg(), c, 3, 1, 3, 0, 1)
		}
	}
	for _, stamp := range []impl.Stamp{stampOf(1, 0), stampOf(1, 4), stampOf(100000, 15)} {
		c := impl.Claim{Kind: impl.ClReady, Shelf: 1, Stamp: stamp, Value: 8}
		written(t, "on the zero Reg", g, impl.Reg{}, c, 3, 2, 1)
		written(t, "on what is only open", g, impl.Reg{Opens: openList(5, 1, 2)}, c, 3, 2, 1)
	}
}

func TestWrittenLeavesWrongSealsOut(t *testing.T) {
	g, c := noteGroup(), claimOf(impl.ClReady, 1, 6, 4, 8)
	for _, bad := range wrongSeals(g, c) {
		for place := range 4 {
			cert := slices.Insert(sealsOf(g, c, 3, 0, 2), place, bad)
			got := checkWritten(t, "a wrong one among them", g, writtenReg(), c, cert)
			if !slices.Equal(got.Cert, sealsOf(g, c, 0, 2, 3)) {
				t.Errorf("the Cert by %v is %v", cert, got.Cert)
			}
		}
	}
}

func TestWrittenNotNewer(t *testing.T) {
	g, r := noteGroup(), writtenReg()
	for _, stamp := range []impl.Stamp{stampOf(1, 0), stampOf(1, 15), stampOf(4, 4), stampOf(4, 15), stampOf(5, 0), stampOf(5, 3), stampOf(5, 4)} {
		for _, value := range []int64{0, 8, 9, 10, 9999} {
			c := impl.Claim{Kind: impl.ClReady, Shelf: 1, Stamp: stamp, Value: value}
			notWritten(t, "older, or the same", g, r, c, sealsOf(g, c, 2, 1, 0), true)
			notWritten(t, "older, or the same", g, r, c, sealsOf(g, c, 0, 1, 2, 3), true)
			notWritten(t, "older, or the same, by too few", g, r, c, sealsOf(g, c, 0, 2), false)
		}
	}
	// Those of the same Stamp and Value do not bring more Seals either.
	same := claimOf(impl.ClReady, 1, 5, 4, 9)
	notWritten(t, "what stands there", g, r, same, sealsOf(g, same, 0, 1, 2, 3), true)
	notWritten(t, "what stands there", g, r, same, r.Cert, true)
}

func TestTheZeroStampIsNotWritten(t *testing.T) {
	g := noteGroup()
	for _, r := range []impl.Reg{{}, writtenReg(), {Opens: openList(4, 1, 1)}} {
		for _, value := range []int64{math.MinInt64, -1, 0, 1, 9, 10000} {
			c := claimOf(impl.ClReady, 1, 0, 0, value)
			for _, cert := range [][]impl.Seal{nil, {}, sealsOf(g, c, 0, 1, 2, 3), make([]impl.Seal, 20), make([]impl.Seal, 21)} {
				notWritten(t, "the zero Stamp", g, r, c, cert, false)
			}
		}
	}
}

func TestNotProvenIsNotWritten(t *testing.T) {
	g, r, c := noteGroup(), writtenReg(), claimOf(impl.ClReady, 1, 6, 5, 8)
	for _, cert := range [][]impl.Seal{nil, {}, sealsOf(g, c, 1), sealsOf(g, c, 0, 3), sealsOf(g, c, 3, 3, 3, 3), r.Cert, wrongSeals(g, c)[:20]} {
		notWritten(t, "not enough", g, r, c, cert, false)
		notWritten(t, "not enough", g, impl.Reg{}, c, cert, false)
	}
	for _, other := range otherClaims(c) {
		notWritten(t, "sealed for another", g, r, c, sealsOf(g, other, 0, 1, 2, 3), false)
	}
	for _, stamp := range []impl.Stamp{stampOf(0, 4), stampOf(-1, 4), stampOf(100001, 4), stampOf(6, -1), stampOf(6, 16), stampOf(math.MaxInt64, 4), stampOf(math.MinInt64, 0)} {
		c := impl.Claim{Kind: impl.ClReady, Shelf: 1, Stamp: stamp, Value: 8}
		notWritten(t, "no Stamp", g, r, c, sealsOf(g, c, 0, 1, 2, 3), false)
	}
	for _, value := range []int64{math.MinInt64, -1, 10000, math.MaxInt64} {
		c := claimOf(impl.ClReady, 1, 6, 5, value)
		notWritten(t, "no Value", g, r, c, sealsOf(g, c, 0, 1, 2, 3), false)
	}
}

func TestWrittenAboutAQuorum(t *testing.T) {
	for _, g := range rightGroups() {
		quorum := (g.Servers+g.Liars)/2 + 1
		old, c := claimOf(impl.ClReady, 0, 2, 4, 9), claimOf(impl.ClReady, 0, 3, 1, 7)
		r := withOpens(regOf(g, old, upTo(quorum)...), openList(g.Servers, 3, 3))
		written(t, "a quorum", g, r, c, upTo(quorum)...)
		notWritten(t, "one less", g, r, c, sealsOf(g, c, upTo(quorum-1)...), false)
	}
}

func TestMaxSealsToWrite(t *testing.T) {
	g, r := noteGroup(), writtenReg()
	for _, c := range []impl.Claim{claimOf(impl.ClReady, 1, 6, 5, 8), claimOf(impl.ClReady, 1, 5, 4, 9), claimOf(impl.ClReady, 1, 2, 5, 8)} {
		var all []impl.Seal
		for range 6 {
			all = append(all, sealsOf(g, c, 3, 2, 1, 0)...)
		}
		if got := checkWritten(t, "just MaxSeals", g, r, c, all[:20]); got.Stamp != impl.NewestOf([]impl.Stamp{r.Stamp, c.Stamp}) {
			t.Errorf("%v is not written by just MaxSeals: %+v", c, got)
		}
		notWritten(t, "one more", g, r, c, all[:21], false)
		notWritten(t, "more", g, r, c, all, false)
		checkWritten(t, "wrong ones ahead", g, r, c, append(make([]impl.Seal, 17), all[:3]...))
		notWritten(t, "a wrong one too many", g, r, c, append(make([]impl.Seal, 18), all[:3]...), false)
	}
}

func TestNothingIsWrittenOnAWrongReg(t *testing.T) {
	g, c := noteGroup(), claimOf(impl.ClReady, 1, 6, 5, 8)
	order, twice, short, opens, value, kind, other := writtenReg(), writtenReg(), writtenReg(), writtenReg(), writtenReg(), writtenReg(), writtenReg()
	slices.Reverse(order.Cert)
	twice.Cert = append(twice.Cert, twice.Cert[2])
	short.Cert = short.Cert[:2]
	slices.Reverse(opens.Opens)
	value.Opens[1].Value = 10000
	kind.Cert = sealsOf(g, claimOf(impl.ClWrote, 1, 5, 4, 9), 0, 2, 3)
	other.Value = 8
	for _, r := range []impl.Reg{order, twice, short, opens, value, kind, other, {Value: 1}, {Cert: sealList(0, 0)}, {Opens: openList(3, 1, 1)}} {
		zeroWritten(t, "a wrong Reg", g, r, c, sealsOf(g, c, 0, 1, 2))
		zeroWritten(t, "a wrong Reg, not proven", g, r, c, nil)
		zeroWritten(t, "a wrong Reg, the zero Stamp", g, r, claimOf(impl.ClReady, 1, 0, 0, 0), nil)
		zeroWritten(t, "a wrong Reg, an older Stamp", g, r, claimOf(impl.ClReady, 1, 1, 4, 3), sealsOf(g, claimOf(impl.ClReady, 1, 1, 4, 3), 0, 1, 2))
		zeroWritten(t, "a wrong Reg, too many Seals", g, r, c, make([]impl.Seal, 21))
	}
}

func TestNothingIsWrittenOnAWrongShelf(t *testing.T) {
	g := noteGroup()
	for _, shelf := range []int64{math.MinInt64, -1, 2, 3, 4, math.MaxInt64} {
		c := claimOf(impl.ClReady, shelf, 6, 5, 8)
		zeroWritten(t, "no shelf", g, impl.Reg{}, c, sealsOf(g, c, 0, 1, 2, 3))
		zeroWritten(t, "no shelf", g, writtenReg(), c, sealsOf(g, c, 0, 1, 2, 3))
	}
	// What stands on another shelf is not sealed for this one.
	c := claimOf(impl.ClReady, 0, 6, 5, 8)
	zeroWritten(t, "another shelf", g, writtenReg(), c, sealsOf(g, c, 0, 1, 2, 3))
	written(t, "its own shelf", g, impl.Reg{}, c, 0, 1, 2)
}

func TestNothingIsWrittenInAWrongGroup(t *testing.T) {
	c := claimOf(impl.ClReady, 1, 6, 5, 8)
	for _, g := range wrongGroups() {
		for _, r := range []impl.Reg{{}, writtenReg(), {Opens: openList(4, 1, 1)}} {
			zeroWritten(t, "a wrong group", g, r, c, sealsOf(noteGroup(), c, 0, 1, 2, 3))
			zeroWritten(t, "a wrong group", g, r, claimOf(impl.ClReady, 1, 0, 0, 0), nil)
		}
	}
}

// Whatever is written, in whatever order, the newest of all that was proven stands there at the end.
func TestWhatIsWrittenIsNeverOlder(t *testing.T) {
	g, servers := noteGroup(), [][]int64{{0, 1, 2}, {3, 2, 1, 0}, {3, 1, 0}, {1, 2}}
	for step := int64(1); step < 29; step++ {
		r := impl.Reg{Opens: openList(4, 1, 1, 5, 9, 2)}
		var proven []impl.Stamp
		for i := range int64(28) {
			at := i * step % 29
			c := claimOf(impl.ClReady, 1, at/4, at%4*5, i)
			sealed := servers[i%4]
			if len(sealed) > 2 && at/4 > 0 {
				proven = append(proven, c.Stamp)
			}
			r = checkWritten(t, "one after the other", g, r, c, sealsOf(g, c, sealed...))
			if r.Stamp != impl.NewestOf(proven) {
				t.Fatalf("%v stands there behind %v", r.Stamp, proven)
			}
		}
	}
}

func TestManyWritten(t *testing.T) {
	g := noteGroup()
	regs := []impl.Reg{{}, {Opens: openList(5, 1, 1)}, {Opens: openList(3, 1, 1)}, {Value: 3}, {Stamp: stampOf(0, 4)}}
	stamps := []impl.Stamp{{}, stampOf(0, 5), stampOf(1, 4), stampOf(2, 4), stampOf(2, 5), stampOf(3, 0), stampOf(100001, 0)}
	for _, stamp := range stamps {
		for _, servers := range [][]int64{{0, 1, 2}, {0, 1, 2, 3}, {0, 2}, {2, 1, 0}} {
			c := impl.Claim{Kind: impl.ClReady, Shelf: 1, Stamp: stamp, Value: 9}
			regs = append(regs, regOf(g, c, servers...), withOpens(regOf(g, c, servers...), openList(4, 3, 3, 5, 4, 4)))
		}
	}
	for _, r := range regs {
		for _, stamp := range stamps {
			for shelf := int64(-1); shelf <= 2; shelf++ {
				for _, value := range []int64{-1, 0, 9, 9999, 10000} {
					c := impl.Claim{Kind: impl.ClReady, Shelf: shelf, Stamp: stamp, Value: value}
					for _, servers := range [][]int64{nil, {0, 1}, {3, 0, 1}, {0, 1, 2, 3}} {
						checkWritten(t, "many", g, r, c, sealsOf(g, c, servers...))
					}
				}
			}
		}
	}
}

func useReg(g impl.Group, r impl.Reg, cert []impl.Seal) {
	impl.RegOk(g, 1, r)
	impl.RegOk(g, -1, r)
	for _, client := range []int64{3, 4, 5, 6, 9} {
		impl.OpenOf(r, client)
		impl.WithOpen(r, openOf(client, 8, 77))
	}
	impl.Written(g, 1, r, stampOf(6, 5), 8, cert)
	impl.Written(g, 1, r, stampOf(4, 5), 8, cert)
	impl.Written(g, 1, r, impl.Stamp{}, 0, cert)
	impl.Written(g, 2, r, stampOf(6, 5), 8, cert)
}

func TestRegArgumentsStay(t *testing.T) {
	g, r, c := noteGroup(), writtenReg(), claimOf(impl.ClReady, 1, 6, 5, 8)
	newCert := append(sealList(2, 5), sealsOf(g, c, 3, 1, 3, 0)...)
	for _, stamp := range []impl.Stamp{r.Stamp, {}} {
		listStays(t, append(r.Cert, sealList(1, 7, 0, 8)...), func(old []impl.Seal) {
			listStays(t, append(r.Opens, openList(6, 1, 5, 3, 1, 6)...), func(opens []impl.Open) {
				listStays(t, newCert, func(cert []impl.Seal) {
					keysStay(t, func(g impl.Group) {
						useReg(g, impl.Reg{Stamp: stamp, Value: r.Value, Cert: old, Opens: opens}, cert)
					})
					useReg(g, impl.Reg{Opens: opens}, cert)
				})
			})
		})
	}
}

func scribbleReg(r impl.Reg) {
	scribble(r.Cert)
	fillRoom(r.Opens, openOf(-77, -78, -79))
}

// regAnswers hands to use each way in which a Reg is answered of r, which is written anew by cert.
func regAnswers(g impl.Group, c impl.Claim, use func(why string, answer func(r impl.Reg, cert []impl.Seal) impl.Reg)) {
	for _, client := range []int64{3, 4, 5, 9} {
		use("WithOpen", func(r impl.Reg, cert []impl.Seal) impl.Reg { return impl.WithOpen(r, openOf(client, 8, 77)) })
	}
	for _, count := range []int64{c.Stamp.Count, 3, 0, 100001} {
		use("Written", func(r impl.Reg, cert []impl.Seal) impl.Reg {
			got, _ := impl.Written(g, 1, r, stampOf(count, 5), c.Value, cert)
			return got
		})
	}
	use("an older one Written", func(r impl.Reg, cert []impl.Seal) impl.Reg {
		old := claimOf(impl.ClReady, 1, 1, 4, 3)
		got, _ := impl.Written(g, 1, r, old.Stamp, old.Value, sealsOf(g, old, 0, 1, 2))
		return got
	})
}

// regIsNew fails if two answers share memory, or the lists of one do, or an answer has some of that of r or of the Seals that were given.
func regIsNew(t *testing.T, why string, r impl.Reg, given [][]impl.Seal, answer func() impl.Reg) {
	t.Helper()
	cert, opens, lists := roomOf(r.Cert), roomOf(r.Opens), make([][]impl.Seal, len(given))
	for i, list := range given {
		lists[i] = roomOf(list)
	}
	first, second := answer(), answer()
	want := impl.Reg{Stamp: first.Stamp, Value: first.Value, Cert: slices.Clone(first.Cert), Opens: slices.Clone(first.Opens)}
	scribble(second.Cert)
	if !slices.Equal(second.Opens, want.Opens) {
		t.Errorf("%s: the Opens of an answer are in the memory of its Cert", why)
	}
	scribbleReg(second)
	if !sameReg(first, want) || !sameReg(answer(), want) {
		t.Errorf("%s: two answers share memory", why)
	}
	for i, list := range given {
		if !slices.Equal(roomOf(list), lists[i]) {
			t.Fatalf("%s: an answer has some of the memory of given Seals", why)
		}
	}
	if !slices.Equal(roomOf(r.Cert), cert) || !slices.Equal(roomOf(r.Opens), opens) {
		t.Fatalf("%s: an answer has some of the memory of the Reg", why)
	}
}

// roomOf is a copy of a list and of the room behind it.
func roomOf[T any](list []T) []T { return slices.Clone(list[:cap(list)]) }

func TestRegAnswersAreNewMemory(t *testing.T) {
	g, c := noteGroup(), claimOf(impl.ClReady, 1, 6, 5, 8)
	for _, r := range []impl.Reg{writtenReg(), {Opens: openList(4, 1, 1)}, {}, withOpens(writtenReg(), nil), {Cert: make([]impl.Seal, 0, 9), Opens: make([]impl.Open, 0, 9)}} {
		cert := sealsOf(g, c, 0, 1, 2, 3)
		r.Cert, r.Opens = append(r.Cert, sealList(1, 7)...)[:len(r.Cert)], append(r.Opens, openOf(6, 1, 5))[:len(r.Opens)]
		regAnswers(g, c, func(why string, answer func(r impl.Reg, cert []impl.Seal) impl.Reg) {
			regIsNew(t, why, r, [][]impl.Seal{cert}, func() impl.Reg { return answer(r, cert) })
		})
		kept := impl.WithOpen(r, openOf(5, 8, 77))
		want := withOpens(impl.Reg{Stamp: kept.Stamp, Value: kept.Value, Cert: slices.Clone(kept.Cert)}, slices.Clone(kept.Opens))
		scribbleReg(r)
		if !sameReg(kept, want) {
			t.Error("an answer changes with an argument")
		}
	}
}
