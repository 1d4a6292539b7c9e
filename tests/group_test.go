package tests

import (
	"math"
	"math/big"
	"math/bits"
	"slices"
	"testing"

	"loop.example/g00695/impl"
)

func groupOf(servers, liars, clients, shelves int64) impl.Group {
	return impl.Group{Servers: servers, Liars: liars, Clients: clients, Shelves: shelves, Keys: keysOf(servers + clients)}
}

func keysOf(count int64) []int64 {
	keys := make([]int64, count)
	for i := range keys {
		keys[i] = int64(i) + 11
	}
	return keys
}

// rightGroups are all groups that are GroupOk, but for the choice of the keys.
func rightGroups() []impl.Group {
	var list []impl.Group
	for servers := int64(1); servers <= 10; servers++ {
		for liars := int64(0); 3*liars+1 <= servers; liars++ {
			for clients := int64(1); clients <= 6; clients++ {
				for shelves := int64(1); shelves <= 4; shelves++ {
					list = append(list, groupOf(servers, liars, clients, shelves))
				}
			}
		}
	}
	return list
}

// refused fails unless all four functions take g as not GroupOk.
func refused(t *testing.T, why string, g impl.Group) {
	t.Helper()
	if impl.GroupOk(g) {
		t.Errorf("%s: GroupOk of %v", why, g)
	}
	if q := impl.QuorumOf(g); q != -1 {
		t.Errorf("%s: QuorumOf %v is %d", why, g, q)
	}
	for _, node := range []int64{math.MinInt64, -1, 0, g.Servers - 1, g.Servers, g.Servers + g.Clients - 1, math.MaxInt64} {
		if impl.IsServer(g, node) || impl.IsClient(g, node) {
			t.Errorf("%s: %d is a node of %v", why, node, g)
		}
	}
}

func accepted(t *testing.T, why string, g impl.Group) {
	t.Helper()
	if !impl.GroupOk(g) {
		t.Errorf("%s: not GroupOk: %v", why, g)
	}
	if impl.QuorumOf(g) < 1 {
		t.Errorf("%s: QuorumOf %v is %d", why, g, impl.QuorumOf(g))
	}
	if !impl.IsServer(g, 0) || !impl.IsClient(g, g.Servers) {
		t.Errorf("%s: the first nodes of %v", why, g)
	}
}

func TestOrdinaryGroups(t *testing.T) {
	for _, g := range rightGroups() {
		accepted(t, "ordinary", g)
	}
}

func TestServersLimits(t *testing.T) {
	accepted(t, "one server", groupOf(1, 0, 2, 2))
	accepted(t, "MaxServers", groupOf(impl.MaxServers, 1, 2, 2))
	refused(t, "no server", groupOf(0, 0, 2, 2))
	refused(t, "a server too many", groupOf(impl.MaxServers+1, 1, 2, 2))
	refused(t, "servers below 0", groupOf(-1, 0, 2, 2))
}

func TestLiarsLimits(t *testing.T) {
	for liars := int64(0); liars <= 3; liars++ {
		accepted(t, "3 times Liars and 1", groupOf(3*liars+1, liars, 2, 2))
		refused(t, "one below 3 times Liars and 1", groupOf(3*liars, liars, 2, 2))
	}
	for _, servers := range []int64{1, 2, 3} {
		accepted(t, "no liar", groupOf(servers, 0, 2, 2))
		refused(t, "a liar too many", groupOf(servers, 1, 2, 2))
	}
	accepted(t, "most liars", groupOf(10, 3, 2, 2))
	refused(t, "a liar past the most", groupOf(10, 4, 2, 2))
	refused(t, "liars below 0", groupOf(4, -1, 2, 2))
}

func TestLiarsThatGoRound(t *testing.T) {
	const third = math.MaxInt64 / 3
	for _, liars := range []int64{third, third + 1, third + 2, 2 * third, 2*third + 1, 2*third + 2, math.MaxInt64 - 1, math.MaxInt64} {
		for _, servers := range []int64{1, 4, 10} {
			refused(t, "liars go round", groupOf(servers, liars, 2, 2))
			refused(t, "liars go round", groupOf(servers, -liars, 2, 2))
		}
	}
	refused(t, "the least liars", groupOf(4, math.MinInt64, 2, 2))
}

func TestClientsLimits(t *testing.T) {
	accepted(t, "one client", groupOf(4, 1, 1, 2))
	accepted(t, "MaxClients", groupOf(4, 1, impl.MaxClients, 2))
	refused(t, "no client", groupOf(4, 1, 0, 2))
	refused(t, "a client too many", groupOf(4, 1, impl.MaxClients+1, 2))
	refused(t, "clients below 0", groupOf(4, 1, -1, 2))
}

func TestShelvesLimits(t *testing.T) {
	accepted(t, "one shelf", groupOf(4, 1, 2, 1))
	accepted(t, "MaxShelves", groupOf(4, 1, 2, impl.MaxShelves))
	for _, shelves := range []int64{math.MinInt64, -1, 0, impl.MaxShelves + 1, math.MaxInt64} {
		refused(t, "shelves", groupOf(4, 1, 2, shelves))
	}
}

func TestHowManyKeys(t *testing.T) {
	g := groupOf(4, 1, 2, 2)
	for _, count := range []int64{0, 1, 4, 5, 7, 12} {
		g.Keys = keysOf(count)
		refused(t, "as many keys as there are nodes", g)
	}
	g.Keys = nil
	refused(t, "nil keys", g)
	g.Keys = keysOf(7)[:6]
	accepted(t, "spare room behind the keys", g)
}

func TestEachKey(t *testing.T) {
	for place := range 6 {
		for _, key := range []int64{1, impl.MaxKey} {
			g := groupOf(4, 1, 2, 2)
			g.Keys[place] = key
			accepted(t, "a key at its limit", g)
		}
		for _, key := range []int64{math.MinInt64, -1, 0, impl.MaxKey + 1, math.MaxInt64} {
			g := groupOf(4, 1, 2, 2)
			g.Keys[place] = key
			refused(t, "a key past its limit", g)
		}
	}
	same := groupOf(4, 1, 2, 2)
	same.Keys = []int64{7, 7, 7, 7, 7, 7}
	accepted(t, "keys may be alike", same)
}

func TestLimitsOfGroups(t *testing.T) {
	if impl.MaxServers != 10 || impl.MaxClients != 6 || impl.MaxShelves != 4 || impl.MaxKey != 1000000 {
		t.Error("a limit is not the document's")
	}
}

// wantGroupOk reckons without bounds, so that nothing goes round.
func wantGroupOk(g impl.Group) bool {
	from := func(n, low, high int64) bool { return n >= low && n <= high }
	least := new(big.Int).Mul(big.NewInt(g.Liars), big.NewInt(3))
	least.Add(least, big.NewInt(1))
	nodes := new(big.Int).Add(big.NewInt(g.Servers), big.NewInt(g.Clients))
	bad := func(key int64) bool { return !from(key, 1, 1000000) }
	return from(g.Servers, 1, 10) && g.Liars >= 0 && big.NewInt(g.Servers).Cmp(least) >= 0 &&
		from(g.Clients, 1, 6) && from(g.Shelves, 1, 4) &&
		nodes.Cmp(big.NewInt(int64(len(g.Keys)))) == 0 && !slices.ContainsFunc(g.Keys, bad)
}

func TestGroupsAtTheEndsOfNumbers(t *testing.T) {
	numbers := []int64{math.MinInt64, math.MinInt64 + 2, -math.MaxInt64 / 3, -2, -1, 0, 1, 2, 4, 7, 10, 11, math.MaxInt64/3 + 1, 2*(math.MaxInt64/3) + 1, math.MaxInt64 - 1, math.MaxInt64}
	for _, servers := range numbers {
		for _, liars := range numbers {
			for _, clients := range numbers {
				for _, shelves := range []int64{math.MinInt64, 0, 1, 4, 5, math.MaxInt64} {
					for count := range int64(18) {
						g := impl.Group{Servers: servers, Liars: liars, Clients: clients, Shelves: shelves, Keys: keysOf(count)}
						checkGroup(t, g)
					}
				}
			}
		}
	}
}

func checkGroup(t *testing.T, g impl.Group) {
	t.Helper()
	if !wantGroupOk(g) {
		refused(t, "ends", g)
		return
	}
	accepted(t, "ends", g)
}

func TestQuorums(t *testing.T) {
	rows := []struct{ servers, liars, quorum int64 }{
		{1, 0, 1}, {2, 0, 2}, {3, 0, 2}, {4, 0, 3}, {4, 1, 3}, {5, 0, 3}, {5, 1, 4}, {6, 1, 4}, {7, 0, 4},
		{7, 1, 5}, {7, 2, 5}, {8, 2, 6}, {9, 2, 6}, {10, 0, 6}, {10, 1, 6}, {10, 2, 7}, {10, 3, 7},
	}
	for _, row := range rows {
		if q := impl.QuorumOf(groupOf(row.servers, row.liars, 2, 2)); q != row.quorum {
			t.Errorf("QuorumOf %d servers, %d liars is %d, not %d", row.servers, row.liars, q, row.quorum)
		}
	}
}

func TestTwoQuorumsShareMoreThanCanLie(t *testing.T) {
	for _, g := range rightGroups() {
		q := impl.QuorumOf(g)
		if q > g.Servers-g.Liars {
			t.Errorf("those of %v that do not lie are no quorum", g)
		}
		quorums := setsOf(g.Servers, q)
		// The servers are alike but for their numbers, so one quorum against all is every pair.
		for _, other := range quorums {
			if common := int64(bits.OnesCount(quorums[0] & other)); common <= g.Liars {
				t.Fatalf("quorums %b and %b of %v have %d in common", quorums[0], other, g, common)
			}
		}
	}
}

// setsOf are all sets, as bits, of that size among so many servers.
func setsOf(servers, size int64) []uint {
	var list []uint
	for set := range uint(1) << servers {
		if int64(bits.OnesCount(set)) == size {
			list = append(list, set)
		}
	}
	return list
}

func TestServersAndClients(t *testing.T) {
	for _, g := range rightGroups() {
		for node := int64(-3); node <= 20; node++ {
			checkNode(t, g, node)
		}
		for _, node := range []int64{math.MinInt64, math.MinInt64 + 1, math.MaxInt64 - 1, math.MaxInt64} {
			checkNode(t, g, node)
		}
	}
}

func checkNode(t *testing.T, g impl.Group, node int64) {
	t.Helper()
	if impl.IsServer(g, node) != (node >= 0 && node < g.Servers) {
		t.Errorf("IsServer of %d in %v", node, g)
	}
	if impl.IsClient(g, node) != (node >= g.Servers && node < g.Servers+g.Clients) {
		t.Errorf("IsClient of %d in %v", node, g)
	}
}

func TestFirstAndLastNodes(t *testing.T) {
	g := groupOf(4, 1, 2, 2)
	rows := []struct {
		node           int64
		server, client bool
	}{{-1, false, false}, {0, true, false}, {3, true, false}, {4, false, true}, {5, false, true}, {6, false, false}}
	for _, row := range rows {
		if impl.IsServer(g, row.node) != row.server || impl.IsClient(g, row.node) != row.client {
			t.Errorf("node %d", row.node)
		}
	}
	g.Shelves = 0
	for _, row := range rows {
		if impl.IsServer(g, row.node) || impl.IsClient(g, row.node) {
			t.Errorf("node %d of a group that is not GroupOk", row.node)
		}
	}
}

// keysStay calls use with ever more keys, and fails if they or the room behind them were written into.
func keysStay(t *testing.T, use func(g impl.Group)) {
	t.Helper()
	room := keysOf(9)
	before := slices.Clone(room)
	g := impl.Group{Servers: 4, Liars: 1, Clients: 2, Shelves: 2}
	for count := range len(room) + 1 {
		g.Keys = room[:count]
		use(g)
	}
	if !slices.Equal(room, before) {
		t.Error("the keys or the room behind them were written into")
	}
}

func TestGroupArgumentsStay(t *testing.T) {
	keysStay(t, func(g impl.Group) {
		impl.GroupOk(g)
		impl.QuorumOf(g)
		impl.IsServer(g, 1)
		impl.IsClient(g, 4)
	})
}
