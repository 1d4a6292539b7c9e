package impl

const MaxServers = 10
const MaxClients = 6
const MaxShelves = 4
const MaxKey = 1000000

type Group struct {
	Servers int64
	Liars   int64
	Clients int64
	Shelves int64
	Keys    []int64
}

func GroupOk(g Group) bool {
	// The bounds of Liars and Keys are reckoned from Servers and Clients, so those are asked first.
	rules := []func() bool{g.serversOk, g.clientsOk, g.shelvesOk, g.liarsOk, g.keysOk}
	for _, holds := range rules {
		if !holds() {
			return false
		}
	}
	return true
}

func QuorumOf(g Group) int64 {
	if !GroupOk(g) {
		return -1
	}
	return (g.Servers+g.Liars)/2 + 1
}

func IsServer(g Group, node int64) bool {
	return GroupOk(g) && within(node, 0, g.Servers-1)
}

func IsClient(g Group, node int64) bool {
	return GroupOk(g) && within(node, g.Servers, g.nodes()-1)
}

func (g Group) serversOk() bool { return within(g.Servers, 1, MaxServers) }

// liarsOk divides Servers, because 3 times Liars could go round at the ends of int64.
func (g Group) liarsOk() bool { return within(g.Liars, 0, (g.Servers-1)/3) }

func (g Group) clientsOk() bool { return within(g.Clients, 1, MaxClients) }

func (g Group) shelvesOk() bool { return within(g.Shelves, 1, MaxShelves) }

func (g Group) keysOk() bool {
	if int64(len(g.Keys)) != g.nodes() {
		return false
	}
	for _, key := range g.Keys {
		if !within(key, 1, MaxKey) {
			return false
		}
	}
	return true
}

func (g Group) nodes() int64 { return g.Servers + g.Clients }

func within(n int64, low int64, high int64) bool { return low <= n && n <= high }
