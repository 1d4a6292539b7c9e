package tests

import (
	"maps"
	"math"
	"slices"
	"testing"

	"loop.example/g00695/impl"
)

func sealOf(who, tag int64) impl.Seal {
	return impl.Seal{Who: who, Tag: tag}
}

// sealList has each two numbers as a Who and a Tag.
func sealList(numbers ...int64) []impl.Seal {
	var list []impl.Seal
	for pair := range slices.Chunk(numbers, 2) {
		list = append(list, sealOf(pair[0], pair[1]))
	}
	return list
}

// sealsOf are the right ones of those servers, in that order.
func sealsOf(g impl.Group, c impl.Claim, servers ...int64) []impl.Seal {
	var list []impl.Seal
	for _, who := range servers {
		list = append(list, sealOf(who, mixOf(g.Keys[who], wantDigest(c), who)))
	}
	return list
}

func upTo(count int64) []int64 {
	var list []int64
	for n := range count {
		list = append(list, n)
	}
	return list
}

// readyOf is a Claim that is right in every Group that has a shelf.
func readyOf(value int64) impl.Claim {
	return claimOf(impl.ClReady, 0, 2, 4, value)
}

// wrongSeals are no right ones of c: another Tag, another Who, another Claim, no server.
func wrongSeals(g impl.Group, c impl.Claim) []impl.Seal {
	list := []impl.Seal{{}, sealOf(-1, 1), sealOf(math.MinInt64, 0), sealOf(math.MaxInt64, 0), sealOf(impl.MaxServers, 7), sealOf(g.Servers, 5)}
	for who := range g.Servers {
		s := sealsOf(g, c, who)[0]
		list = append(list, sealOf(who, s.Tag+1), sealOf(who, -s.Tag), sealOf(who, 0), sealOf(who+1, s.Tag), sealOf(who-1, s.Tag))
		for _, other := range otherClaims(c) {
			list = append(list, sealsOf(g, other, who)...)
		}
	}
	return list
}

// wantJoin keeps the first one of each Who, and lays them by Who.
func wantJoin(a, b []impl.Seal) []impl.Seal {
	first := map[int64]impl.Seal{}
	for _, list := range [][]impl.Seal{a, b} {
		for _, s := range list {
			if _, is := first[s.Who]; !is {
				first[s.Who] = s
			}
		}
	}
	var list []impl.Seal
	for _, who := range slices.Sorted(maps.Keys(first)) {
		list = append(list, first[who])
	}
	return list
}

func checkJoin(t *testing.T, why string, a, b, want []impl.Seal) {
	t.Helper()
	got := impl.JoinSeals(a, b)
	if !slices.Equal(got, want) {
		t.Errorf("%s: JoinSeals %v, %v is %v, not %v", why, a, b, got, want)
	}
	for i := 1; i < len(got); i++ {
		if got[i-1].Who >= got[i].Who {
			t.Errorf("%s: JoinSeals %v, %v does not rise: %v", why, a, b, got)
		}
	}
	if again := impl.JoinSeals(got, got); !slices.Equal(again, got) {
		t.Errorf("%s: %v joined with itself is %v", why, got, again)
	}
}

func TestLimitOfSeals(t *testing.T) {
	if impl.MaxSeals != 20 {
		t.Error("MaxSeals is not the document's")
	}
}

func TestJoinNothing(t *testing.T) {
	for _, a := range [][]impl.Seal{nil, {}, make([]impl.Seal, 0, 5)} {
		for _, b := range [][]impl.Seal{nil, {}, make([]impl.Seal, 0, 5)} {
			checkJoin(t, "nothing", a, b, nil)
		}
	}
}

func TestJoinSealsInNumbers(t *testing.T) {
	rows := []struct {
		why        string
		a, b, want []impl.Seal
	}{
		{"one alone", sealList(3, 8), nil, sealList(3, 8)},
		{"one behind nothing", nil, sealList(3, 8), sealList(3, 8)},
		{"rising alone", sealList(0, 5, 1, 6, 9, 7), nil, sealList(0, 5, 1, 6, 9, 7)},
		{"falling alone", sealList(9, 7, 1, 6, 0, 5), nil, sealList(0, 5, 1, 6, 9, 7)},
		{"falling behind nothing", nil, sealList(9, 7, 1, 6, 0, 5), sealList(0, 5, 1, 6, 9, 7)},
		{"b below a", sealList(4, 1, 5, 2), sealList(1, 3, 2, 4), sealList(1, 3, 2, 4, 4, 1, 5, 2)},
		{"between each other", sealList(4, 1, 0, 2, 2, 3), sealList(3, 4, 5, 5, 1, 6), sealList(0, 2, 1, 6, 2, 3, 3, 4, 4, 1, 5, 5)},
		{"twice within a", sealList(2, 9, 2, 1, 2, 5), nil, sealList(2, 9)},
		{"twice within a, apart", sealList(2, 9, 0, 4, 2, 1), sealList(1, 7), sealList(0, 4, 1, 7, 2, 9)},
		{"twice within b", sealList(1, 7), sealList(2, 9, 0, 4, 2, 1), sealList(0, 4, 1, 7, 2, 9)},
		{"in both", sealList(2, 9, 0, 5), sealList(2, 1, 1, 7), sealList(0, 5, 1, 7, 2, 9)},
		{"in both, less in a", sealList(2, 1, 0, 5), sealList(2, 9, 1, 7), sealList(0, 5, 1, 7, 2, 1)},
		{"last in a, first in b", sealList(0, 5, 2, 9), sealList(2, 1, 0, 1), sealList(0, 5, 2, 9)},
		{"twice in both", sealList(1, 3, 1, 2), sealList(1, 1, 1, 4), sealList(1, 3)},
		{"alike", sealList(1, 3, 1, 3), sealList(1, 3), sealList(1, 3)},
		{"the zero one", []impl.Seal{{}, {}}, []impl.Seal{{}}, []impl.Seal{{}}},
		{"below 0", sealList(0, 1, -1, 2), sealList(-2, 3, -1, 4), sealList(-2, 3, -1, 2, 0, 1)},
		{"one Tag, two Whos", sealList(7, 4), sealList(6, 4), sealList(6, 4, 7, 4)},
	}
	for _, row := range rows {
		checkJoin(t, row.why, row.a, row.b, row.want)
	}
}

func TestJoinSealsAtTheEndsOfNumbers(t *testing.T) {
	const low, high = math.MinInt64, math.MaxInt64
	checkJoin(t, "ends", sealList(high, low, 0, 0, low, high), sealList(high, 1, low, 2, -1, high),
		sealList(low, high, -1, high, 0, 0, high, low))
	checkJoin(t, "beside the ends", sealList(high, 1, low+1, 2), sealList(high-1, 3, low, 4),
		sealList(low, 4, low+1, 2, high-1, 3, high, 1))
}

// manySealLists are all lists of up to three Seals, of three Whos, each with a Tag of its own.
func manySealLists(tag int64) [][]impl.Seal {
	lists := [][]impl.Seal{nil}
	for from, size := 0, 0; size < 3; size++ {
		until := len(lists)
		for _, list := range lists[from:until] {
			for _, who := range []int64{-1, 0, 4} {
				lists = append(lists, append(slices.Clone(list), sealOf(who, tag+int64(len(list)))))
			}
		}
		from = until
	}
	return lists
}

func TestJoinManySeals(t *testing.T) {
	for _, a := range manySealLists(10) {
		for _, b := range manySealLists(20) {
			checkJoin(t, "many", a, b, wantJoin(a, b))
		}
	}
}

// Lists that are long enough that a sort which is not stable would show.
func TestJoinLongLists(t *testing.T) {
	var a, b []impl.Seal
	for i := range int64(300) {
		a = append(a, sealOf(i*7%13, i))
		b = append(b, sealOf(i*5%17, 1000+i))
	}
	checkJoin(t, "long", a, b, wantJoin(a, b))
	checkJoin(t, "long", b, a, wantJoin(b, a))
	if n := len(impl.JoinSeals(a, b)); n != 17 {
		t.Errorf("%d seals of 17 servers", n)
	}
}

func checkGood(t *testing.T, why string, g impl.Group, c impl.Claim, list, want []impl.Seal) {
	t.Helper()
	if got := impl.GoodSeals(g, c, list); !slices.Equal(got, want) {
		t.Errorf("%s: GoodSeals %v for %v is %v, not %v", why, list, c, got, want)
	}
	if n := impl.CertCount(g, c, list); n != int64(len(want)) {
		t.Errorf("%s: CertCount %v for %v is %d, not %d", why, list, c, n, len(want))
	}
	sure := impl.GroupOk(g) && len(list) <= 20 && int64(len(want)) >= (g.Servers+g.Liars)/2+1
	if impl.CertOk(g, c, list) != sure {
		t.Errorf("%s: CertOk of %v for %v is not %v", why, list, c, sure)
	}
}

func TestGoodSealsOfOrdinaryLists(t *testing.T) {
	g := groupOf(4, 1, 2, 2)
	for _, c := range []impl.Claim{readyOf(9), claimOf(2, 1, 2, 4, 9), claimOf(1, 0, 0, 0, 0), claimOf(2, 3, 100000, 15, 9999)} {
		checkGood(t, "nothing", g, c, nil, nil)
		checkGood(t, "nothing", g, c, []impl.Seal{}, nil)
		checkGood(t, "one", g, c, sealsOf(g, c, 2), sealsOf(g, c, 2))
		checkGood(t, "all", g, c, sealsOf(g, c, 0, 1, 2, 3), sealsOf(g, c, 0, 1, 2, 3))
		checkGood(t, "out of order", g, c, sealsOf(g, c, 3, 1, 0, 2), sealsOf(g, c, 0, 1, 2, 3))
		checkGood(t, "twice", g, c, sealsOf(g, c, 3, 0, 3), sealsOf(g, c, 0, 3))
		checkGood(t, "one as often as a quorum", g, c, sealsOf(g, c, 1, 1, 1, 1, 1), sealsOf(g, c, 1))
		checkGood(t, "all twice", g, c, sealsOf(g, c, 3, 2, 1, 0, 0, 1, 2, 3), sealsOf(g, c, 0, 1, 2, 3))
	}
}

func TestGoodSealsBesideWrongOnes(t *testing.T) {
	g, c := groupOf(4, 1, 2, 2), readyOf(9)
	right := sealsOf(g, c, 0, 2, 3)
	for _, wrong := range wrongSeals(g, c) {
		checkGood(t, "a wrong one alone", g, c, []impl.Seal{wrong}, nil)
		checkGood(t, "a wrong one ahead", g, c, append([]impl.Seal{wrong}, right...), right)
		checkGood(t, "a wrong one behind", g, c, append(slices.Clone(right), wrong), right)
		checkGood(t, "a wrong one between", g, c, []impl.Seal{right[2], wrong, right[0], wrong, right[1]}, right)
	}
	checkGood(t, "all that are wrong", g, c, wrongSeals(g, c), nil)
	// Each of the wrong ones is of some server whose right one stands behind it.
	checkGood(t, "all that are wrong ahead", g, c, append(wrongSeals(g, c), right...), right)
}

// No two servers of one key have one seal, and none is right for another.
func TestGoodSealsOfServersWithOneKey(t *testing.T) {
	g, c := groupOf(4, 1, 2, 2), readyOf(9)
	g.Keys = []int64{7, 7, 7, 7, 7, 7}
	right := sealsOf(g, c, 0, 1, 2, 3)
	checkGood(t, "one key", g, c, []impl.Seal{right[3], sealOf(1, right[0].Tag), right[0], sealOf(2, right[3].Tag)}, sealsOf(g, c, 0, 3))
	checkGood(t, "one key", g, c, right, right)
}

func TestNoGoodSealsOfAWrongClaim(t *testing.T) {
	g := groupOf(4, 1, 2, 2)
	for _, c := range wrongClaims() {
		// Such as the mixing would make them, were the Claim not refused.
		checkGood(t, "a wrong claim", g, c, sealsOf(g, c, 0, 1, 2, 3), nil)
		checkGood(t, "a wrong claim", g, c, sealList(0, -1, 1, -1, 2, -1, 3, -1), nil)
		checkGood(t, "a wrong claim", g, c, sealList(0, 0, 1, 0, 2, 0, 3, 0), nil)
	}
}

func TestNoGoodSealsInAWrongGroup(t *testing.T) {
	c := readyOf(9)
	for _, g := range wrongGroups() {
		checkGood(t, "a wrong group", g, c, nil, nil)
		checkGood(t, "a wrong group", g, c, sealList(0, 0, 1, 0, 2, 0, 3, 0), nil)
		checkGood(t, "a wrong group", g, c, sealsOf(groupOf(4, 1, 2, 2), c, 0, 1, 2, 3), nil)
		checkGood(t, "a wrong group and claim", g, impl.Claim{}, sealList(0, 0, 1, 0, 2, 0, 3, 0), nil)
	}
}

// Every set of servers seals, in every group of servers and liars there is.
func TestCertificatesOfEverySet(t *testing.T) {
	for servers := int64(1); servers <= 10; servers++ {
		for liars := int64(0); 3*liars+1 <= servers; liars++ {
			g, c := groupOf(servers, liars, 2, 2), claimOf(impl.ClWrote, 1, 3, 5, 7)
			for size := range servers + 1 {
				for _, set := range setsOf(servers, size) {
					checkGood(t, "a set", g, c, sealsOf(g, c, membersOf(set)...), sealsOf(g, c, membersOf(set)...))
				}
			}
		}
	}
}

// membersOf are the places of a set's bits, rising.
func membersOf(set uint) []int64 {
	var list []int64
	for place := int64(0); set>>place != 0; place++ {
		if set>>place&1 == 1 {
			list = append(list, place)
		}
	}
	return list
}

func TestAboutAQuorum(t *testing.T) {
	for _, g := range rightGroups() {
		c, q := readyOf(9), impl.QuorumOf(g)
		if impl.CertOk(g, c, sealsOf(g, c, upTo(q-1)...)) {
			t.Errorf("one less than a quorum is enough in %v", g)
		}
		for n := q; n <= g.Servers; n++ {
			if !impl.CertOk(g, c, sealsOf(g, c, upTo(n)...)) {
				t.Errorf("%d of a quorum of %d are not enough in %v", n, q, g)
			}
		}
		// What is there twice makes up for none that lacks.
		short := sealsOf(g, c, upTo(q-1)...)
		if impl.CertOk(g, c, append(short, short...)) {
			t.Errorf("one less than a quorum, twice, is enough in %v", g)
		}
	}
}

func TestACertificateHasMoreThanCanLie(t *testing.T) {
	for _, g := range rightGroups() {
		c := readyOf(9)
		for n := range g.Servers + 1 {
			list := sealsOf(g, c, upTo(n)...)
			if impl.CertOk(g, c, list) && impl.CertCount(g, c, list) <= g.Liars {
				t.Errorf("%d servers certify in %v", n, g)
			}
		}
		if impl.CertOk(g, c, sealsOf(g, c, upTo(g.Liars)...)) {
			t.Errorf("those that can lie certify in %v", g)
		}
	}
}

func TestMoreSealsCertifyNoLess(t *testing.T) {
	g, c := groupOf(7, 2, 3, 4), readyOf(9)
	more := append(wrongSeals(g, c), sealsOf(g, c, upTo(7)...)...)
	for _, set := range setsOf(7, 5) {
		list := sealsOf(g, c, membersOf(set)...)
		for _, s := range more {
			ahead, behind := append([]impl.Seal{s}, list...), append(slices.Clone(list), s)
			if !impl.CertOk(g, c, ahead) || !impl.CertOk(g, c, behind) {
				t.Fatalf("%v with %v more does not certify", list, s)
			}
			if impl.CertCount(g, c, ahead) < 5 || impl.CertCount(g, c, behind) < 5 {
				t.Fatalf("%v with %v more counts less", list, s)
			}
		}
	}
}

// Up to MaxSeals one more never makes a certificate fail, whatever it is and wherever it stands.
func TestCertificatesGrowUpToMaxSeals(t *testing.T) {
	g, c := groupOf(4, 1, 2, 2), readyOf(9)
	for _, s := range append(wrongSeals(g, c), sealsOf(g, c, 0, 1, 2, 3)...) {
		ahead, behind := sealsOf(g, c, 3, 1, 0), sealsOf(g, c, 3, 1, 0)
		for len(ahead) < impl.MaxSeals {
			ahead, behind = append([]impl.Seal{s}, ahead...), append(behind, s)
			if !impl.CertOk(g, c, ahead) || !impl.CertOk(g, c, behind) {
				t.Fatalf("%d seals, %v among them, do not certify", len(ahead), s)
			}
		}
	}
}

func TestMaxSealsInACertificate(t *testing.T) {
	g, c := groupOf(4, 1, 2, 2), readyOf(9)
	var all []impl.Seal
	for range 6 {
		all = append(all, sealsOf(g, c, 3, 2, 1, 0)...)
	}
	right, wrong := sealsOf(g, c, 0, 1, 2), make([]impl.Seal, 18)
	checkGood(t, "just MaxSeals, all right", g, c, all[:20], sealsOf(g, c, 0, 1, 2, 3))
	checkGood(t, "one more, all right", g, c, all[:21], sealsOf(g, c, 0, 1, 2, 3))
	checkGood(t, "just MaxSeals, wrong ones ahead", g, c, append(wrong[:17:17], right...), right)
	checkGood(t, "one more, wrong ones ahead", g, c, append(wrong[:18:18], right...), right)
	checkGood(t, "just MaxSeals, wrong ones behind", g, c, append(right[:3:3], wrong[:17]...), right)
	checkGood(t, "one more, wrong ones behind", g, c, append(right[:3:3], wrong[:18]...), right)
	if !impl.CertOk(g, c, all[:20]) || impl.CertOk(g, c, all[:21]) || impl.CertOk(g, c, all) {
		t.Error("MaxSeals is not where a list gets too long")
	}
	if impl.ProvenOk(g, 0, c.Stamp, 9, all[:21]) || !impl.ProvenOk(g, 0, c.Stamp, 9, all[:20]) {
		t.Error("MaxSeals is not where a proof gets too long")
	}
}

// CertOk and GoodSeals go by the Claim's own limit of shelves, ProvenOk by that of the Group.
func TestCertificatesOfAShelfThatTheGroupHasNot(t *testing.T) {
	g, c := groupOf(4, 1, 2, 1), claimOf(1, 3, 2, 4, 9)
	list := sealsOf(g, c, 0, 1, 2)
	checkGood(t, "a shelf past those of the group", g, c, list, list)
	if impl.ProvenOk(g, 3, c.Stamp, c.Value, list) {
		t.Error("proven on a shelf that the group has not")
	}
}

func TestProvenWhereNothingWasWritten(t *testing.T) {
	for _, g := range rightGroups() {
		c := claimOf(impl.ClReady, 0, 0, 0, 0)
		for _, list := range [][]impl.Seal{nil, {}, {{}}, sealsOf(g, c, 0), sealsOf(g, c, upTo(g.Servers)...), make([]impl.Seal, 20), make([]impl.Seal, 21)} {
			for shelf := range g.Shelves {
				if !impl.ProvenOk(g, shelf, impl.Stamp{}, 0, list) {
					t.Errorf("nothing on the shelf %d of %v is not proven by %v", shelf, g, list)
				}
			}
			for _, shelf := range []int64{math.MinInt64, -1, g.Shelves, g.Shelves + 1, impl.MaxShelves, math.MaxInt64} {
				if impl.ProvenOk(g, shelf, impl.Stamp{}, 0, list) {
					t.Errorf("the shelf %d of %v is proven by %v", shelf, g, list)
				}
			}
		}
	}
}

func TestAnotherValueAtTheZeroStamp(t *testing.T) {
	g := groupOf(4, 1, 2, 2)
	for _, value := range []int64{math.MinInt64, -1, 1, 9999, 10000, math.MaxInt64} {
		for _, list := range [][]impl.Seal{nil, sealsOf(g, claimOf(1, 0, 0, 0, 0), 0, 1, 2, 3)} {
			if impl.ProvenOk(g, 0, impl.Stamp{}, value, list) {
				t.Errorf("the zero Stamp with %d is proven by %v", value, list)
			}
		}
	}
	for _, stamp := range []impl.Stamp{stampOf(0, 1), stampOf(0, -1), stampOf(1, 0), stampOf(-1, 0), stampOf(math.MinInt64, 0), stampOf(0, math.MaxInt64)} {
		if impl.ProvenOk(g, 0, stamp, 0, nil) {
			t.Errorf("%v with 0 is proven by nothing", stamp)
		}
	}
	// A certificate is one at the zero Stamp too: the document takes none of its Claims away.
	c := claimOf(impl.ClReady, 1, 0, 0, 5)
	if !impl.ProvenOk(g, 1, impl.Stamp{}, 5, sealsOf(g, c, 0, 1, 2)) || impl.ProvenOk(g, 1, impl.Stamp{}, 5, sealsOf(g, c, 0, 1)) {
		t.Error("a certificate of a value at the zero Stamp")
	}
}

func TestProvenByACertificate(t *testing.T) {
	for _, g := range rightGroups() {
		q, stamp := impl.QuorumOf(g), stampOf(2, 4)
		for shelf := range int64(impl.MaxShelves) {
			c := impl.Claim{Kind: impl.ClReady, Shelf: shelf, Stamp: stamp, Value: 9}
			enough, short := sealsOf(g, c, upTo(q)...), sealsOf(g, c, upTo(q-1)...)
			if impl.ProvenOk(g, shelf, stamp, 9, enough) != (shelf < g.Shelves) {
				t.Errorf("ProvenOk on the shelf %d of %v", shelf, g)
			}
			if impl.ProvenOk(g, shelf, stamp, 9, short) || impl.ProvenOk(g, shelf, stamp, 9, nil) {
				t.Errorf("proven by too few on the shelf %d of %v", shelf, g)
			}
		}
	}
}

func TestProvenByWhatIsForAnother(t *testing.T) {
	g := groupOf(4, 1, 2, impl.MaxShelves)
	for _, c := range []impl.Claim{claimOf(1, 1, 2, 4, 9), claimOf(1, 3, 100000, 15, 9999), claimOf(1, 0, 1, 0, 0)} {
		if !impl.ProvenOk(g, c.Shelf, c.Stamp, c.Value, sealsOf(g, c, 3, 2, 1)) {
			t.Errorf("%v is not proven", c)
		}
		// The first of the others is ClWrote; the rest have another shelf, stamp or value.
		for _, other := range otherClaims(c) {
			if impl.ProvenOk(g, c.Shelf, c.Stamp, c.Value, sealsOf(g, other, 0, 1, 2, 3)) {
				t.Errorf("%v is proven by seals of %v", c, other)
			}
		}
	}
}

func TestNothingIsProvenOutOfRange(t *testing.T) {
	g := groupOf(4, 1, 2, impl.MaxShelves)
	for _, c := range wrongClaims() {
		c.Kind = impl.ClReady
		if impl.ClaimOk(c) {
			continue
		}
		for _, list := range [][]impl.Seal{nil, sealsOf(g, c, 0, 1, 2, 3), sealList(0, -1, 1, -1, 2, -1)} {
			if impl.ProvenOk(g, c.Shelf, c.Stamp, c.Value, list) {
				t.Errorf("%v is proven by %v", c, list)
			}
		}
	}
}

func TestNothingIsProvenInAWrongGroup(t *testing.T) {
	c := readyOf(9)
	list := sealsOf(groupOf(4, 1, 2, 2), c, 0, 1, 2, 3)
	for _, g := range wrongGroups() {
		for _, shelf := range []int64{math.MinInt64, -1, 0, 1, math.MaxInt64} {
			if impl.ProvenOk(g, shelf, impl.Stamp{}, 0, nil) || impl.ProvenOk(g, shelf, c.Stamp, 9, list) {
				t.Errorf("the shelf %d of %v is proven", shelf, g)
			}
		}
	}
}

// listStays calls use with ever more of a list's room, and fails if the list or the room behind it was written into.
func listStays[T comparable](t *testing.T, room []T, use func(list []T)) {
	t.Helper()
	before := slices.Clone(room)
	for count := range len(room) + 1 {
		use(room[:count])
		if !slices.Equal(room, before) {
			t.Fatalf("the first %d of %v or the room behind them were written into", count, before)
		}
	}
}

func TestSealArgumentsStay(t *testing.T) {
	g, c := groupOf(4, 1, 2, 2), readyOf(9)
	other := sealList(3, 1, 0, 2, 3, 3, -1, 4)
	// Wrong ones stand ahead of right ones, so that those could not be left out in place unseen.
	room := append(sealList(2, 5, -4, 7), sealsOf(g, c, 3, 1, 3, 0)...)
	listStays(t, other, func(b []impl.Seal) {
		listStays(t, room, func(a []impl.Seal) {
			impl.JoinSeals(a, b)
			impl.JoinSeals(b, a)
			impl.JoinSeals(a, a)
			impl.JoinSeals(a, nil)
			impl.JoinSeals(nil, a)
		})
	})
	listStays(t, room, func(list []impl.Seal) {
		keysStay(t, func(g impl.Group) {
			for _, c := range []impl.Claim{c, {}} {
				impl.GoodSeals(g, c, list)
				impl.CertCount(g, c, list)
				impl.CertOk(g, c, list)
				impl.ProvenOk(g, c.Shelf, c.Stamp, c.Value, list)
			}
		})
	})
}

// fillRoom writes into all of a list, and into the room behind it.
func fillRoom[T any](list []T, with T) {
	list = list[:cap(list)]
	for i := range list {
		list[i] = with
	}
}

func scribble(list []impl.Seal) { fillRoom(list, sealOf(-77, -78)) }

func TestSealAnswersAreNewMemory(t *testing.T) {
	g, c := groupOf(4, 1, 2, 2), readyOf(9)
	// Rising and right already, so that they could be handed back as they are.
	rising, nothing := sealsOf(g, c, 0, 1, 2, 3), make([]impl.Seal, 0, 3)
	for _, room := range [][]impl.Seal{rising, append(sealList(1, 1), sealsOf(g, c, 3, 0, 3)...)} {
		listStays(t, room, func(list []impl.Seal) {
			scribble(impl.JoinSeals(list, nil))
			scribble(impl.JoinSeals(nil, list))
			scribble(impl.JoinSeals(list, nothing))
			scribble(impl.JoinSeals(nothing, list))
			scribble(impl.JoinSeals(list, list))
			scribble(impl.GoodSeals(g, c, list))
		})
	}
	if !slices.Equal(nothing[:3], make([]impl.Seal, 3)) {
		t.Error("the room behind an empty list was written into")
	}
	first := impl.JoinSeals(rising, nil)
	scribble(impl.JoinSeals(rising, nil))
	if !slices.Equal(first, rising) {
		t.Error("two answers share memory")
	}
}
