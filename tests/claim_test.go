package tests

import (
	"math"
	"testing"

	"loop.example/g00695/impl"
)

func claimOf(kind, shelf, count, client, value int64) impl.Claim {
	return impl.Claim{Kind: kind, Shelf: shelf, Stamp: stampOf(count, client), Value: value}
}

// mixOf is the document's mixing as a plain loop.
func mixOf(numbers ...int64) int64 {
	x := int64(7)
	for _, number := range numbers {
		x = (48271*x + number + 1) % 2147483647
	}
	return x
}

func wantClaimOk(c impl.Claim) bool {
	return (c.Kind == 1 || c.Kind == 2) && c.Shelf >= 0 && c.Shelf <= 3 && wantStampOk(c.Stamp) && c.Value >= 0 && c.Value <= 9999
}

func wantDigest(c impl.Claim) int64 {
	if !wantClaimOk(c) {
		return -1
	}
	return mixOf(c.Kind, c.Shelf, c.Stamp.Count, c.Stamp.Client, c.Value)
}

// manyClaims have each number about its limits and at the ends of int64, beside right and wrong others.
func manyClaims() []impl.Claim {
	var list []impl.Claim
	for _, kind := range []int64{math.MinInt64, -1, 0, 1, 2, 3, math.MaxInt64} {
		for _, shelf := range []int64{math.MinInt64, -1, 0, 2, 3, 4, math.MaxInt64} {
			for _, stamp := range []impl.Stamp{{}, stampOf(0, 1), stampOf(1, 0), stampOf(2, 4), stampOf(2, 16), stampOf(-1, 0), stampOf(100000, 15), stampOf(100001, 0)} {
				for _, value := range []int64{math.MinInt64, -1, 0, 9, 9998, 9999, 10000, math.MaxInt64} {
					list = append(list, impl.Claim{Kind: kind, Shelf: shelf, Stamp: stamp, Value: value})
				}
			}
		}
	}
	return list
}

// wrongClaims have one number each that is out of range.
func wrongClaims() []impl.Claim {
	list := []impl.Claim{{}}
	for _, kind := range []int64{math.MinInt64, -1, 0, 3, math.MaxInt64} {
		list = append(list, claimOf(kind, 1, 2, 4, 9))
	}
	for _, shelf := range []int64{math.MinInt64, -1, 4, math.MaxInt64} {
		list = append(list, claimOf(1, shelf, 2, 4, 9))
	}
	for _, stamp := range []impl.Stamp{stampOf(0, 1), stampOf(-1, 0), stampOf(-1, 4), stampOf(100001, 4), stampOf(2, -1), stampOf(2, 16), stampOf(math.MaxInt64, 4), stampOf(2, math.MinInt64)} {
		list = append(list, impl.Claim{Kind: 2, Shelf: 1, Stamp: stamp, Value: 9})
	}
	for _, value := range []int64{math.MinInt64, -1, 10000, math.MaxInt64} {
		list = append(list, claimOf(2, 1, 2, 4, value))
	}
	return list
}

func TestConstantsOfClaims(t *testing.T) {
	if impl.MaxValue != 9999 || impl.ClReady != 1 || impl.ClWrote != 2 {
		t.Error("a constant of claims is not the document's")
	}
}

func TestRightClaims(t *testing.T) {
	right := []impl.Claim{
		claimOf(impl.ClReady, 0, 0, 0, 0), claimOf(impl.ClWrote, 0, 0, 0, 0), claimOf(impl.ClReady, 1, 2, 4, 9),
		claimOf(impl.ClWrote, impl.MaxShelves-1, 2, 4, 9), claimOf(impl.ClReady, 0, 1, 0, impl.MaxValue),
		claimOf(impl.ClWrote, 0, 0, 0, 5), claimOf(impl.ClWrote, 3, 100000, 15, 9999),
	}
	for _, c := range right {
		if !impl.ClaimOk(c) {
			t.Errorf("not ClaimOk: %v", c)
		}
	}
}

func TestWrongClaims(t *testing.T) {
	for _, c := range wrongClaims() {
		if impl.ClaimOk(c) {
			t.Errorf("ClaimOk: %v", c)
		}
		if d := impl.DigestOf(c); d != -1 {
			t.Errorf("DigestOf %v is %d", c, d)
		}
	}
}

func TestClaimsAboutEveryLimit(t *testing.T) {
	for _, c := range manyClaims() {
		if impl.ClaimOk(c) != wantClaimOk(c) {
			t.Errorf("ClaimOk of %v is not %v", c, wantClaimOk(c))
		}
		if d := impl.DigestOf(c); d != wantDigest(c) {
			t.Errorf("DigestOf %v is %d, not %d", c, d, wantDigest(c))
		}
	}
}

func TestDigestsInNumbers(t *testing.T) {
	rows := []struct {
		c      impl.Claim
		digest int64
	}{
		{claimOf(1, 0, 0, 0, 0), 526820690},
		{claimOf(2, 0, 0, 0, 0), 294057680},
		{claimOf(1, 1, 2, 4, 9), 36136610},
		{claimOf(2, 3, 100000, 15, 9999), 399958667},
	}
	for _, row := range rows {
		if d := impl.DigestOf(row.c); d != row.digest {
			t.Errorf("DigestOf %v is %d, not %d", row.c, d, row.digest)
		}
	}
}

// otherClaims are c with one field changed, each in turn.
func otherClaims(c impl.Claim) []impl.Claim {
	kind, shelf, count, client, value := c, c, c, c, c
	kind.Kind = 3 - c.Kind
	shelf.Shelf = (c.Shelf + 1) % impl.MaxShelves
	count.Stamp.Count = c.Stamp.Count%impl.MaxCount + 1
	client.Stamp.Client = (c.Stamp.Client + 1) % 16
	value.Value = (c.Value + 1) % (impl.MaxValue + 1)
	return []impl.Claim{kind, shelf, count, client, value}
}

func TestEachNumberOfAClaimMatters(t *testing.T) {
	for _, c := range []impl.Claim{claimOf(1, 1, 2, 4, 9), claimOf(2, 3, 100000, 15, 9999), claimOf(2, 0, 1, 0, 0)} {
		for _, other := range otherClaims(c) {
			if !impl.ClaimOk(other) || impl.DigestOf(c) == impl.DigestOf(other) {
				t.Errorf("DigestOf %v is that of %v", c, other)
			}
		}
	}
}

func TestOrderOfWhatIsMixedMatters(t *testing.T) {
	pairs := [][2]impl.Claim{
		{claimOf(1, 2, 3, 4, 5), claimOf(2, 1, 3, 4, 5)},
		{claimOf(1, 2, 3, 4, 5), claimOf(1, 3, 2, 4, 5)},
		{claimOf(1, 2, 3, 4, 5), claimOf(1, 2, 4, 3, 5)},
		{claimOf(1, 2, 3, 4, 5), claimOf(1, 2, 3, 5, 4)},
	}
	for _, pair := range pairs {
		if impl.DigestOf(pair[0]) == impl.DigestOf(pair[1]) {
			t.Errorf("DigestOf %v is that of %v", pair[0], pair[1])
		}
	}
}

// Numbers are mixed from the same beginning at each call, whatever was mixed ahead of it.
func TestDigestsAreTheSameAgain(t *testing.T) {
	c, g := claimOf(1, 1, 2, 4, 9), groupOf(4, 1, 2, 2)
	digest := impl.DigestOf(c)
	seal, _ := impl.SealOf(g, c, 2)
	for range 3 {
		impl.DigestOf(claimOf(2, 3, 4, 5, 6))
		impl.SealOf(g, claimOf(2, 3, 4, 5, 6), 1)
		again, _ := impl.SealOf(g, c, 2)
		if impl.DigestOf(c) != digest || again != seal {
			t.Error("another digest or seal when asked again")
		}
	}
}

// noSeal fails unless there is no Seal of c by who, and the zero one beside it.
func noSeal(t *testing.T, why string, g impl.Group, c impl.Claim, who int64) {
	t.Helper()
	s, is := impl.SealOf(g, c, who)
	if is || s != (impl.Seal{}) {
		t.Errorf("%s: SealOf %v by %d is %v, %v", why, c, who, s, is)
	}
	// Such as the mixing would make it, were it not refused, and the zero one.
	made := impl.Seal{Who: who, Tag: mixOf(7, impl.DigestOf(c), who)}
	if who >= 0 && who < int64(len(g.Keys)) {
		made.Tag = mixOf(g.Keys[who], impl.DigestOf(c), who)
	}
	for _, s := range []impl.Seal{made, {Who: who}, {Who: who, Tag: -1}, {}} {
		if s.Who == who && impl.SealRight(g, c, s) {
			t.Errorf("%s: SealRight of %v for %v", why, s, c)
		}
	}
}

func TestSealsOfEachServer(t *testing.T) {
	for _, g := range rightGroups() {
		for _, c := range []impl.Claim{claimOf(1, 0, 0, 0, 0), claimOf(1, 1, 2, 4, 9), claimOf(2, 3, 100000, 15, 9999)} {
			for who := int64(-2); who <= g.Servers+g.Clients+1; who++ {
				if who < 0 || who >= g.Servers {
					noSeal(t, "no server", g, c, who)
					continue
				}
				s, is := impl.SealOf(g, c, who)
				want := impl.Seal{Who: who, Tag: mixOf(g.Keys[who], wantDigest(c), who)}
				if !is || s != want || !impl.SealRight(g, c, s) {
					t.Errorf("SealOf %v by %d is %v, %v, not %v", c, who, s, is, want)
				}
			}
		}
	}
}

func TestSealsInNumbers(t *testing.T) {
	g := impl.Group{Servers: 4, Liars: 1, Clients: 2, Shelves: 2, Keys: []int64{11, 22, 33, 44, 55, 66}}
	rows := []struct {
		c    impl.Claim
		tags [4]int64
	}{
		{claimOf(1, 0, 0, 0, 0), [4]int64{153842983, 15023071, 2023686806, 1884866894}},
		{claimOf(2, 0, 0, 0, 0), [4]int64{85028377, 2093692112, 1954872200, 1816052288}},
		{claimOf(1, 1, 2, 4, 9), [4]int64{1087243713, 948423801, 809603889, 670783977}},
		{claimOf(2, 3, 100000, 15, 9999), [4]int64{1020491994, 881672082, 742852170, 604032258}},
	}
	for _, row := range rows {
		for who, tag := range row.tags {
			s, is := impl.SealOf(g, row.c, int64(who))
			if !is || s.Who != int64(who) || s.Tag != tag {
				t.Errorf("SealOf %v by %d is %v, %v", row.c, who, s, is)
			}
		}
	}
}

// A Claim's Shelf has a limit of its own: Shelves of the Group does not speak of it.
func TestSealOfAShelfThatTheGroupHasNot(t *testing.T) {
	g, c := groupOf(4, 1, 2, 1), claimOf(1, 3, 2, 4, 9)
	s, is := impl.SealOf(g, c, 0)
	if !is || s.Tag != mixOf(g.Keys[0], wantDigest(c), 0) || !impl.SealRight(g, c, s) {
		t.Errorf("SealOf %v is %v, %v", c, s, is)
	}
}

func TestWhoSealsAtTheirLimits(t *testing.T) {
	g, c := groupOf(4, 1, 2, 2), claimOf(1, 1, 2, 4, 9)
	for _, who := range []int64{0, 3} {
		if s, is := impl.SealOf(g, c, who); !is || s.Who != who {
			t.Errorf("SealOf by %d is %v, %v", who, s, is)
		}
	}
	for _, who := range []int64{math.MinInt64, math.MinInt64 + 1, -1, 4, 5, 6, 10, math.MaxInt64 - 1, math.MaxInt64} {
		noSeal(t, "no server", g, c, who)
	}
}

func TestNoSealOfAWrongClaim(t *testing.T) {
	g := groupOf(4, 1, 2, 2)
	for _, c := range wrongClaims() {
		for who := range int64(4) {
			noSeal(t, "a wrong claim", g, c, who)
		}
	}
}

// wrongGroups have one thing each that is not as it must be.
func wrongGroups() []impl.Group {
	key, long, short, one := groupOf(4, 1, 2, 2), groupOf(4, 1, 2, 2), groupOf(4, 1, 2, 2), groupOf(4, 1, 2, 2)
	key.Keys[5] = 0
	long.Keys = keysOf(7)
	short.Keys = keysOf(5)
	one.Keys = keysOf(1)
	ends := impl.Group{Servers: math.MaxInt64, Liars: math.MinInt64, Clients: math.MaxInt64, Shelves: 2, Keys: keysOf(6)}
	return []impl.Group{
		{}, key, long, short, one, ends, groupOf(4, 1, 2, 0), groupOf(4, 1, 2, 5), groupOf(4, 2, 2, 2), groupOf(4, -1, 2, 2), groupOf(11, 1, 2, 2),
	}
}

// groupsThatAreWrong have, too, more shelves than anyone could make room for.
func groupsThatAreWrong() []impl.Group {
	groups := wrongGroups()
	for _, shelves := range []int64{math.MinInt64, -1, 0, 5, 1 << 40, math.MaxInt64} {
		groups = append(groups, groupOf(4, 1, 3, shelves))
	}
	return groups
}

func TestNoSealInAWrongGroup(t *testing.T) {
	for _, g := range wrongGroups() {
		for _, who := range []int64{math.MinInt64, -1, 0, 1, 3, 4, math.MaxInt64} {
			noSeal(t, "a wrong group", g, claimOf(1, 1, 2, 4, 9), who)
			noSeal(t, "a wrong group", g, impl.Claim{}, who)
		}
	}
}

func TestAnotherTagIsNotRight(t *testing.T) {
	g, c := groupOf(4, 1, 2, 2), claimOf(1, 1, 2, 4, 9)
	for who := range int64(4) {
		s, _ := impl.SealOf(g, c, who)
		const m = 2147483647
		for _, tag := range []int64{s.Tag - 1, s.Tag + 1, -s.Tag, s.Tag + m, s.Tag - m, 0, -1, math.MinInt64, math.MaxInt64, impl.DigestOf(c), g.Keys[who]} {
			if impl.SealRight(g, c, impl.Seal{Who: who, Tag: tag}) {
				t.Errorf("SealRight of %v with the Tag %d", s, tag)
			}
		}
	}
}

func TestAnotherWhoIsNotRight(t *testing.T) {
	// With one key for all, only who is mixed in tells the servers apart.
	same, c := groupOf(4, 1, 2, 2), claimOf(2, 1, 2, 4, 9)
	same.Keys = []int64{7, 7, 7, 7, 7, 7}
	for _, g := range []impl.Group{groupOf(4, 1, 2, 2), same} {
		for who := range int64(4) {
			s, _ := impl.SealOf(g, c, who)
			for _, other := range []int64{math.MinInt64, -1, 0, 1, 2, 3, 4, 5, 6, math.MaxInt64} {
				if got := impl.SealRight(g, c, impl.Seal{Who: other, Tag: s.Tag}); got != (other == who) {
					t.Errorf("SealRight of %v as if by %d is %v", s, other, got)
				}
			}
		}
	}
}

func TestAnotherClaimIsNotRight(t *testing.T) {
	g := groupOf(4, 1, 2, 2)
	for _, c := range []impl.Claim{claimOf(1, 1, 2, 4, 9), claimOf(2, 3, 100000, 15, 9999), claimOf(2, 0, 1, 0, 0)} {
		for who := range int64(4) {
			s, _ := impl.SealOf(g, c, who)
			for _, other := range append(otherClaims(c), wrongClaims()...) {
				if impl.SealRight(g, other, s) {
					t.Errorf("SealRight of %v, which is of %v, for %v", s, c, other)
				}
			}
		}
	}
}

func TestAnotherKeyIsNotRight(t *testing.T) {
	g, c := groupOf(4, 1, 2, 2), claimOf(1, 1, 2, 4, 9)
	for who := range int64(4) {
		s, _ := impl.SealOf(g, c, who)
		for node := range g.Keys {
			other := groupOf(4, 1, 2, 2)
			other.Keys[node]++
			// No key but that of the server is mixed in.
			if got := impl.SealRight(other, c, s); got != (int64(node) != who) {
				t.Errorf("SealRight of %v with another key of %d is %v", s, node, got)
			}
		}
	}
}

func TestSealsInAnyClaim(t *testing.T) {
	g := groupOf(4, 1, 2, 2)
	for _, c := range manyClaims() {
		for _, who := range []int64{-1, 0, 3, 4} {
			if !wantClaimOk(c) || who < 0 || who > 3 {
				noSeal(t, "any claim", g, c, who)
				continue
			}
			if s, is := impl.SealOf(g, c, who); !is || !impl.SealRight(g, c, s) {
				t.Errorf("SealOf %v by %d is %v, %v", c, who, s, is)
			}
		}
	}
}

func TestClaimArgumentsStay(t *testing.T) {
	keysStay(t, func(g impl.Group) {
		for who := int64(-1); who <= 9; who++ {
			s, _ := impl.SealOf(g, claimOf(1, 1, 2, 4, 9), who)
			impl.SealRight(g, claimOf(1, 1, 2, 4, 9), s)
			impl.SealRight(g, impl.Claim{}, impl.Seal{Who: who, Tag: 1})
		}
	})
}
