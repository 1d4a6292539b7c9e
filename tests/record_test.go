package tests

import (
	"maps"
	"math"
	"slices"
	"testing"

	"loop.example/g00695/impl"
)

// numbersOf are those that the document mixes, in its order.
func numbersOf(r impl.Rec) []int64 {
	list := []int64{r.No, r.Kind, r.Shelf, r.Client, r.Stamp.Count, r.Stamp.Client, r.Value}
	for _, s := range r.Cert {
		list = append(list, s.Who, s.Tag)
	}
	return list
}

// recFrom has the numbers in the order in which they are mixed, and the Sum of them.
func recFrom(n ...int64) impl.Rec {
	r := impl.Rec{No: n[0], Kind: n[1], Shelf: n[2], Client: n[3], Stamp: stampOf(n[4], n[5]), Value: n[6], Cert: sealList(n[7:]...)}
	return summed(r)
}

// summed has the Sum that belongs to what r has now.
func summed(r impl.Rec) impl.Rec {
	r.Sum = mixOf(numbersOf(r)...)
	return r
}

func openRec(no, shelf int64, o impl.Open) impl.Rec {
	return summed(impl.Rec{No: no, Kind: impl.RcOpen, Shelf: shelf, Client: o.Client, Stamp: o.Stamp, Value: o.Value})
}

// writeRec tells that what c claims was written, by the Seals of those servers, in that order.
func writeRec(g impl.Group, no int64, c impl.Claim, servers ...int64) impl.Rec {
	return summed(impl.Rec{No: no, Kind: impl.RcWrite, Shelf: c.Shelf, Stamp: c.Stamp, Value: c.Value, Cert: sealsOf(g, c, servers...)})
}

// sameRec takes an empty list and nil as the same.
func sameRec(a, b impl.Rec) bool {
	return a.Sum == b.Sum && slices.Equal(numbersOf(a), numbersOf(b))
}

func TestConstantsOfRecords(t *testing.T) {
	if impl.MaxRecs != 400 || impl.RcOpen != 1 || impl.RcWrite != 2 {
		t.Error("a constant of records is not the document's")
	}
}

// checkSum fails unless r has that Sum, whatever stands in it, and is made with it.
func checkSum(t *testing.T, why string, r impl.Rec, want int64) {
	t.Helper()
	for _, written := range []int64{0, want, want + 1, -1, math.MinInt64, math.MaxInt64} {
		r.Sum = written
		if got := impl.SumOf(r); got != want {
			t.Errorf("%s: SumOf %+v is %d, not %d", why, r, got, want)
		}
	}
	r.Sum = want
	if got := impl.NewRec(r.No, r.Kind, r.Shelf, r.Client, r.Stamp, r.Value, r.Cert); !sameRec(got, r) {
		t.Errorf("%s: NewRec is %+v, not %+v", why, got, r)
	}
}

func TestSumsInNumbers(t *testing.T) {
	const low, high = math.MinInt64, math.MaxInt64
	rows := []struct {
		sum     int64
		numbers []int64
	}{
		{731207558, []int64{0, 0, 0, 0, 0, 0, 0}},
		{1890396762, []int64{1, 1, 1, 4, 1, 4, 9}},
		{438067076, []int64{2, 2, 1, 0, 1, 4, 9, 0, 5, 3, 6}},
		{1458196779, []int64{400, 2, 3, 0, 100000, 15, 9999, 9, 2147483646}},
		{-1192681300, []int64{low, high, low, high, low, high, low, high, low}},
		{-1265242942, []int64{high, high, high, high, high, high, high}},
		{-1832899570, []int64{low, low, low, low, low, low, low}},
		{1804623190, []int64{-1, -1, -1, -1, -1, -1, -1, -1, -1}},
	}
	for _, row := range rows {
		checkSum(t, "in numbers", recFrom(row.numbers...), row.sum)
	}
}

// manyNumbers are those of ordinary records, of strange ones, and of some at the ends of int64.
func manyNumbers() [][]int64 {
	const low, high = math.MinInt64, math.MaxInt64
	return [][]int64{
		{1, 2, 3, 4, 5, 6, 7},
		{1, 2, 3, 4, 5, 6, 7, 8, 9},
		{1, 2, 3, 4, 5, 6, 7, 8, 9, 10, 11, 12, 13},
		{12, 1, 0, 5, 8, 4, 9},
		{400, 2, 3, 0, 100000, 15, 9999, 0, 1087243713, 1, 948423801, 3, 670783977},
		{-1, -2, -3, -4, -5, -6, -7, -8, -9},
		{low, high, low + 1, high - 1, low + 2, high - 2, low + 3, high - 3, low + 4},
	}
}

func TestEachNumberOfARecChangesItsSum(t *testing.T) {
	const low, high = math.MinInt64, math.MaxInt64
	for _, numbers := range manyNumbers() {
		sum := mixOf(numbers...)
		checkSum(t, "as it is", recFrom(numbers...), sum)
		for place, number := range numbers {
			for _, other := range []int64{number + 1, number - 1, -number - 9, 7777, low, high} {
				changed := slices.Clone(numbers)
				changed[place] = other
				want := mixOf(changed...)
				if want == sum && other != number {
					t.Errorf("the test itself is wrong: %v is mixed as %v", changed, numbers)
				}
				checkSum(t, "one number changed", recFrom(changed...), want)
			}
		}
	}
}

func TestTheOrderOfNumbersChangesASum(t *testing.T) {
	for _, numbers := range manyNumbers() {
		sum := mixOf(numbers...)
		for i := range numbers {
			for j := range i {
				swapped := slices.Clone(numbers)
				swapped[i], swapped[j] = swapped[j], swapped[i]
				want := mixOf(swapped...)
				if want == sum && swapped[i] != swapped[j] {
					t.Errorf("the test itself is wrong: %v is mixed as %v", swapped, numbers)
				}
				checkSum(t, "two numbers swapped", recFrom(swapped...), want)
			}
		}
	}
}

func TestSumsOfMoreAndMoreSeals(t *testing.T) {
	numbers := []int64{3, 2, 1, 0, 5, 4, 9}
	seen := map[int64]bool{}
	for count := range int64(300) {
		sum := mixOf(numbers...)
		if seen[sum] {
			t.Errorf("%d Seals have a Sum that fewer have", count)
		}
		seen[sum] = true
		checkSum(t, "so many Seals", recFrom(numbers...), sum)
		numbers = append(numbers, count%7-1, count*count)
	}
	alike := append(numbers[:7:7], 2, 8, 2, 8)
	if once := alike[:9]; mixOf(once...) == mixOf(alike...) {
		t.Error("the test itself is wrong")
	}
	checkSum(t, "a Seal twice", recFrom(alike...), mixOf(alike...))
}

func TestSumsOfNoSeals(t *testing.T) {
	r := recFrom(3, 1, 1, 4, 5, 4, 9)
	room := sealList(1, 7, 2, 8)
	for _, none := range [][]impl.Seal{nil, {}, make([]impl.Seal, 0, 3), room[:0]} {
		r.Cert = none
		checkSum(t, "no Seals", r, mixOf(3, 1, 1, 4, 5, 4, 9))
	}
	// The zero Seal is a Seal.
	r.Cert = []impl.Seal{{}}
	checkSum(t, "the zero Seal", r, mixOf(3, 1, 1, 4, 5, 4, 9, 0, 0))
}

// Numbers are mixed from the same beginning at each call, whatever was mixed ahead of it.
func TestSumsAreTheSameAgain(t *testing.T) {
	r, other := recFrom(3, 2, 1, 0, 5, 4, 9, 0, 6), recFrom(9, 9, 9, 9, 9, 9, 9, 9, 9)
	for range 3 {
		impl.SumOf(other)
		impl.DigestOf(readyOf(3))
		checkSum(t, "again", r, r.Sum)
	}
}

// NewRec asks of nothing: whether it is right is for RecOk to tell.
func TestNewRecOfAnything(t *testing.T) {
	const low, high = math.MinInt64, math.MaxInt64
	for _, number := range []int64{low, low + 1, -1, 0, 1, 2, 3, 4, 400, 401, 10000, high - 1, high} {
		for _, cert := range [][]impl.Seal{nil, {}, {{}}, sealList(number, number, -1, 99), make([]impl.Seal, 21)} {
			want := summed(impl.Rec{No: number, Kind: number, Shelf: number, Client: number, Stamp: stampOf(number, number), Value: number, Cert: cert})
			got := impl.NewRec(number, number, number, number, stampOf(number, number), number, cert)
			if !sameRec(got, want) {
				t.Errorf("NewRec of %d and %v is %+v", number, cert, got)
			}
		}
	}
	got := impl.NewRec(1, 2, 3, 4, stampOf(5, 6), 7, sealList(9, 8, 1, 0))
	if got.No != 1 || got.Kind != 2 || got.Shelf != 3 || got.Client != 4 || got.Stamp != stampOf(5, 6) || got.Value != 7 ||
		!slices.Equal(got.Cert, sealList(9, 8, 1, 0)) || got.Sum != mixOf(1, 2, 3, 4, 5, 6, 7, 9, 8, 1, 0) {
		t.Errorf("NewRec is %+v", got)
	}
}

// wantRecOk takes a record as a Reg of which nothing else is known.
func wantRecOk(g impl.Group, r impl.Rec) bool {
	if r.No < 1 || r.No > 400 || r.Sum != mixOf(numbersOf(r)...) {
		return false
	}
	reg := impl.Reg{Stamp: r.Stamp, Value: r.Value, Cert: r.Cert}
	switch r.Kind {
	case 1:
		reg = impl.Reg{Cert: r.Cert, Opens: []impl.Open{{Client: r.Client, Stamp: r.Stamp, Value: r.Value}}}
	case 2:
		if r.Client != 0 || r.Stamp == stampOf(0, 0) {
			return false
		}
	default:
		return false
	}
	return wantRegOk(g, r.Shelf, reg)
}

func checkRec(t *testing.T, why string, g impl.Group, r impl.Rec, want bool) {
	t.Helper()
	if got := impl.RecOk(g, r); got != want {
		t.Errorf("%s: RecOk of %+v is %v", why, r, got)
	}
	if wantRecOk(g, r) != want {
		t.Errorf("%s: the test itself is wrong about %+v", why, r)
	}
}

// checkChanged asks of r with one change, which its Sum knows of; and, where it is a change, of one whose Sum does not.
func checkChanged(t *testing.T, why string, g impl.Group, r impl.Rec, want bool, change func(r *impl.Rec)) {
	t.Helper()
	changed := r
	change(&changed)
	checkRec(t, why, g, summed(changed), want)
	if !slices.Equal(numbersOf(changed), numbersOf(r)) {
		checkRec(t, why+", by the old Sum", g, changed, false)
	}
}

// rightRecs are of readyGroup: some of each Kind, in the middle and at the limits.
func rightRecs() []impl.Rec {
	g := readyGroup()
	return []impl.Rec{
		openRec(3, 1, openOf(5, 7, 8)), openRec(1, 0, openOf(4, 1, 0)), openRec(400, 1, openOf(6, 100000, 9999)),
		writeRec(g, 3, claimOf(impl.ClReady, 1, 7, 5, 8), 0, 2, 3), writeRec(g, 1, claimOf(impl.ClReady, 0, 1, 0, 0), 1, 2, 3),
		writeRec(g, 400, claimOf(impl.ClReady, 1, 100000, 15, 9999), 0, 1, 2, 3),
	}
}

func opens() []impl.Rec { return rightRecs()[:3] }

func writes() []impl.Rec { return rightRecs()[3:] }

func TestRecsInEveryGroup(t *testing.T) {
	for _, g := range rightGroups() {
		quorum := (g.Servers+g.Liars)/2 + 1
		for shelf := int64(-1); shelf <= 5; shelf++ {
			is := shelf >= 0 && shelf < g.Shelves
			for node := int64(-1); node <= 16; node++ {
				client := node >= g.Servers && node < g.Servers+g.Clients
				checkRec(t, "open", g, openRec(2, shelf, openOf(node, 3, 9)), is && client)
			}
			c := claimOf(impl.ClReady, shelf, 2, 4, 9)
			for count := range g.Servers + 1 {
				checkRec(t, "written by the first servers", g, writeRec(g, 2, c, upTo(count)...), is && count >= quorum)
			}
			checkRec(t, "written by the last servers", g, writeRec(g, 2, c, upTo(g.Servers)[g.Servers-quorum:]...), is)
		}
	}
}

func TestNosOfRecs(t *testing.T) {
	for _, r := range rightRecs() {
		for _, no := range []int64{math.MinInt64, -400, -1, 0, 1, 2, 399, 400, 401, 402, math.MaxInt64} {
			checkChanged(t, "a No", readyGroup(), r, no >= 1 && no <= 400, func(r *impl.Rec) { r.No = no })
		}
	}
}

func TestKindsOfRecs(t *testing.T) {
	for _, r := range rightRecs() {
		for _, kind := range []int64{math.MinInt64, -2, -1, 0, 1, 2, 3, 4, math.MaxInt64} {
			// What is right as the one Kind is not as the other one.
			checkChanged(t, "a Kind", readyGroup(), r, kind == r.Kind, func(r *impl.Rec) { r.Kind = kind })
		}
		checkChanged(t, "open, without Seals", readyGroup(), r, r.Kind == impl.RcOpen, func(r *impl.Rec) { r.Kind, r.Cert = impl.RcOpen, nil })
		checkChanged(t, "written, by no client", readyGroup(), r, r.Kind == impl.RcWrite, func(r *impl.Rec) { r.Kind, r.Client = impl.RcWrite, 0 })
	}
	checkRec(t, "the zero Rec", readyGroup(), impl.Rec{}, false)
	checkRec(t, "nothing but its Sum", readyGroup(), summed(impl.Rec{}), false)
}

func TestShelvesOfRecs(t *testing.T) {
	for shelves := int64(1); shelves <= impl.MaxShelves; shelves++ {
		g := groupOf(4, 1, 2, shelves)
		for _, shelf := range []int64{math.MinInt64, -1, 0, 1, 2, 3, 4, 5, math.MaxInt64} {
			is := shelf >= 0 && shelf < shelves
			checkRec(t, "open on a shelf", g, openRec(1, shelf, openOf(4, 1, 7)), is)
			checkRec(t, "written on a shelf", g, writeRec(g, 1, claimOf(impl.ClReady, shelf, 2, 4, 9), 0, 1, 2), is)
		}
	}
}

func TestWrongSumsOfRecs(t *testing.T) {
	const m = 2147483647
	g := readyGroup()
	for _, r := range rightRecs() {
		checkRec(t, "its own Sum", g, r, true)
		for _, sum := range []int64{r.Sum + 1, r.Sum - 1, -r.Sum, r.Sum + m, r.Sum - m, 0, -1, math.MinInt64, math.MaxInt64} {
			wrong := r
			wrong.Sum = sum
			checkRec(t, "a wrong Sum", g, wrong, false)
		}
		for _, other := range rightRecs() {
			mixed := r
			mixed.Sum = other.Sum
			checkRec(t, "a Sum of another Rec", g, mixed, sameRec(r, other))
		}
	}
}

func TestRecsInAWrongGroup(t *testing.T) {
	for _, g := range wrongGroups() {
		for _, r := range append(rightRecs(), impl.Rec{}, summed(impl.Rec{No: 1, Kind: impl.RcWrite})) {
			checkRec(t, "a wrong group", g, r, false)
		}
	}
}

func TestClientsOfOpenRecs(t *testing.T) {
	g := readyGroup()
	for _, r := range opens() {
		for _, node := range []int64{math.MinInt64, -1, 0, 1, 3, 4, 5, 6, 7, 10, 15, 16, math.MaxInt64} {
			checkChanged(t, "another client's Stamp", g, r, node == r.Client, func(r *impl.Rec) { r.Stamp.Client = node })
			checkChanged(t, "another client", g, r, node == r.Client, func(r *impl.Rec) { r.Client = node })
			checkChanged(t, "another client and its Stamp", g, r, node >= 4 && node <= 6, func(r *impl.Rec) { r.Client, r.Stamp.Client = node, node })
		}
	}
}

func TestStampsAndValuesOfOpenRecs(t *testing.T) {
	g := readyGroup()
	for _, r := range opens() {
		for _, count := range []int64{math.MinInt64, -1, 0, 1, 2, 99999, 100000, 100001, math.MaxInt64} {
			checkChanged(t, "a Count", g, r, count >= 1 && count <= 100000, func(r *impl.Rec) { r.Stamp.Count = count })
		}
		for _, value := range []int64{math.MinInt64, -1, 0, 1, 9998, 9999, 10000, math.MaxInt64} {
			checkChanged(t, "a Value", g, r, value >= 0 && value <= 9999, func(r *impl.Rec) { r.Value = value })
		}
		checkChanged(t, "the zero Stamp", g, r, false, func(r *impl.Rec) { r.Stamp = impl.Stamp{} })
		checkChanged(t, "the zero Stamp of nobody", g, r, false, func(r *impl.Rec) { r.Client, r.Stamp, r.Value = 0, impl.Stamp{}, 0 })
	}
}

func TestCertsOfOpenRecs(t *testing.T) {
	g := readyGroup()
	for _, r := range opens() {
		c := impl.Claim{Kind: impl.ClReady, Shelf: r.Shelf, Stamp: r.Stamp, Value: r.Value}
		for _, cert := range [][]impl.Seal{{{}}, sealsOf(g, c, 2), sealsOf(g, c, 0, 1, 2), sealsOf(g, c, 0, 1, 2, 3), sealList(1, 7), make([]impl.Seal, 20), make([]impl.Seal, 21)} {
			checkChanged(t, "open by Seals", g, r, false, func(r *impl.Rec) { r.Cert = cert })
			checkChanged(t, "spare room", g, r, true, func(r *impl.Rec) { r.Cert = cert[:0] })
		}
		checkChanged(t, "no Seals", g, r, true, func(r *impl.Rec) { r.Cert = []impl.Seal{} })
	}
}

func TestClientsOfWriteRecs(t *testing.T) {
	for _, r := range writes() {
		for _, client := range []int64{math.MinInt64, -1, 0, 1, 4, 5, r.Stamp.Client, 6, 16, math.MaxInt64} {
			checkChanged(t, "written by a client", readyGroup(), r, client == 0, func(r *impl.Rec) { r.Client = client })
		}
	}
}

// Chapter 4 takes that nothing was written as proven, but there is nothing to write down of it.
func TestTheZeroStampIsNotWrittenDown(t *testing.T) {
	g := readyGroup()
	for _, value := range []int64{math.MinInt64, -1, 0, 1, 9999, 10000} {
		c := claimOf(impl.ClReady, 1, 0, 0, value)
		for _, servers := range [][]int64{nil, {2}, {0, 1, 2}, {0, 1, 2, 3}} {
			checkRec(t, "the zero Stamp", g, writeRec(g, 3, c, servers...), false)
		}
	}
}

// checkWrote asks of what all have sealed, whether c is right or not.
func checkWrote(t *testing.T, why string, c impl.Claim) {
	t.Helper()
	g := readyGroup()
	checkRec(t, why, g, writeRec(g, 3, c, 0, 1, 2, 3), wantClaimOk(c) && c.Shelf < g.Shelves && c.Stamp != stampOf(0, 0))
}

func TestStampsAndValuesOfWriteRecs(t *testing.T) {
	for _, stamp := range manyStamps() {
		checkWrote(t, "a Stamp", impl.Claim{Kind: impl.ClReady, Shelf: 1, Stamp: stamp, Value: 9})
	}
	for _, value := range []int64{math.MinInt64, -1, 0, 1, 9998, 9999, 10000, math.MaxInt64} {
		checkWrote(t, "a Value", claimOf(impl.ClReady, 1, 7, 5, value))
	}
	// It may have been written by any node, even by one that the Group has not.
	for _, node := range []int64{0, 3, 4, 6, 7, 15} {
		checkRec(t, "by a node", readyGroup(), writeRec(readyGroup(), 3, claimOf(impl.ClReady, 1, 7, node, 8), 0, 1, 2), true)
	}
}

func TestWriteRecsOfAnotherClaim(t *testing.T) {
	g := groupOf(4, 1, 3, impl.MaxShelves)
	for _, r := range writes() {
		c := impl.Claim{Kind: impl.ClReady, Shelf: r.Shelf, Stamp: r.Stamp, Value: r.Value}
		// The first of the others is ClWrote; the rest have another shelf, stamp or value.
		for _, other := range otherClaims(c) {
			checkChanged(t, "sealed for another", g, r, false, func(r *impl.Rec) { r.Cert = sealsOf(g, other, 0, 1, 2, 3) })
			checkChanged(t, "one sealed for another", g, r, false, func(r *impl.Rec) { r.Cert = append(sealsOf(g, other, 0), sealsOf(g, c, 1, 2, 3)...) })
		}
	}
}

func TestWriteRecsOfOtherSeals(t *testing.T) {
	g := readyGroup()
	for value := range int64(10) {
		c := claimOf(impl.ClReady, 1, 7, 5, value)
		for _, rising := range [][]int64{{0, 1, 2, 3}, {0, 1, 2}, {0, 1, 3}, {0, 2, 3}, {1, 2, 3}} {
			checkRec(t, "rising", g, writeRec(g, 3, c, rising...), true)
		}
		for _, other := range [][]int64{nil, {0}, {3}, {0, 1}, {1, 3}, {0, 2, 1}, {2, 1, 0}, {3, 1, 2}, {0, 1, 3, 2}, {1, 0, 2, 3}, {3, 2, 1, 0}} {
			checkRec(t, "too few, or out of order", g, writeRec(g, 3, c, other...), false)
		}
		for _, twice := range [][]int64{{0, 0, 1, 2}, {0, 1, 1, 2}, {0, 1, 2, 2}, {0, 1, 2, 0}, {0, 1, 2, 3, 3}, {0, 1, 1}, {2, 2, 2}} {
			checkRec(t, "a Seal twice", g, writeRec(g, 3, c, twice...), false)
		}
	}
}

func TestWriteRecsWithAWrongSeal(t *testing.T) {
	g, c := readyGroup(), claimOf(impl.ClReady, 1, 7, 5, 8)
	r := writeRec(g, 3, c, 0, 1, 2, 3)
	for _, wrong := range wrongSeals(g, c) {
		for place := range 5 {
			cert := slices.Insert(slices.Clone(r.Cert), place, wrong)
			checkChanged(t, "a wrong one more", g, r, false, func(r *impl.Rec) { r.Cert = cert })
			if place < 4 {
				instead := slices.Clone(r.Cert)
				instead[place] = wrong
				checkChanged(t, "a wrong one instead", g, r, false, func(r *impl.Rec) { r.Cert = instead })
			}
		}
	}
}

func TestLongCertsOfWriteRecs(t *testing.T) {
	g, c := wideGroup(), claimOf(impl.ClReady, 3, 7, 11, 8)
	checkRec(t, "all that there are", g, writeRec(g, 3, c, upTo(10)...), true)
	for _, count := range []int64{20, 21, 300} {
		var servers []int64
		for i := range count {
			servers = append(servers, i*10/count)
		}
		checkRec(t, "too many", g, writeRec(g, 3, c, servers...), false)
	}
}

func TestManyRecs(t *testing.T) {
	g, seen := noteGroup(), map[bool]int{}
	for _, no := range []int64{0, 1, 400, 401} {
		for kind := int64(0); kind <= 3; kind++ {
			for shelf := int64(-1); shelf <= 2; shelf++ {
				for _, client := range []int64{-1, 0, 3, 4, 5, 6} {
					for _, stamp := range []impl.Stamp{{}, stampOf(0, 4), stampOf(1, 4), stampOf(2, 5), stampOf(100001, 4)} {
						for _, value := range []int64{-1, 0, 9999, 10000} {
							c := impl.Claim{Kind: impl.ClReady, Shelf: shelf, Stamp: stamp, Value: value}
							for _, servers := range [][]int64{nil, {3}, {0, 2}, {0, 1, 3}, {0, 1, 2, 3}, {3, 1, 0}} {
								r := writeRec(g, no, c, servers...)
								r.Kind, r.Client = kind, client
								want := wantRecOk(g, summed(r))
								checkRec(t, "many", g, summed(r), want)
								seen[want]++
							}
						}
					}
				}
			}
		}
	}
	if seen[true] != 2*2*2*2*(1+2) {
		t.Errorf("so many are right, and not: %v", seen)
	}
}

// wantReg takes, of all that is written on that shelf, the first of the newest, and of all that is open the last one of each client.
func wantReg(list []impl.Rec, shelf int64) impl.Reg {
	var reg impl.Reg
	last := map[int64]impl.Open{}
	for _, r := range list {
		switch {
		case r.Shelf != shelf:
		case r.Kind == 1:
			last[r.Client] = impl.Open{Client: r.Client, Stamp: r.Stamp, Value: r.Value}
		case wantCmpStamp(r.Stamp, reg.Stamp) == 1:
			reg.Stamp, reg.Value, reg.Cert = r.Stamp, r.Value, r.Cert
		}
	}
	for _, client := range slices.Sorted(maps.Keys(last)) {
		reg.Opens = append(reg.Opens, last[client])
	}
	return reg
}

func wantReplayed(g impl.Group, list []impl.Rec) ([]impl.Reg, bool) {
	if !wantGroupOk(g) {
		return nil, false
	}
	for i, r := range list {
		if r.No != int64(i)+1 || !wantRecOk(g, r) {
			return nil, false
		}
	}
	var regs []impl.Reg
	for shelf := range g.Shelves {
		regs = append(regs, wantReg(list, shelf))
	}
	return regs, true
}

func sameRegs(a, b []impl.Reg) bool { return slices.EqualFunc(a, b, sameReg) }

// checkReplayed fails unless the list is Replayed as it must be, by itself and in two parts.
func checkReplayed(t *testing.T, why string, g impl.Group, list []impl.Rec) []impl.Reg {
	t.Helper()
	want, wantIs := wantReplayed(g, list)
	got, is := impl.Replayed(g, list)
	if !sameRegs(got, want) || is != wantIs {
		t.Errorf("%s: %+v is Replayed to %+v and %v, not %+v and %v", why, list, got, is, want, wantIs)
	}
	if !is {
		return got
	}
	for shelf, reg := range got {
		checkReg(t, why, g, int64(shelf), reg, true)
	}
	for cut := range list {
		first, is := impl.Replayed(g, list[:cut])
		if both := goneOn(t, g, first, list[cut:]); !is || !sameRegs(both, got) {
			t.Errorf("%s: cut at %d, it is Replayed to %+v, not %+v", why, cut, both, got)
		}
		// The second part has not the Nos that a list must have.
		if _, is := impl.Replayed(g, list[cut:]); is != (cut == 0) {
			t.Errorf("%s: what stands behind the first %d is Replayed: %v", why, cut, is)
		}
	}
	return got
}

// goneOn does what the records tell, one after the other.
func goneOn(t *testing.T, g impl.Group, regs []impl.Reg, list []impl.Rec) []impl.Reg {
	t.Helper()
	regs = slices.Clone(regs)
	for _, r := range list {
		is := true
		if r.Kind == impl.RcOpen {
			regs[r.Shelf] = impl.WithOpen(regs[r.Shelf], impl.Open{Client: r.Client, Stamp: r.Stamp, Value: r.Value})
		} else {
			regs[r.Shelf], is = impl.Written(g, r.Shelf, regs[r.Shelf], r.Stamp, r.Value, r.Cert)
		}
		if !is {
			t.Errorf("%+v is not Written", r)
		}
	}
	return regs
}

// replayed fails unless just these Regs are answered, and true.
func replayed(t *testing.T, why string, g impl.Group, list []impl.Rec, want ...impl.Reg) {
	t.Helper()
	checkReplayed(t, why, g, list)
	if got, is := impl.Replayed(g, list); !is || !sameRegs(got, want) {
		t.Errorf("%s: %+v is Replayed to %+v and %v, not %+v", why, list, got, is, want)
	}
}

// notReplayed fails unless nothing and false are answered.
func notReplayed(t *testing.T, why string, g impl.Group, list []impl.Rec) {
	t.Helper()
	checkReplayed(t, why, g, list)
	if got, is := impl.Replayed(g, list); is || len(got) > 0 {
		t.Errorf("%s: %+v is Replayed to %+v and %v", why, list, got, is)
	}
}

// numbered have the Nos 1, 2 and so on.
func numbered(list ...impl.Rec) []impl.Rec {
	list = slices.Clone(list)
	for i := range list {
		list[i].No = int64(i) + 1
		list[i] = summed(list[i])
	}
	return list
}

func TestNoRecsAreReplayed(t *testing.T) {
	for _, g := range rightGroups() {
		for _, none := range [][]impl.Rec{nil, {}, make([]impl.Rec, 0, 3), rightRecs()[:0]} {
			replayed(t, "no records", g, none, make([]impl.Reg, g.Shelves)...)
		}
	}
}

func TestReplayedInNumbers(t *testing.T) {
	g := impl.Group{Servers: 4, Liars: 1, Clients: 2, Shelves: 2, Keys: []int64{11, 22, 33, 44, 55, 66}}
	c, d := claimOf(impl.ClReady, 1, 1, 4, 9), claimOf(impl.ClReady, 0, 2, 5, 0)
	list := []impl.Rec{
		openRec(1, 1, openOf(5, 1, 3)), openRec(2, 1, openOf(4, 1, 9)), writeRec(g, 3, c, 0, 1, 3),
		openRec(4, 0, openOf(5, 2, 0)), writeRec(g, 5, d, 1, 2, 3), openRec(6, 1, openOf(5, 2, 8)),
	}
	replayed(t, "in numbers", g, list,
		withOpens(regOf(g, d, 1, 2, 3), openList(5, 2, 0)), withOpens(regOf(g, c, 0, 1, 3), openList(4, 1, 9, 5, 2, 8)))
}

func TestEachKindOfRecAlone(t *testing.T) {
	for shelves := int64(1); shelves <= impl.MaxShelves; shelves++ {
		g := groupOf(4, 1, 2, shelves)
		for shelf := range shelves {
			want := make([]impl.Reg, shelves)
			want[shelf] = impl.Reg{Opens: openList(5, 7, 8)}
			replayed(t, "one open", g, numbered(openRec(0, shelf, openOf(5, 7, 8))), want...)
			c := claimOf(impl.ClReady, shelf, 7, 5, 8)
			want[shelf] = regOf(g, c, 0, 2, 3)
			replayed(t, "one written", g, numbered(writeRec(g, 0, c, 0, 2, 3)), want...)
		}
		notReplayed(t, "open on no shelf", g, numbered(openRec(0, shelves, openOf(5, 7, 8))))
		notReplayed(t, "written on no shelf", g, numbered(writeRec(g, 0, claimOf(impl.ClReady, shelves, 7, 5, 8), 0, 2, 3)))
	}
}

// onShelf has each three numbers as an Open on that shelf.
func onShelf(shelf int64, numbers ...int64) []impl.Rec {
	var list []impl.Rec
	for _, o := range openList(numbers...) {
		list = append(list, openRec(0, shelf, o))
	}
	return list
}

func TestManyOpenOnOneShelf(t *testing.T) {
	g := readyGroup()
	rows := []struct {
		why          string
		opened, want []int64
	}{
		{"rising", []int64{4, 1, 1, 5, 2, 2, 6, 3, 3}, []int64{4, 1, 1, 5, 2, 2, 6, 3, 3}},
		{"falling", []int64{6, 3, 3, 5, 2, 2, 4, 1, 1}, []int64{4, 1, 1, 5, 2, 2, 6, 3, 3}},
		{"the one between at last", []int64{6, 3, 3, 4, 1, 1, 5, 2, 2}, []int64{4, 1, 1, 5, 2, 2, 6, 3, 3}},
		{"of one client, a newer one", []int64{5, 2, 2, 5, 3, 4}, []int64{5, 3, 4}},
		{"of one client, an older one", []int64{5, 3, 4, 5, 2, 2}, []int64{5, 2, 2}},
		{"of one client, another value", []int64{5, 2, 2, 5, 2, 3}, []int64{5, 2, 3}},
		{"of one client, just the same", []int64{5, 2, 2, 5, 2, 2}, []int64{5, 2, 2}},
		{"of one client, thrice", []int64{5, 2, 2, 5, 9, 9, 5, 4, 4}, []int64{5, 4, 4}},
		{"again ahead of another one", []int64{4, 1, 1, 6, 3, 3, 4, 2, 8}, []int64{4, 2, 8, 6, 3, 3}},
		{"again behind another one", []int64{4, 1, 1, 6, 3, 3, 6, 4, 8}, []int64{4, 1, 1, 6, 4, 8}},
		{"again between others", []int64{4, 1, 1, 5, 2, 2, 6, 3, 3, 5, 7, 8}, []int64{4, 1, 1, 5, 7, 8, 6, 3, 3}},
		{"others beside its two", []int64{5, 2, 2, 4, 1, 1, 6, 3, 3, 5, 7, 8}, []int64{4, 1, 1, 5, 7, 8, 6, 3, 3}},
	}
	for _, row := range rows {
		replayed(t, row.why, g, numbered(onShelf(1, row.opened...)...), impl.Reg{}, impl.Reg{Opens: openList(row.want...)})
		replayed(t, row.why, g, numbered(onShelf(0, row.opened...)...), impl.Reg{Opens: openList(row.want...)}, impl.Reg{})
		// Beside what is written, whenever that was.
		c := claimOf(impl.ClReady, 1, 5, 4, 3)
		for place := range len(row.opened)/3 + 1 {
			list := slices.Insert(onShelf(1, row.opened...), place, writeRec(g, 0, c, 0, 2, 3))
			replayed(t, row.why, g, numbered(list...), impl.Reg{}, withOpens(regOf(g, c, 0, 2, 3), openList(row.want...)))
		}
	}
}

func TestManyWrittenOnOneShelf(t *testing.T) {
	g := readyGroup()
	first := claimOf(impl.ClReady, 1, 5, 5, 3)
	rows := []struct {
		why   string
		c     impl.Claim
		newer bool
	}{
		{"a greater Count", claimOf(impl.ClReady, 1, 6, 4, 8), true},
		{"a greater Client", claimOf(impl.ClReady, 1, 5, 6, 3), true},
		{"the newest there is", claimOf(impl.ClReady, 1, 100000, 15, 0), true},
		{"a lesser Count", claimOf(impl.ClReady, 1, 4, 6, 8), false},
		{"a lesser Client", claimOf(impl.ClReady, 1, 5, 4, 3), false},
		{"the oldest there is", claimOf(impl.ClReady, 1, 1, 0, 9999), false},
		{"just the same", claimOf(impl.ClReady, 1, 5, 5, 3), false},
		{"the same Stamp, a greater value", claimOf(impl.ClReady, 1, 5, 5, 4), false},
		{"the same Stamp, a lesser value", claimOf(impl.ClReady, 1, 5, 5, 2), false},
	}
	for _, row := range rows {
		for _, servers := range [][]int64{{0, 1, 2, 3}, {0, 2, 3}, {1, 2, 3}} {
			want := regOf(g, first, 0, 2, 3)
			if row.newer {
				want = regOf(g, row.c, servers...)
			}
			list := numbered(writeRec(g, 0, first, 0, 2, 3), writeRec(g, 0, row.c, servers...))
			replayed(t, row.why, g, list, impl.Reg{}, want)
			opened := numbered(openRec(0, 1, openOf(6, 1, 1)), list[0], openRec(0, 1, openOf(4, 2, 2)), list[1], list[0])
			replayed(t, row.why, g, opened, impl.Reg{}, withOpens(want, openList(4, 2, 2, 6, 1, 1)))
		}
	}
}

func TestShelvesAreReplayedByThemselves(t *testing.T) {
	g := groupOf(4, 1, 3, impl.MaxShelves)
	c := func(shelf, count int64) impl.Claim { return claimOf(impl.ClReady, shelf, count, 4, shelf) }
	list := numbered(
		writeRec(g, 0, c(0, 9), 0, 1, 2), openRec(0, 3, openOf(5, 1, 1)), writeRec(g, 0, c(3, 2), 1, 2, 3), openRec(0, 0, openOf(5, 9, 9)),
		writeRec(g, 0, c(1, 5), 0, 1, 3), writeRec(g, 0, c(3, 8), 0, 1, 2, 3), openRec(0, 3, openOf(4, 1, 2)), openRec(0, 1, openOf(5, 3, 4)),
		writeRec(g, 0, c(0, 8), 0, 1, 2), openRec(0, 3, openOf(5, 2, 6)),
	)
	replayed(t, "several shelves", g, list,
		withOpens(regOf(g, c(0, 9), 0, 1, 2), openList(5, 9, 9)),
		withOpens(regOf(g, c(1, 5), 0, 1, 3), openList(5, 3, 4)),
		impl.Reg{},
		withOpens(regOf(g, c(3, 8), 0, 1, 2, 3), openList(4, 1, 2, 5, 2, 6)))
}

// withNos have those Nos instead, and are right but for that.
func withNos(list []impl.Rec, nos ...int64) []impl.Rec {
	list = slices.Clone(list)
	for i, no := range nos {
		list[i].No = no
		list[i] = summed(list[i])
	}
	return list
}

// sixRecs are such as can be Replayed in readyGroup.
func sixRecs() []impl.Rec { return numbered(rightRecs()...) }

func TestNosOfReplayedRecs(t *testing.T) {
	g, list := readyGroup(), sixRecs()
	checkReplayed(t, "1, 2 and so on", g, withNos(list, 1, 2, 3, 4, 5, 6))
	if _, is := impl.Replayed(g, withNos(list, 1, 2, 3, 4, 5, 6)); !is {
		t.Error("1, 2 and so on are not Replayed")
	}
	rows := [][]int64{
		{0, 1, 2, 3, 4, 5}, {2, 3, 4, 5, 6, 7}, {1, 2, 4, 5, 6, 7}, {1, 2, 3, 4, 5, 7}, {1, 3, 4, 5, 6, 7}, {1, 2, 3, 3, 4, 5}, {1, 1, 2, 3, 4, 5},
		{1, 2, 3, 4, 5, 5}, {1, 2, 4, 3, 5, 6}, {2, 1, 3, 4, 5, 6}, {1, 2, 3, 4, 6, 5}, {6, 5, 4, 3, 2, 1}, {1, 1, 1, 1, 1, 1}, {-1, 0, 1, 2, 3, 4},
		{1, 2, 3, 4, 5, 400}, {400, 2, 3, 4, 5, 6}, {1, 2, 3, 4, 5, -6}, {math.MaxInt64, 2, 3, 4, 5, 6}, {1, 2, math.MinInt64, 4, 5, 6},
	}
	for _, nos := range rows {
		notReplayed(t, "other Nos", g, withNos(list, nos...))
	}
	for _, no := range []int64{math.MinInt64, -1, 0, 2, 400, 401, math.MaxInt64} {
		for _, r := range list {
			notReplayed(t, "another No alone", g, withNos([]impl.Rec{r}, no))
		}
	}
	// One taken out, or there twice, or two that changed places.
	for i := range list {
		if i < 5 {
			notReplayed(t, "one left out", g, slices.Delete(slices.Clone(list), i, i+1))
		}
		notReplayed(t, "one twice", g, slices.Insert(slices.Clone(list), i, list[i]))
		for j := range i {
			swapped := slices.Clone(list)
			swapped[i], swapped[j] = swapped[j], swapped[i]
			notReplayed(t, "two swapped", g, swapped)
		}
	}
}

// spoiled are ways in which a record comes to be wrong, but for its Sum.
func spoiled() []func(r *impl.Rec) {
	return []func(r *impl.Rec){
		func(r *impl.Rec) { r.Kind = 3 },
		func(r *impl.Rec) { r.Kind = 3 - r.Kind },
		func(r *impl.Rec) { r.Shelf = 2 },
		func(r *impl.Rec) { r.Shelf = -1 },
		func(r *impl.Rec) { r.Shelf = math.MaxInt64 },
		func(r *impl.Rec) { r.Client = 3 },
		func(r *impl.Rec) { r.Stamp.Count = 0 },
		func(r *impl.Rec) { r.Stamp.Client = 16 },
		func(r *impl.Rec) { r.Value = 10000 },
		func(r *impl.Rec) { r.Cert = append(r.Cert[:len(r.Cert):len(r.Cert)], impl.Seal{}) },
		func(r *impl.Rec) { r.Cert = sealList(1, 7) },
		func(r *impl.Rec) { *r = impl.Rec{No: r.No} },
	}
}

func TestWrongRecsAreNotReplayed(t *testing.T) {
	g := readyGroup()
	for place := range 6 {
		for _, spoil := range spoiled() {
			list := sixRecs()
			spoil(&list[place])
			notReplayed(t, "a wrong one, by the old Sum", g, list)
			list[place] = summed(list[place])
			checkRec(t, "a wrong one", g, list[place], false)
			notReplayed(t, "a wrong one", g, list)
			notReplayed(t, "a wrong one alone", g, numbered(list[place]))
			notReplayed(t, "a wrong one at last", g, list[:place+1])
			checkReplayed(t, "ahead of a wrong one", g, list[:place])
		}
		for _, more := range []int64{1, -1} {
			list := sixRecs()
			list[place].Sum += more
			notReplayed(t, "a Sum that is one off", g, list)
		}
	}
}

func TestNothingIsReplayedInAWrongGroup(t *testing.T) {
	for _, g := range groupsThatAreWrong() {
		for _, list := range [][]impl.Rec{nil, {}, sixRecs(), sixRecs()[:1], {{}}} {
			notReplayed(t, "a wrong group", g, list)
		}
	}
	// Records are right in one Group, and may not be in another.
	notReplayed(t, "fewer shelves", groupOf(4, 1, 3, 1), sixRecs())
	notReplayed(t, "fewer clients", groupOf(4, 1, 2, 2), sixRecs())
	notReplayed(t, "more servers", groupOf(5, 1, 3, 2), sixRecs())
	checkReplayed(t, "more shelves", groupOf(4, 1, 3, 4), sixRecs())
}

func TestMaxRecsAreReplayed(t *testing.T) {
	g := readyGroup()
	var list []impl.Rec
	for no := int64(1); no <= 402; no++ {
		c := claimOf(impl.ClReady, no%2, no, 5, no)
		list = append(list, openRec(0, no%2, openOf(4+no%3, no, no)), writeRec(g, 0, c, 0, 1, 2))
	}
	list = numbered(list...)
	if regs, is := impl.Replayed(g, list[:400]); !is || regs[0].Value != 200 || regs[1].Value != 199 {
		t.Errorf("MaxRecs records are Replayed to %+v and %v", regs, is)
	}
	for _, count := range []int{401, 402, 804} {
		if regs, is := impl.Replayed(g, list[:count]); is || len(regs) > 0 {
			t.Errorf("%d records are Replayed to %+v and %v", count, regs, is)
		}
	}
}

// done is a group's shelves on which things are done and written down, as a server does it.
type done struct {
	g    impl.Group
	regs []impl.Reg
	list []impl.Rec
}

func (d *done) note(kind, client int64, c impl.Claim, cert []impl.Seal) {
	d.list = append(d.list, impl.NewRec(int64(len(d.list))+1, kind, c.Shelf, client, c.Stamp, c.Value, cert))
}

func (d *done) open(shelf int64, o impl.Open) {
	d.regs[shelf] = impl.WithOpen(d.regs[shelf], o)
	d.note(impl.RcOpen, o.Client, impl.Claim{Shelf: shelf, Stamp: o.Stamp, Value: o.Value}, nil)
}

func (d *done) write(c impl.Claim, cert []impl.Seal) {
	next, is := impl.Written(d.g, c.Shelf, d.regs[c.Shelf], c.Stamp, c.Value, cert)
	if is {
		d.regs[c.Shelf] = next
		c.Kind = impl.ClReady
		d.note(impl.RcWrite, 0, c, impl.GoodSeals(d.g, c, cert))
	}
}

// Whatever is done, in whatever order, at each moment the records are Replayed to what stands there.
func TestWhatIsReplayedIsWhatWasDone(t *testing.T) {
	for _, g := range []impl.Group{readyGroup(), wideGroup(), groupOf(1, 0, 1, 1)} {
		for step := int64(1); step < 31; step++ {
			d := done{g: g, regs: make([]impl.Reg, g.Shelves)}
			for i := range int64(30) {
				at := (i + 1) * step % 31
				shelf, client := at%g.Shelves, g.Servers+at/2%g.Clients
				if at%3 == 0 {
					d.open(shelf, openOf(client, at/5+1, at))
				} else {
					c := claimOf(impl.ClReady, shelf, at/4, client, at)
					// Some by too few, some by what is wrong, some out of order and twice.
					cert := append(sealsOf(g, c, upTo(g.Servers-at%5%g.Servers)...), sealOf(0, 1))
					slices.Reverse(cert)
					d.write(c, append(cert, cert...))
				}
				if got, is := impl.Replayed(g, d.list); !is || !sameRegs(got, d.regs) {
					t.Fatalf("%+v is Replayed to %+v and %v, not %+v", d.list, got, is, d.regs)
				}
			}
			checkReplayed(t, "what was done", g, d.list)
		}
	}
}

func TestManyReplayed(t *testing.T) {
	g := noteGroup()
	choice := []impl.Rec{
		openRec(0, 0, openOf(4, 1, 1)), openRec(0, 1, openOf(4, 2, 2)), openRec(0, 1, openOf(5, 1, 3)), openRec(0, 1, openOf(5, 2, 3)), openRec(0, 1, openOf(3, 1, 3)),
		writeRec(g, 0, claimOf(1, 1, 1, 4, 4), 0, 1, 2), writeRec(g, 0, claimOf(1, 1, 1, 4, 5), 0, 1, 3), writeRec(g, 0, claimOf(1, 1, 1, 5, 5), 1, 2, 3),
		writeRec(g, 0, claimOf(1, 0, 2, 4, 6), 0, 1, 2, 3), writeRec(g, 0, claimOf(1, 1, 2, 4, 6), 0, 3),
	}
	seen := map[bool]int{}
	for i := range 10000 {
		picked := numbered(choice[i%10], choice[i/10%10], choice[i/100%10], choice[i/1000])
		_, is := wantReplayed(g, picked)
		checkReplayed(t, "many", g, picked)
		seen[is]++
	}
	if seen[true] != 8*8*8*8 {
		t.Errorf("so many can be Replayed, and not: %v", seen)
	}
}

func TestNewRecIsNewMemory(t *testing.T) {
	answer := func(cert []impl.Seal) impl.Rec { return impl.NewRec(1, 2, 1, 0, stampOf(5, 4), 9, cert) }
	listStays(t, sealList(0, 5, 1, 6, 2, 7, 3, 8), func(cert []impl.Seal) {
		first := answer(cert)
		scribble(answer(cert).Cert)
		if !slices.Equal(first.Cert, cert) {
			t.Errorf("two answers share memory: %v", first.Cert)
		}
		// Of a copy, because listStays looks at what it gave.
		given := slices.Clone(cert)
		kept := answer(given)
		scribble(given)
		if !sameRec(kept, first) {
			t.Errorf("an answer changes with an argument: %v", kept.Cert)
		}
	})
}

// roomyRecs have wrong Seals in the room behind their Certs, and records in the room behind them.
func roomyRecs(count int) []impl.Rec {
	list := sixRecs()
	for i, r := range list {
		list[i].Cert = append(r.Cert, sealList(1, 7, 0, 8)...)[:len(r.Cert)]
	}
	return append(list, openRec(7, 1, openOf(4, 9, 9)), impl.Rec{})[:count]
}

func TestRecordArgumentsStay(t *testing.T) {
	seen := map[bool]int{}
	for count := range 9 {
		room, before := roomyRecs(count), roomyRecs(8)
		use := func(g impl.Group) {
			_, is := impl.Replayed(g, room)
			seen[is]++
			for _, r := range room {
				impl.SumOf(r)
				impl.RecOk(g, r)
				impl.NewRec(r.No, r.Kind, r.Shelf, r.Client, r.Stamp, r.Value, r.Cert)
			}
		}
		keysStay(t, use)
		for _, g := range []impl.Group{readyGroup(), wideGroup()} {
			use(g)
		}
		for i, r := range room[:8] {
			if !sameRec(r, before[i]) || !slices.Equal(roomOf(r.Cert), roomOf(before[i].Cert)) {
				t.Errorf("the record %d of %d was written into: %+v", i, count, r)
			}
		}
	}
	if seen[true] < 8 || seen[false] == 0 {
		t.Errorf("so often there was an answer, and not: %v", seen)
	}
}

// regsCopy shares nothing with the Regs.
func regsCopy(regs []impl.Reg) []impl.Reg {
	list := slices.Clone(regs)
	for i, r := range list {
		list[i].Cert, list[i].Opens = slices.Clone(r.Cert), slices.Clone(r.Opens)
	}
	return list
}

// spoilList writes into one list of the Regs: each Reg has two, first its Cert, then its Opens.
func spoilList(regs []impl.Reg, place int) {
	if place%2 == 0 {
		scribble(regs[place/2].Cert)
		return
	}
	fillRoom(regs[place/2].Opens, openOf(-77, -78, -79))
}

// regsAreNew fails if two answers share memory, or two lists of one do, or an answer has some of that of the records.
func regsAreNew(t *testing.T, g impl.Group, list []impl.Rec) {
	t.Helper()
	first, _ := impl.Replayed(g, list)
	want := regsCopy(first)
	for place := range 2 * len(want) {
		got, _ := impl.Replayed(g, list)
		apart := regsCopy(got)
		spoilList(got, place)
		spoilList(apart, place)
		if !sameRegs(got, apart) {
			t.Errorf("the list %d of an answer has some of the memory of another one", place)
		}
		fillRoom(got, impl.Reg{Value: -77})
	}
	again, _ := impl.Replayed(g, list)
	if !sameRegs(first, want) || !sameRegs(again, want) {
		t.Error("an answer has some of the memory of another one, or of the records")
	}
}

func TestReplayedIsNewMemory(t *testing.T) {
	g := readyGroup()
	for count := range 8 {
		list, before := roomyRecs(count), roomyRecs(count)
		regsAreNew(t, g, list)
		for i, r := range list {
			if !sameRec(r, before[i]) || !slices.Equal(roomOf(r.Cert), roomOf(before[i].Cert)) {
				t.Errorf("an answer has some of the memory of the record %d", i)
			}
		}
		kept, _ := impl.Replayed(g, list)
		want := regsCopy(kept)
		for _, r := range list {
			scribble(r.Cert)
		}
		fillRoom(list, impl.Rec{No: -77})
		if !sameRegs(kept, want) {
			t.Error("an answer changes with an argument")
		}
	}
}
