package tests

import (
	"math"
	"slices"
	"testing"

	"loop.example/g00695/impl"
)

// journalOf has the first ones kept, and all behind them loose.
func journalOf(kept int, list []impl.Rec) impl.Journal {
	return impl.Journal{Kept: slices.Clone(list[:kept]), Loose: slices.Clone(list[kept:])}
}

// allOf has Loose behind Kept.
func allOf(j impl.Journal) []impl.Rec { return slices.Concat(j.Kept, j.Loose) }

func sameRecs(a, b []impl.Rec) bool { return slices.EqualFunc(a, b, sameRec) }

func sameJournal(a, b impl.Journal) bool {
	return sameRecs(a.Kept, b.Kept) && sameRecs(a.Loose, b.Loose)
}

func wantJournalOk(g impl.Group, j impl.Journal) bool {
	_, is := wantReplayed(g, allOf(j))
	return is && len(j.Kept)+len(j.Loose) <= 400
}

// wantNoted takes of r neither its No nor its Sum.
func wantNoted(g impl.Group, j impl.Journal, r impl.Rec) (impl.Journal, bool) {
	if !wantJournalOk(g, j) {
		return impl.Journal{}, false
	}
	r.No = int64(len(allOf(j))) + 1
	next := impl.Journal{Kept: j.Kept, Loose: append(slices.Clone(j.Loose), summed(r))}
	if !wantJournalOk(g, next) {
		return j, false
	}
	return next, true
}

func wantCrashed(g impl.Group, j impl.Journal, lost []bool) impl.Journal {
	if !wantJournalOk(g, j) {
		return impl.Journal{}
	}
	kept := slices.Clone(j.Kept)
	for i, r := range j.Loose {
		if i < len(lost) && lost[i] {
			break
		}
		kept = append(kept, r)
	}
	return impl.Journal{Kept: kept}
}

// noted asks of r as it is, but for its No and its Sum, for which there is no argument.
func noted(g impl.Group, j impl.Journal, r impl.Rec) (impl.Journal, bool) {
	return impl.Noted(g, j, r.Kind, r.Shelf, r.Client, r.Stamp, r.Value, r.Cert)
}

// checkNoted fails unless r is Noted behind j, or refused, as it must be.
func checkNoted(t *testing.T, why string, g impl.Group, j impl.Journal, r impl.Rec, wantIs bool) {
	t.Helper()
	want, is := wantNoted(g, j, r)
	if is != wantIs {
		t.Errorf("%s: the test itself is wrong about %+v behind %+v", why, r, j)
	}
	if got, is := noted(g, j, r); !sameJournal(got, want) || is != wantIs {
		t.Errorf("%s: %+v is Noted behind %+v: %+v and %v, not %+v and %v", why, r, j, got, is, want, wantIs)
	}
}

func checkCrashed(t *testing.T, why string, g impl.Group, j impl.Journal, lost []bool) {
	t.Helper()
	want := wantCrashed(g, j, lost)
	if got := impl.Crashed(g, j, lost); !sameJournal(got, want) {
		t.Errorf("%s: %+v is Crashed by %v to %+v, not %+v", why, j, lost, got, want)
	}
}

// allLost are several ways to lose some of those many, and of some that are not there; of few, each is the first lost one once.
func allLost(count int) [][]bool {
	list := [][]bool{nil, {}, make([]bool, count), make([]bool, count+3), append(make([]bool, count), true)}
	for place := 0; place < count; place += count/8 + 1 {
		list = append(list, append(make([]bool, place), true))
	}
	return append(list, slices.Repeat([]bool{true}, count+2))
}

// checkJournal fails unless j is right or not, as it must be, and all that is asked of it is answered so.
func checkJournal(t *testing.T, why string, g impl.Group, j impl.Journal, want bool) {
	t.Helper()
	if got := impl.JournalOk(g, j); got != want {
		t.Errorf("%s: JournalOk of %+v is %v", why, j, got)
	}
	if wantJournalOk(g, j) != want {
		t.Errorf("%s: the test itself is wrong about %+v", why, j)
	}
	if got := impl.Synced(g, j); !sameJournal(got, wantCrashed(g, j, nil)) {
		t.Errorf("%s: %+v is Synced to %+v", why, j, got)
	}
	for _, lost := range allLost(len(j.Loose)) {
		checkCrashed(t, why, g, j, lost)
	}
	for _, r := range rightRecs() {
		_, is := wantNoted(g, j, r)
		checkNoted(t, why, g, j, r, is)
	}
	checkNoted(t, why, g, j, impl.Rec{}, false)
}

// wrongJournal fails unless j is not right, and nothing but the zero Journal is answered of it.
func wrongJournal(t *testing.T, why string, g impl.Group, j impl.Journal) {
	t.Helper()
	checkJournal(t, why, g, j, false)
	answers := []impl.Journal{impl.Synced(g, j), impl.Crashed(g, j, nil), impl.Crashed(g, j, []bool{false, true})}
	for _, r := range rightRecs() {
		got, is := noted(g, j, r)
		if is {
			t.Errorf("%s: %+v is Noted behind %+v", why, r, j)
		}
		answers = append(answers, got)
	}
	for i, got := range answers {
		if len(got.Kept) > 0 || len(got.Loose) > 0 {
			t.Errorf("%s: the answer %d of %+v is %+v", why, i, j, got)
		}
	}
}

// emptyJournals are all the zero Journal.
func emptyJournals() []impl.Journal {
	room := sixRecs()
	return []impl.Journal{
		{}, {Kept: []impl.Rec{}}, {Loose: []impl.Rec{}}, {Kept: []impl.Rec{}, Loose: []impl.Rec{}},
		{Kept: make([]impl.Rec, 0, 5), Loose: make([]impl.Rec, 0, 5)}, {Kept: room[:0]}, {Loose: room[:0]}, {Kept: room[:0], Loose: room[3:3]},
	}
}

func TestTheZeroJournal(t *testing.T) {
	for _, g := range append(rightGroups(), readyGroup()) {
		for _, j := range emptyJournals() {
			checkJournal(t, "the zero Journal", g, j, true)
			if got := impl.Synced(g, j); !sameJournal(got, impl.Journal{}) {
				t.Errorf("nothing is Synced to %+v", got)
			}
		}
	}
}

func TestKeptAndLoose(t *testing.T) {
	g := readyGroup()
	for count := range 7 {
		for kept := range count + 1 {
			checkJournal(t, "so many kept", g, journalOf(kept, sixRecs()[:count]), true)
		}
	}
	// Other orders, in which other kinds are at the ends.
	for step := 1; step < 7; step++ {
		var list []impl.Rec
		for i := range 6 {
			list = append(list, rightRecs()[(i+1)*step%7-1])
		}
		for kept := range 7 {
			checkJournal(t, "in another order", g, journalOf(kept, numbered(list...)), true)
		}
	}
}

func TestJournalsInNumbers(t *testing.T) {
	g := impl.Group{Servers: 4, Liars: 1, Clients: 2, Shelves: 2, Keys: []int64{11, 22, 33, 44, 55, 66}}
	c := claimOf(impl.ClReady, 1, 1, 4, 9)
	one, two, three := openRec(1, 1, openOf(5, 1, 3)), writeRec(g, 2, c, 0, 1, 3), openRec(3, 0, openOf(4, 2, 8))
	j := impl.Journal{}
	for i, r := range []impl.Rec{one, two, three} {
		next, is := impl.Noted(g, j, r.Kind, r.Shelf, r.Client, r.Stamp, r.Value, r.Cert)
		if !is || !impl.JournalOk(g, next) {
			t.Fatalf("the record %d is not Noted: %+v", i+1, next)
		}
		j = next
	}
	if !sameRecs(j.Kept, nil) || !sameRecs(j.Loose, []impl.Rec{one, two, three}) {
		t.Fatalf("three are Noted: %+v", j)
	}
	rows := []struct {
		lost []bool
		want []impl.Rec
	}{
		{nil, []impl.Rec{one, two, three}},
		{[]bool{false, false, true}, []impl.Rec{one, two}},
		{[]bool{false, true, false}, []impl.Rec{one}},
		{[]bool{false, true}, []impl.Rec{one}},
		{[]bool{true}, nil},
		{[]bool{true, true, true}, nil},
		{[]bool{false, false, false, true}, []impl.Rec{one, two, three}},
	}
	for _, row := range rows {
		if got := impl.Crashed(g, j, row.lost); !sameRecs(got.Kept, row.want) || len(got.Loose) > 0 {
			t.Errorf("Crashed by %v it is %+v, not %+v", row.lost, got, row.want)
		}
	}
	if got := impl.Synced(g, j); !sameRecs(got.Kept, []impl.Rec{one, two, three}) || len(got.Loose) > 0 {
		t.Errorf("Synced it is %+v", got)
	}
}

func TestNosOfJournals(t *testing.T) {
	g, list := readyGroup(), sixRecs()
	rows := []struct {
		why string
		nos []int64
	}{
		{"begins at 1 again", []int64{1, 2, 3, 1, 2, 3}},
		{"one left out behind Kept", []int64{1, 2, 3, 5, 6, 7}},
		{"one left out in Loose", []int64{1, 2, 3, 4, 6, 7}},
		{"one left out in Kept", []int64{1, 3, 4, 5, 6, 7}},
		{"the last of Kept again", []int64{1, 2, 3, 3, 4, 5}},
		{"one twice in Loose", []int64{1, 2, 3, 4, 4, 5}},
		{"one twice in Kept", []int64{1, 1, 2, 3, 4, 5}},
		{"one of Kept at the end of Loose", []int64{1, 2, 3, 4, 5, 3}},
		{"Loose ahead of Kept", []int64{4, 5, 6, 1, 2, 3}},
		{"from 0 on", []int64{0, 1, 2, 3, 4, 5}},
		{"from 2 on", []int64{2, 3, 4, 5, 6, 7}},
		{"two swapped over the end of Kept", []int64{1, 2, 4, 3, 5, 6}},
		{"two swapped in Loose", []int64{1, 2, 3, 5, 4, 6}},
		{"falling", []int64{6, 5, 4, 3, 2, 1}},
		{"a huge one", []int64{1, 2, 3, 4, 5, math.MaxInt64}},
		{"below 0", []int64{1, 2, 3, 4, 5, -6}},
	}
	for _, row := range rows {
		for kept := range 7 {
			wrongJournal(t, row.why, g, journalOf(kept, withNos(list, row.nos...)))
		}
	}
	// What is right as Kept alone is not as Loose behind it, and not the other way round.
	for count := 1; count < 7; count++ {
		wrongJournal(t, "the same kept and loose", g, impl.Journal{Kept: list[:count], Loose: list[:count]})
		if count < 6 {
			wrongJournal(t, "in the other order", g, impl.Journal{Kept: list[count:], Loose: list[:count]})
			wrongJournal(t, "kept from the middle on", g, impl.Journal{Kept: list[count:]})
			wrongJournal(t, "loose from the middle on", g, impl.Journal{Loose: list[count:]})
		}
	}
}

func TestJournalsWithAWrongRec(t *testing.T) {
	g := readyGroup()
	for place := range 6 {
		for _, spoil := range spoiled() {
			for kept := range 7 {
				list := sixRecs()
				spoil(&list[place])
				wrongJournal(t, "a wrong one, by the old Sum", g, journalOf(kept, list))
				list[place] = summed(list[place])
				wrongJournal(t, "a wrong one", g, journalOf(kept, list))
				wrongJournal(t, "a wrong one at last", g, journalOf(min(kept, place), list[:place+1]))
				checkJournal(t, "ahead of a wrong one", g, journalOf(min(kept, place), list[:place]), true)
			}
		}
		for kept := range 7 {
			list := sixRecs()
			list[place].Sum++
			wrongJournal(t, "a Sum that is one off", g, journalOf(kept, list))
		}
	}
}

func TestJournalsInAWrongGroup(t *testing.T) {
	for _, g := range groupsThatAreWrong() {
		for _, j := range append(emptyJournals(), journalOf(6, sixRecs()), journalOf(0, sixRecs()), journalOf(2, sixRecs())) {
			wrongJournal(t, "a wrong group", g, j)
		}
	}
	// A Journal is right in one Group, and may not be in another.
	wrongJournal(t, "fewer shelves", groupOf(4, 1, 3, 1), journalOf(2, sixRecs()))
	wrongJournal(t, "fewer clients", groupOf(4, 1, 2, 2), journalOf(2, sixRecs()))
	wrongJournal(t, "more servers", groupOf(5, 1, 3, 2), journalOf(2, sixRecs()))
	checkJournal(t, "more shelves", groupOf(4, 1, 3, 4), journalOf(2, sixRecs()), true)
}

// manyRecs can be Replayed in readyGroup as far as MaxRecs; the first one behind them is wrong only in its No.
func manyRecs(count int64) []impl.Rec {
	g, list := readyGroup(), []impl.Rec{}
	for no := int64(1); no <= count; no++ {
		r := openRec(no, no%2, openOf(4+no%3, no, no))
		if no%4 == 0 {
			r = writeRec(g, no, claimOf(impl.ClReady, no%2, no, 5, no), 0, 1, 2)
		}
		list = append(list, r)
	}
	return list
}

func TestMaxRecsInAJournal(t *testing.T) {
	g, list := readyGroup(), manyRecs(402)
	for _, kept := range []int{0, 1, 200, 399, 400} {
		full := journalOf(kept, list[:400])
		checkJournal(t, "MaxRecs", g, full, true)
		for _, r := range rightRecs() {
			if got, is := noted(g, full, r); is || !sameJournal(got, full) {
				t.Errorf("one more than MaxRecs is Noted: %v", is)
			}
		}
		wrongJournal(t, "one more than MaxRecs", g, journalOf(kept, list[:401]))
		wrongJournal(t, "two more than MaxRecs", g, journalOf(kept, list[:402]))
	}
	for _, kept := range []int{0, 1, 398, 399} {
		for _, r := range rightRecs() {
			got, is := noted(g, journalOf(kept, list[:399]), r)
			if !is || len(got.Kept) != kept || len(got.Loose) != 400-kept || got.Loose[399-kept].No != 400 {
				t.Errorf("the last of MaxRecs is not Noted behind %d kept: %v", kept, is)
			}
			checkNoted(t, "the last of MaxRecs", g, journalOf(kept, list[:399]), r, true)
		}
	}
	wrongJournal(t, "MaxRecs kept, and as many loose", g, impl.Journal{Kept: list[:400], Loose: list[:400]})
	wrongJournal(t, "one more than MaxRecs kept", g, impl.Journal{Kept: list[:401]})
	wrongJournal(t, "one more than MaxRecs loose", g, impl.Journal{Loose: list[:401]})
	// The Journal is as full as before when what it has is sure.
	if got, is := noted(g, impl.Synced(g, journalOf(200, list[:400])), list[0]); is || len(got.Kept) != 400 {
		t.Error("Synced makes room")
	}
	// What is lost makes room again.
	if got, is := noted(g, impl.Crashed(g, journalOf(200, list[:400]), []bool{false, true}), list[0]); !is || got.Loose[0].No != 202 {
		t.Error("a crash makes no room")
	}
}

// manyJournals have nothing, something kept, something loose, and both.
func manyJournals() []impl.Journal {
	list := sixRecs()
	return []impl.Journal{
		{}, journalOf(1, list[:1]), journalOf(0, list[:1]), journalOf(1, list[:2]),
		journalOf(6, list), journalOf(0, list), journalOf(3, list), journalOf(5, list), journalOf(1, list),
	}
}

func TestNotedBehindAllOthers(t *testing.T) {
	g := readyGroup()
	for _, j := range manyJournals() {
		for _, r := range rightRecs() {
			checkNoted(t, "right", g, j, r, true)
			r.No = int64(len(j.Kept)+len(j.Loose)) + 1
			r = summed(r)
			got, is := noted(g, j, r)
			if !is || !sameRecs(got.Kept, j.Kept) || !sameRecs(got.Loose, append(slices.Clone(j.Loose), r)) {
				t.Errorf("%+v is Noted behind %+v: %+v and %v", r, j, got, is)
			}
			checkJournal(t, "Noted", g, got, true)
		}
	}
}

// It is not asked whether the shelf comes to be another one: what is older, or there already, is Noted too.
func TestNotedOnceMore(t *testing.T) {
	g := readyGroup()
	for _, kept := range []int{0, 3, 6} {
		j := journalOf(kept, sixRecs())
		for _, o := range openList(5, 7, 8, 5, 7, 9, 5, 6, 8, 5, 1, 0, 5, 8, 8) {
			checkNoted(t, "open once more", g, j, openRec(0, 1, o), true)
		}
		for _, stamp := range []impl.Stamp{stampOf(7, 5), stampOf(6, 5), stampOf(1, 1), stampOf(100000, 15)} {
			c := impl.Claim{Kind: impl.ClReady, Shelf: 1, Stamp: stamp, Value: 8}
			checkNoted(t, "written once more", g, j, writeRec(g, 0, c, 1, 2, 3), true)
		}
	}
}

// checkNotedChanged asks of r with one change, behind many Journals.
func checkNotedChanged(t *testing.T, why string, r impl.Rec, want bool, change func(r *impl.Rec)) {
	t.Helper()
	change(&r)
	for _, j := range manyJournals() {
		checkNoted(t, why, readyGroup(), j, r, want)
		if got, is := noted(readyGroup(), j, r); is != want || !want && !sameJournal(got, j) {
			t.Errorf("%s: %+v is Noted behind %+v: %+v and %v", why, r, j, got, is)
		}
	}
}

func TestFieldsOfWhatIsNoted(t *testing.T) {
	for _, r := range rightRecs() {
		open := r.Kind == impl.RcOpen
		for _, n := range []int64{math.MinInt64, -1, 0, 1, 2, 3, math.MaxInt64} {
			checkNotedChanged(t, "a Kind", r, n == r.Kind, func(r *impl.Rec) { r.Kind = n })
			// A write is sealed for its own shelf.
			checkNotedChanged(t, "a Shelf", r, n == r.Shelf || open && (n == 0 || n == 1), func(r *impl.Rec) { r.Shelf = n })
		}
		for _, n := range []int64{math.MinInt64, -1, 0, 3, 4, 5, 6, 7, 15, 16, math.MaxInt64} {
			own := open && n == r.Client
			checkNotedChanged(t, "a Client", r, own || !open && n == 0, func(r *impl.Rec) { r.Client = n })
			checkNotedChanged(t, "a Stamp's Client", r, own || !open && n == r.Stamp.Client, func(r *impl.Rec) { r.Stamp.Client = n })
			checkNotedChanged(t, "both Clients", r, open && n >= 4 && n <= 6 || !open && n == 0 && r.Stamp.Client == 0, func(r *impl.Rec) { r.Client, r.Stamp.Client = n, n })
		}
		for _, n := range []int64{math.MinInt64, -1, 0, 1, 2, 99999, 100000, 100001, math.MaxInt64} {
			checkNotedChanged(t, "a Count", r, n == r.Stamp.Count || open && n >= 1 && n <= 100000, func(r *impl.Rec) { r.Stamp.Count = n })
		}
		for _, n := range []int64{math.MinInt64, -1, 0, 1, 9998, 9999, 10000, math.MaxInt64} {
			checkNotedChanged(t, "a Value", r, n == r.Value || open && n >= 0 && n <= 9999, func(r *impl.Rec) { r.Value = n })
		}
		checkNotedChanged(t, "the zero Stamp", r, false, func(r *impl.Rec) { r.Stamp = impl.Stamp{} })
	}
	checkNotedChanged(t, "nothing", impl.Rec{}, false, func(r *impl.Rec) {})
	checkNotedChanged(t, "what nobody wrote", impl.Rec{Kind: impl.RcWrite}, false, func(r *impl.Rec) {})
}

func TestCertsOfWhatIsNoted(t *testing.T) {
	g := readyGroup()
	for _, r := range rightRecs() {
		write := r.Kind == impl.RcWrite
		c := impl.Claim{Kind: impl.ClReady, Shelf: r.Shelf, Stamp: r.Stamp, Value: r.Value}
		wrote := c
		wrote.Kind = impl.ClWrote
		rows := []struct {
			why  string
			cert []impl.Seal
			want bool
		}{
			{"no Seals", []impl.Seal{}, !write},
			{"room for Seals", make([]impl.Seal, 0, 9), !write},
			{"Seals in the room behind", sealsOf(g, c, 0, 1, 2)[:0], !write},
			{"as many as are needed", sealsOf(g, c, 0, 2, 3), write},
			{"of all", sealsOf(g, c, 0, 1, 2, 3), write},
			{"too few", sealsOf(g, c, 0, 3), false},
			{"one", sealsOf(g, c, 2), false},
			{"not rising", sealsOf(g, c, 2, 0, 3), false},
			{"one twice", sealsOf(g, c, 0, 0, 2, 3), false},
			{"the zero Seal too", append(sealsOf(g, c, 0, 1, 2, 3), impl.Seal{}), false},
			{"a wrong one too", append(sealsOf(g, c, 0, 1, 2), sealOf(3, 7)), false},
			{"for what was written", sealsOf(g, wrote, 0, 1, 2), false},
			{"as many as MaxSeals", make([]impl.Seal, 20), false},
			{"more than MaxSeals", make([]impl.Seal, 21), false},
		}
		for _, row := range rows {
			checkNotedChanged(t, row.why, r, row.want, func(r *impl.Rec) { r.Cert = row.cert })
		}
	}
}

func TestManyNoted(t *testing.T) {
	g, seen := noteGroup(), map[bool]int{}
	journals := []impl.Journal{{}, journalOf(1, numbered(onShelf(1, 4, 1, 1, 5, 2, 2)...))}
	for kind := int64(0); kind <= 3; kind++ {
		for shelf := int64(-1); shelf <= 2; shelf++ {
			for _, client := range []int64{-1, 0, 3, 4, 5, 6} {
				for _, stamp := range []impl.Stamp{{}, stampOf(0, 4), stampOf(1, 4), stampOf(2, 5), stampOf(100001, 4)} {
					for _, value := range []int64{-1, 0, 9999, 10000} {
						for _, servers := range [][]int64{nil, {0, 2}, {0, 1, 3}, {0, 1, 2, 3}, {3, 1, 0}} {
							r := writeRec(g, 1, impl.Claim{Kind: impl.ClReady, Shelf: shelf, Stamp: stamp, Value: value}, servers...)
							r.Kind, r.Client = kind, client
							want := wantRecOk(g, summed(r))
							for _, j := range journals {
								checkNoted(t, "many", g, j, r, want)
							}
							seen[want]++
						}
					}
				}
			}
		}
	}
	if seen[true] != 2*2*2*(1+2) {
		t.Errorf("so many are Noted, and not: %v", seen)
	}
}

func TestSynced(t *testing.T) {
	g, list := readyGroup(), sixRecs()
	for count := range 7 {
		for kept := range count + 1 {
			j := journalOf(kept, list[:count])
			got := impl.Synced(g, j)
			if !sameRecs(got.Kept, list[:count]) || len(got.Loose) > 0 || !impl.JournalOk(g, got) {
				t.Errorf("%d kept and %d loose are Synced to %+v", kept, count-kept, got)
			}
			if again := impl.Synced(g, got); !sameJournal(again, got) {
				t.Errorf("Synced once more, it is %+v", again)
			}
			if count > 0 {
				j.Loose = append(j.Loose, list[count-1])
				wrongJournal(t, "the last one twice", g, j)
			}
		}
	}
}

// lostOf has true at those places of so many.
func lostOf(count int, places ...int) []bool {
	lost := make([]bool, count)
	for _, place := range places {
		lost[place] = true
	}
	return lost
}

func TestCrashedInEachWay(t *testing.T) {
	rows := []struct {
		why  string
		lost []bool
		left int
	}{
		{"nil", nil, 4},
		{"empty", []bool{}, 4},
		{"none", lostOf(4), 4},
		{"none, shorter", lostOf(2), 4},
		{"none, longer", lostOf(7), 4},
		{"the first", lostOf(4, 0), 0},
		{"the first alone has a place", lostOf(1, 0), 0},
		{"the second", lostOf(4, 1), 1},
		{"the second, no place behind it", lostOf(2, 1), 1},
		{"one in the middle", lostOf(4, 2), 2},
		{"the last", lostOf(4, 3), 3},
		{"the last, longer", lostOf(7, 3), 3},
		{"all", lostOf(4, 0, 1, 2, 3), 0},
		{"all that have a place", lostOf(2, 0, 1), 0},
		{"the first and the last", lostOf(4, 0, 3), 0},
		{"two in the middle", lostOf(4, 1, 2), 1},
		{"the second and the last", lostOf(4, 1, 3), 1},
		{"one that is not there, the next one", lostOf(5, 4), 4},
		{"one that is not there, far behind", lostOf(300, 299), 4},
		{"the last and one that is not there", lostOf(6, 3, 5), 3},
		{"all and some that are not there", lostOf(6, 0, 1, 2, 3, 4, 5), 0},
		{"spare room behind", lostOf(6, 2, 3, 4, 5)[:2], 4},
	}
	g, list := readyGroup(), manyRecs(8)
	for _, row := range rows {
		for kept := range 5 {
			j := journalOf(kept, list[:kept+4])
			got := impl.Crashed(g, j, row.lost)
			if !sameRecs(got.Kept, list[:kept+row.left]) || len(got.Loose) > 0 {
				t.Errorf("%s: %d kept and 4 loose are Crashed to %+v", row.why, kept, got)
			}
			checkCrashed(t, row.why, g, j, row.lost)
			j.Loose = withNos(j.Loose, int64(kept)+2)
			if got := impl.Crashed(g, j, row.lost); len(got.Kept) > 0 || len(got.Loose) > 0 {
				t.Errorf("%s: what is not right is Crashed to %+v", row.why, got)
			}
		}
	}
}

// manyLost are all lists of no more than so many flags.
func manyLost(count int) [][]bool {
	list := [][]bool{nil}
	for i := 0; len(list[i]) < count; i++ {
		for _, flag := range []bool{false, true} {
			list = append(list, append(slices.Clone(list[i]), flag))
		}
	}
	return list
}

// A crash loses no record that was kept; what it leaves is a beginning of what was there, and can be gone on with.
func TestACrashLosesNothingThatWasKept(t *testing.T) {
	g, list, ways := readyGroup(), sixRecs(), map[int]int{}
	next := openRec(0, 1, openOf(4, 9, 9))
	for kept := range 7 {
		for _, lost := range manyLost(7) {
			j := journalOf(kept, list)
			got := impl.Crashed(g, j, lost)
			checkCrashed(t, "many", g, j, lost)
			count := len(got.Kept)
			if count < kept || !sameRecs(got.Kept, list[:count]) || len(got.Loose) > 0 || !impl.JournalOk(g, got) {
				t.Fatalf("%d kept and %d loose are Crashed by %v to %+v", kept, 6-kept, lost, got)
			}
			// It loses nothing more a second time.
			if again := impl.Crashed(g, got, slices.Repeat([]bool{true}, 9)); !sameJournal(again, got) {
				t.Fatalf("crashed once more, %+v is %+v", got, again)
			}
			if more, is := noted(g, got, next); !is || more.Loose[0].No != int64(count)+1 {
				t.Fatalf("behind %+v nothing can be Noted", got)
			}
			regs, is := impl.Replayed(g, got.Kept)
			if want, _ := wantReplayed(g, list[:count]); !is || !sameRegs(regs, want) {
				t.Fatalf("what is left is Replayed to %+v, not %+v", regs, want)
			}
			ways[count-kept]++
		}
	}
	if len(ways) != 7 || ways[0] == 0 || ways[6] == 0 {
		t.Errorf("so often so many of Loose were left: %v", ways)
	}
}

// forget leaves what was done by the first so many records.
func (d *done) forget(count int) {
	d.list = d.list[:count]
	d.regs, _ = wantReplayed(d.g, d.list)
}

// Whatever is Noted, Synced and Crashed, in whatever order, what is kept stays, and at each moment all is Replayed to what was done.
func TestJournalsOverLongTimes(t *testing.T) {
	g := readyGroup()
	for step := int64(1); step < 31; step++ {
		d, j, kept := done{g: g, regs: make([]impl.Reg, g.Shelves)}, impl.Journal{}, 0
		for i := range int64(60) {
			at := (i + 1) * step % 31
			switch {
			case at%7 == 3:
				j, kept = impl.Synced(g, j), len(d.list)
			case at%7 == 5:
				j = impl.Crashed(g, j, lostOf(int(at), int(at/2)))
				d.forget(min(kept+int(at/2), len(d.list)))
				kept = len(d.list)
			case at%3 == 0:
				d.open(at%2, openOf(4+at/3%3, at/5+1, at))
				j, _ = noted(g, j, d.list[len(d.list)-1])
			default:
				c := claimOf(impl.ClReady, at%2, at/4+1, 4, at)
				d.write(c, sealsOf(g, c, 3, 0, 1, 0))
				j, _ = noted(g, j, d.list[len(d.list)-1])
			}
			if !impl.JournalOk(g, j) || !sameRecs(allOf(j), d.list) || len(j.Kept) != kept {
				t.Fatalf("%+v has not %+v, of which %d are kept", j, d.list, kept)
			}
			if regs, is := impl.Replayed(g, allOf(j)); !is || !sameRegs(regs, d.regs) {
				t.Fatalf("%+v is Replayed to %+v, not %+v", j, regs, d.regs)
			}
		}
	}
}

// recsCopy shares neither the list nor a Cert.
func recsCopy(list []impl.Rec) []impl.Rec {
	list = slices.Clone(list)
	for i, r := range list {
		list[i].Cert = slices.Clone(r.Cert)
	}
	return list
}

func journalCopy(j impl.Journal) impl.Journal {
	return impl.Journal{Kept: recsCopy(j.Kept), Loose: recsCopy(j.Loose)}
}

// recRooms has, beside the list, what stands in the room behind it, and, in another copy, behind each Cert.
func recRooms(list []impl.Rec) []impl.Rec {
	list = list[:cap(list)]
	rooms := recsCopy(list)
	for _, r := range list {
		r.Cert = roomOf(r.Cert)
		rooms = append(rooms, r)
	}
	return rooms
}

// roomyJournals have spare room behind all their lists; Kept and Loose stand apart, or side by side in one memory.
func roomyJournals() []impl.Journal {
	var list []impl.Journal
	for count := range 7 {
		for kept := range count + 1 {
			one, two := roomyRecs(8), slices.Concat(roomyRecs(count)[kept:], roomyRecs(kept), roomyRecs(8)[6:])
			list = append(list,
				impl.Journal{Kept: roomyRecs(8)[:kept], Loose: roomyRecs(8)[kept:count]},
				impl.Journal{Kept: one[:kept], Loose: one[kept:count]},
				impl.Journal{Loose: two[:count-kept], Kept: two[count-kept : count]})
		}
	}
	return list
}

// journalStays fails if use writes into j, or into the room behind it.
func journalStays(t *testing.T, j impl.Journal, use func()) {
	t.Helper()
	was, kept, loose := journalCopy(j), recRooms(j.Kept), recRooms(j.Loose)
	use()
	if !sameJournal(j, was) || !sameRecs(recRooms(j.Kept), kept) || !sameRecs(recRooms(j.Loose), loose) {
		t.Errorf("%+v was written into: it was %+v", j, was)
	}
}

// sealedNext can be Noted in readyGroup by the Seals of those servers.
func sealedNext() impl.Claim { return claimOf(impl.ClReady, 1, 9, 5, 8) }

// journalAnswers hands to use each way in which a Journal is answered of j.
func journalAnswers(g impl.Group, use func(why string, answer func(j impl.Journal, cert []impl.Seal, lost []bool) impl.Journal)) {
	c := sealedNext()
	for _, client := range []int64{0, 4} {
		use("Noted as written", func(j impl.Journal, cert []impl.Seal, lost []bool) impl.Journal {
			got, _ := impl.Noted(g, j, impl.RcWrite, c.Shelf, client, c.Stamp, c.Value, cert)
			return got
		})
	}
	for _, count := range []int64{9, 0} {
		use("Noted as open", func(j impl.Journal, cert []impl.Seal, lost []bool) impl.Journal {
			got, _ := impl.Noted(g, j, impl.RcOpen, c.Shelf, 5, stampOf(count, 5), c.Value, cert[:0])
			return got
		})
	}
	use("Synced", func(j impl.Journal, cert []impl.Seal, lost []bool) impl.Journal { return impl.Synced(g, j) })
	use("Crashed", func(j impl.Journal, cert []impl.Seal, lost []bool) impl.Journal { return impl.Crashed(g, j, lost) })
	use("Crashed without a loss", func(j impl.Journal, cert []impl.Seal, lost []bool) impl.Journal { return impl.Crashed(g, j, nil) })
}

func TestJournalArgumentsStay(t *testing.T) {
	roomy := readyGroup()
	roomy.Keys = append(roomy.Keys, 98, 99)[:len(roomy.Keys)]
	keys, cert := roomOf(roomy.Keys), sealsOf(roomy, sealedNext(), 0, 1, 3, 2)
	for _, j := range roomyJournals() {
		journalStays(t, j, func() {
			use := func(g impl.Group) {
				impl.JournalOk(g, j)
				journalAnswers(g, func(why string, answer func(j impl.Journal, cert []impl.Seal, lost []bool) impl.Journal) {
					answer(j, cert[:3], nil)
				})
			}
			keysStay(t, use)
			use(roomy)
			journalAnswers(roomy, func(why string, answer func(j impl.Journal, cert []impl.Seal, lost []bool) impl.Journal) {
				listStays(t, slices.Clone(cert), func(cert []impl.Seal) { answer(j, cert, nil) })
				listStays(t, []bool{false, false, true, false, true, true, false}, func(lost []bool) { answer(j, cert, lost) })
			})
		})
	}
	if !slices.Equal(roomOf(roomy.Keys), keys) {
		t.Error("the keys or the room behind them were written into")
	}
}

// spoilJournal writes into one list of j: Kept, Loose, or one of their Certs.
func spoilJournal(j impl.Journal, place int) {
	switch place {
	case 0:
		fillRoom(j.Kept, impl.Rec{No: -77})
	case 1:
		fillRoom(j.Loose, impl.Rec{No: -77})
	default:
		scribble(allOf(j)[place-2].Cert)
	}
}

func listsOf(j impl.Journal) int { return 2 + len(j.Kept) + len(j.Loose) }

// journalIsNew fails if two answers share memory, or two lists of one do.
func journalIsNew(t *testing.T, why string, answer func() impl.Journal) {
	t.Helper()
	first := answer()
	want := journalCopy(first)
	for place := range listsOf(want) {
		got := answer()
		apart := journalCopy(got)
		spoilJournal(got, place)
		spoilJournal(apart, place)
		if !sameJournal(got, apart) {
			t.Errorf("%s: the list %d of %+v has some of the memory of another one", why, place, want)
		}
	}
	if !sameJournal(first, want) || !sameJournal(answer(), want) {
		t.Errorf("%s: %+v has some of the memory of another answer, or of an argument", why, want)
	}
}

func TestJournalAnswersAreNewMemory(t *testing.T) {
	g, seen := readyGroup(), map[bool]int{}
	room := append(sealsOf(g, sealedNext(), 0, 1, 3), sealList(1, 7)...)
	journalAnswers(g, func(why string, answer func(j impl.Journal, cert []impl.Seal, lost []bool) impl.Journal) {
		for _, j := range roomyJournals() {
			lost, cert, before := []bool{false, false, true}, room[:3], slices.Clone(room)
			journalStays(t, j, func() {
				journalIsNew(t, why, func() impl.Journal { return answer(j, cert, lost) })
			})
			if !slices.Equal(room, before) {
				t.Fatalf("%s: an answer has some of the memory of the Seals", why)
			}
			kept := answer(j, slices.Clone(cert), lost)
			seen[len(kept.Kept)+len(kept.Loose) > 0]++
			journalDoesNotFollow(t, why, j, slices.Clone(cert), lost, answer)
		}
	})
	if seen[true] < 100 || seen[false] == 0 {
		t.Errorf("so often there was something in an answer, and not: %v", seen)
	}
}

// journalDoesNotFollow fails if an answer changes when the arguments do.
func journalDoesNotFollow(t *testing.T, why string, j impl.Journal, cert []impl.Seal, lost []bool, answer func(j impl.Journal, cert []impl.Seal, lost []bool) impl.Journal) {
	t.Helper()
	kept := answer(j, cert, lost)
	want := journalCopy(kept)
	for place := listsOf(j) - 1; place >= 0; place-- {
		spoilJournal(j, place)
	}
	scribble(cert)
	fillRoom(lost, true)
	if !sameJournal(kept, want) {
		t.Errorf("%s: an answer changes with an argument: %+v was %+v", why, kept, want)
	}
}
