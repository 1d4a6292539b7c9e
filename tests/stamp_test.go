package tests

import (
	"math"
	"slices"
	"testing"

	"loop.example/g00695/impl"
)

func stampOf(count, client int64) impl.Stamp {
	return impl.Stamp{Count: count, Client: client}
}

// stampNumbers are those about every limit of a Count or a Client, and the ends of int64.
func stampNumbers() []int64 {
	return []int64{
		math.MinInt64, math.MinInt64 + 1, -100000, -16, -1, 0, 1, 2, 5, 9, 10, 14, 15, 16, 17,
		99998, 99999, 100000, 100001, math.MaxInt64 - 1, math.MaxInt64,
	}
}

func manyStamps() []impl.Stamp {
	var list []impl.Stamp
	for _, count := range stampNumbers() {
		for _, client := range stampNumbers() {
			list = append(list, stampOf(count, client))
		}
	}
	return list
}

func wantStampOk(s impl.Stamp) bool {
	if s.Count < 0 || s.Count > 100000 || s.Client < 0 || s.Client > 15 {
		return false
	}
	return s.Count > 0 || s.Client == 0
}

func wantCmpStamp(a, b impl.Stamp) int64 {
	switch {
	case !wantStampOk(a) || !wantStampOk(b):
		return 2
	case a.Count < b.Count || a.Count == b.Count && a.Client < b.Client:
		return -1
	case a == b:
		return 0
	}
	return 1
}

func TestLimitOfStamps(t *testing.T) {
	if impl.MaxCount != 100000 {
		t.Error("MaxCount is not the document's")
	}
}

func TestRightStamps(t *testing.T) {
	right := []impl.Stamp{{}, stampOf(1, 0), stampOf(1, 15), stampOf(7, 4), stampOf(99999, 3), stampOf(100000, 0), stampOf(100000, 15)}
	for _, s := range right {
		if !impl.StampOk(s) {
			t.Errorf("not StampOk: %v", s)
		}
	}
}

func TestWrongStamps(t *testing.T) {
	wrong := []impl.Stamp{
		stampOf(0, 1), stampOf(0, 15), stampOf(0, 16), stampOf(0, -1), stampOf(0, math.MinInt64), stampOf(0, math.MaxInt64),
		stampOf(-1, 0), stampOf(-1, 3), stampOf(100001, 0), stampOf(100001, 3), stampOf(1, -1), stampOf(1, 16), stampOf(100000, 16),
		stampOf(math.MinInt64, 0), stampOf(math.MaxInt64, 0), stampOf(1, math.MinInt64), stampOf(1, math.MaxInt64),
	}
	for _, s := range wrong {
		if impl.StampOk(s) {
			t.Errorf("StampOk: %v", s)
		}
	}
}

func TestStampsAboutEveryLimit(t *testing.T) {
	for _, s := range manyStamps() {
		if impl.StampOk(s) != wantStampOk(s) {
			t.Errorf("StampOk of %v is not %v", s, wantStampOk(s))
		}
	}
}

func TestWhichStampIsNewer(t *testing.T) {
	rows := []struct {
		a, b impl.Stamp
		want int64
	}{
		{impl.Stamp{}, impl.Stamp{}, 0},
		{stampOf(3, 4), stampOf(3, 4), 0},
		{stampOf(2, 4), stampOf(3, 4), -1},
		{stampOf(3, 4), stampOf(2, 4), 1},
		{stampOf(2, 5), stampOf(3, 4), -1},
		{stampOf(3, 4), stampOf(2, 5), 1},
		{stampOf(3, 4), stampOf(3, 5), -1},
		{stampOf(3, 5), stampOf(3, 4), 1},
		{impl.Stamp{}, stampOf(1, 0), -1},
		{stampOf(1, 0), impl.Stamp{}, 1},
		{stampOf(9, 15), stampOf(100000, 0), -1},
		{stampOf(100000, 15), stampOf(100000, 0), 1},
	}
	for _, row := range rows {
		if got := impl.CmpStamp(row.a, row.b); got != row.want {
			t.Errorf("CmpStamp of %v and %v is %d, not %d", row.a, row.b, got, row.want)
		}
	}
}

func TestWrongStampsAreNotCompared(t *testing.T) {
	right := stampOf(3, 4)
	for _, wrong := range []impl.Stamp{stampOf(0, 1), stampOf(-1, 0), stampOf(100001, 4), stampOf(3, -1), stampOf(3, 16)} {
		if impl.CmpStamp(wrong, right) != 2 || impl.CmpStamp(right, wrong) != 2 || impl.CmpStamp(wrong, wrong) != 2 {
			t.Errorf("%v is compared", wrong)
		}
	}
}

func TestAnyTwoStamps(t *testing.T) {
	list := manyStamps()
	for _, a := range list {
		for _, b := range list {
			if got := impl.CmpStamp(a, b); got != wantCmpStamp(a, b) {
				t.Fatalf("CmpStamp of %v and %v is %d, not %d", a, b, got, wantCmpStamp(a, b))
			}
		}
	}
}

// checkNext fails unless NextStamp is as the document tells, and newer where it is true.
func checkNext(t *testing.T, s impl.Stamp, client int64) {
	t.Helper()
	want := wantStampOk(s) && s.Count < 100000 && client >= 0 && client <= 15
	next, is := impl.NextStamp(s, client)
	if is != want {
		t.Fatalf("NextStamp of %v by %d: %v", s, client, is)
	}
	if !is && next != (impl.Stamp{}) {
		t.Fatalf("NextStamp of %v by %d is none, beside it stands %v", s, client, next)
	}
	if is && (next != stampOf(s.Count+1, client) || !impl.StampOk(next)) {
		t.Fatalf("NextStamp of %v by %d is %v", s, client, next)
	}
	if is && (impl.CmpStamp(next, s) != 1 || impl.CmpStamp(s, next) != -1) {
		t.Fatalf("NextStamp of %v by %d is %v, which is not newer", s, client, next)
	}
}

func TestNextStampIsNewerByWhomever(t *testing.T) {
	for _, s := range manyStamps() {
		for _, client := range stampNumbers() {
			checkNext(t, s, client)
		}
	}
	for count := int64(1); count <= impl.MaxCount; count += 997 {
		for last := range int64(16) {
			for client := range int64(16) {
				checkNext(t, stampOf(count, last), client)
			}
		}
	}
}

func TestNextStamps(t *testing.T) {
	rows := []struct {
		s      impl.Stamp
		client int64
		next   impl.Stamp
		is     bool
	}{
		{impl.Stamp{}, 0, stampOf(1, 0), true},
		{impl.Stamp{}, 4, stampOf(1, 4), true},
		{impl.Stamp{}, 15, stampOf(1, 15), true},
		{stampOf(2, 5), 4, stampOf(3, 4), true},
		{stampOf(2, 5), 5, stampOf(3, 5), true},
		{stampOf(99999, 15), 0, stampOf(100000, 0), true},
		{stampOf(100000, 0), 15, impl.Stamp{}, false},
		{stampOf(2, 5), 16, impl.Stamp{}, false},
		{stampOf(2, 5), -1, impl.Stamp{}, false},
		{stampOf(2, 5), math.MinInt64, impl.Stamp{}, false},
		{stampOf(2, 5), math.MaxInt64, impl.Stamp{}, false},
		{impl.Stamp{}, 16, impl.Stamp{}, false},
		{impl.Stamp{}, -1, impl.Stamp{}, false},
		{stampOf(0, 5), 4, impl.Stamp{}, false},
		{stampOf(-1, 0), 0, impl.Stamp{}, false},
		{stampOf(-1, 0), 4, impl.Stamp{}, false},
		{stampOf(2, 16), 4, impl.Stamp{}, false},
		{stampOf(2, -1), 4, impl.Stamp{}, false},
		{stampOf(100001, 4), 4, impl.Stamp{}, false},
		{stampOf(math.MaxInt64, 4), 4, impl.Stamp{}, false},
		{stampOf(math.MinInt64, 4), 4, impl.Stamp{}, false},
	}
	for _, row := range rows {
		next, is := impl.NextStamp(row.s, row.client)
		if next != row.next || is != row.is {
			t.Errorf("NextStamp of %v by %d is %v, %v", row.s, row.client, next, is)
		}
	}
}

func TestNewestOfNone(t *testing.T) {
	lists := [][]impl.Stamp{nil, {}, {{}}, {{}, {}}, {stampOf(0, 1)}, {stampOf(-1, 3), stampOf(100001, 4), stampOf(2, 16), stampOf(2, -1)}}
	for _, list := range lists {
		if got := impl.NewestOf(list); got != (impl.Stamp{}) {
			t.Errorf("NewestOf %v is %v", list, got)
		}
	}
}

func TestNewestOfOne(t *testing.T) {
	for _, s := range manyStamps() {
		want := s
		if !wantStampOk(s) {
			want = impl.Stamp{}
		}
		if got := impl.NewestOf([]impl.Stamp{s}); got != want {
			t.Errorf("NewestOf %v alone is %v", s, got)
		}
	}
}

func TestNewestStampAtEveryPlace(t *testing.T) {
	newest := stampOf(7, 5)
	others := []impl.Stamp{{}, stampOf(6, 15), stampOf(7, 4), stampOf(1, 0), stampOf(6, 15)}
	// Those that are not StampOk would be newer.
	wrong := []impl.Stamp{stampOf(8, 16), stampOf(100001, 5), stampOf(7, 16), stampOf(9, -1), stampOf(math.MaxInt64, math.MaxInt64)}
	for _, rest := range [][]impl.Stamp{others, wrong, slices.Concat(others, wrong), slices.Concat(wrong, others)} {
		for place := range len(rest) + 1 {
			list := slices.Insert(slices.Clone(rest), place, newest)
			if got := impl.NewestOf(list); got != newest {
				t.Errorf("NewestOf %v is %v", list, got)
			}
			twice := append(list, newest)
			if got := impl.NewestOf(twice); got != newest {
				t.Errorf("NewestOf %v is %v", twice, got)
			}
		}
	}
}

func TestNewestOfLists(t *testing.T) {
	all := manyStamps()
	for size := 2; size <= 9; size++ {
		for start := range all {
			var list []impl.Stamp
			for i := range size {
				list = append(list, all[(start+i*i*37)%len(all)])
			}
			checkNewest(t, list)
		}
	}
	checkNewest(t, all)
}

// checkNewest fails unless the newest one is of the list, or zero where none is right, and none that is right is newer.
func checkNewest(t *testing.T, list []impl.Stamp) {
	t.Helper()
	got := impl.NewestOf(list)
	if !wantStampOk(got) || got != (impl.Stamp{}) && !slices.Contains(list, got) {
		t.Fatalf("NewestOf %v is %v", list, got)
	}
	for _, s := range list {
		if wantStampOk(s) && wantCmpStamp(s, got) == 1 {
			t.Fatalf("NewestOf %v is %v, but %v is newer", list, got, s)
		}
	}
}

func TestStampListStays(t *testing.T) {
	room := []impl.Stamp{stampOf(2, 5), stampOf(9, 16), {}, stampOf(3, 4), stampOf(0, 1), stampOf(3, 5), stampOf(1, 1), stampOf(8, 8)}
	before := slices.Clone(room)
	want := []impl.Stamp{{}, stampOf(2, 5), stampOf(2, 5), stampOf(2, 5), stampOf(3, 4), stampOf(3, 4), stampOf(3, 5), stampOf(3, 5), stampOf(8, 8)}
	for count := range len(room) + 1 {
		if got := impl.NewestOf(room[:count]); got != want[count] {
			t.Errorf("NewestOf the first %d is %v, not %v", count, got, want[count])
		}
	}
	if !slices.Equal(room, before) {
		t.Error("the list or the room behind it was written into")
	}
}
