package wal_test

import (
	"fmt"
	"math"
	"slices"
	"testing"

	"casebook/disk"
	"casebook/wal"
)

// numbers answers a call that answers numbers from 0 to below n, the same ones in each run.
func numbers() func(n int) int {
	state := uint64(1)
	return func(n int) int {
		state = state*6364136223846793005 + 1442695040888963407
		return int((state >> 33) % uint64(n))
	}
}

// model is a disk's records told otherwise: those that are synced, and those that are not.
type model struct{ synced, loose []string }

func (m model) all() []string { return slices.Concat(m.synced, m.loose) }

// behind answers the records that a start tells behind a crash that keeps so many bytes: of those that are not synced the first ones whose frames are whole.
func (m model) behind(keep int) []string {
	left := slices.Clone(m.synced)
	keep = max(keep, 0) // ahead of what is taken off: less than the least number would wrap round
	for _, record := range m.loose {
		if keep -= head + len(record); keep < 0 {
			break
		}
		left = append(left, record)
	}
	return left
}

// looseBytes answers how many bytes are not synced.
func (m model) looseBytes() int { return len(allFramed(m.loose...)) }

// step does the same to a disk and to its model.
type step struct {
	name string
	do   func(t *testing.T, d *disk.Disk, m *model)
}

func puts(record string) step {
	return step{fmt.Sprintf("Put(%.20q)", record), func(t *testing.T, d *disk.Disk, m *model) {
		t.Helper()
		mustPut(t, d, record)
		m.loose = append(slices.Clone(m.loose), record)
	}}
}

func refused(record string) step {
	return step{fmt.Sprintf("Put of %d", len(record)), func(t *testing.T, d *disk.Disk, m *model) {
		t.Helper()
		if wal.Put(d, []byte(record)) == 0 {
			t.Errorf("Put of %d bytes is done", len(record))
		}
	}}
}

func syncs() step {
	return step{"Sync", func(t *testing.T, d *disk.Disk, m *model) {
		d.Sync()
		*m = model{synced: m.all()}
	}}
}

func opens() step {
	return step{"Open", func(t *testing.T, d *disk.Disk, m *model) {
		t.Helper()
		*m = model{synced: m.all()}
		wantOpen(t, "Open", d, m.synced...)
	}}
}

// restarts is a crash, and the start behind it.
func restarts(keep int) step {
	return step{fmt.Sprintf("Crash(%d), Open", keep), func(t *testing.T, d *disk.Disk, m *model) {
		t.Helper()
		d.Crash(keep)
		*m = model{synced: m.behind(keep)}
		wantOpen(t, fmt.Sprintf("Crash(%d), Open", keep), d, m.synced...)
	}}
}

// wantModel fails unless a disk has what its model has.
func wantModel(t *testing.T, what string, d *disk.Disk, m model) {
	t.Helper()
	wantDisk(t, what, d, allFramed(m.all()...), len(allFramed(m.synced...)))
	records, place := wal.Read(d.Bytes())
	wantRecords(t, what, records, m.all()...)
	if place != d.Len() {
		t.Errorf("%s: place %d of %d", what, place, d.Len())
	}
}

// wantBehindAnyCrash fails unless each crash leaves all records that were synced, and a beginning of those that were not.
func wantBehindAnyCrash(t *testing.T, what string, d *disk.Disk, m model) {
	t.Helper()
	for keep := -1; keep <= m.looseBytes()+1; keep++ {
		next := d.Copy()
		next.Crash(keep)
		wantOpen(t, fmt.Sprintf("%s, Crash(%d)", what, keep), next, m.behind(keep)...)
	}
}

// 8.3 and 8.4, behind each script of few steps.
func TestRecordsAreAsTheModelBehindEachShortScript(t *testing.T) {
	steps := []step{puts("a"), puts("bcd"), puts("\x00"), refused(""), syncs(), opens(), restarts(-1), restarts(7), restarts(10), restarts(99)}
	var try func(d *disk.Disk, m model, done string, left int)
	try = func(d *disk.Disk, m model, done string, left int) {
		wantModel(t, done, d, m)
		if t.Failed() {
			t.FailNow()
		}
		if left == 0 {
			wantBehindAnyCrash(t, done, d, m)
			return
		}
		for _, s := range steps {
			next, then := d.Copy(), m
			s.do(t, next, &then)
			try(next, then, done+s.name+"; ", left-1)
		}
	}
	for n := range 5 {
		try(disk.New(), model{}, "", n)
	}
}

// anyStep answers a step of a long script, in which more records come than go.
func anyStep(next func(n int) int, m *model) step {
	switch next(16) {
	case 0:
		return restarts(next(m.looseBytes()+6) - 3)
	case 1:
		return restarts([]int{math.MinInt, -1, 0, math.MaxInt - 1, math.MaxInt}[next(5)])
	case 2:
		return opens()
	case 3, 4:
		return syncs()
	case 5:
		return refused(long(4097 * next(2)))
	case 6:
		return puts(long(1 + next(700)))
	}
	record := make([]byte, 1+next(9))
	for i := range record {
		record[i] = byte(next(3) * next(256))
	}
	return puts(string(record))
}

// 8.3 and 8.4, behind each step of long scripts.
func TestRecordsAreAsTheModel(t *testing.T) {
	next := numbers()
	for script := range 20 {
		d, m := disk.New(), model{}
		for i := range 150 {
			s := anyStep(next, &m)
			s.do(t, d, &m)
			what := fmt.Sprintf("script %d, step %d, %s", script, i, s.name)
			wantModel(t, what, d, m)
			if m.looseBytes() < 60 {
				wantBehindAnyCrash(t, what, d, m)
			}
			if t.Failed() {
				t.FailNow()
			}
		}
		if len(m.all()) < 40 {
			t.Errorf("script %d: only %d records are left", script, len(m.all()))
		}
	}
}

// 8.4, in the words of the promise: what was synced is there, and of what was not a beginning.
func TestBehindACrashThereIsWhatWasSynced(t *testing.T) {
	synced, loose := []string{"one", "two", "three"}, []string{"four", "five", long(400), "six"}
	all := slices.Concat(synced, loose)
	d := disk.New()
	for i, record := range all {
		if i == len(synced) {
			d.Sync()
		}
		mustPut(t, d, record)
	}
	lengths := map[int]int{}
	for keep := range d.Len() - d.Synced() + 1 {
		next := d.Copy()
		next.Crash(keep)
		got := texts(wal.Open(next))
		if len(got) < len(synced) || !slices.Equal(got, all[:len(got)]) {
			t.Fatalf("Crash(%d): %s", keep, shortList(got))
		}
		lengths[len(got)]++
	}
	if len(lengths) != len(loose)+1 || lengths[len(all)] != 1 || lengths[len(synced)] != head+len("four") {
		t.Errorf("so often so many: %v", lengths)
	}
}

// T3, as far as records go: what is told when it is synced stays, in its order, behind any crashes and starts.
func TestWhatWasToldStaysBehindAnyCrashes(t *testing.T) {
	next := numbers()
	d, told := disk.New(), []string{}
	half := 0
	for i := range 1500 {
		record := fmt.Sprint("record ", i)
		mustPut(t, d, record)
		if next(3) > 0 {
			d.Sync()
			told = append(told, record)
			continue
		}
		d.Crash(next(head+len(record)+3) - 1)
		before := d.Len()
		l := texts(wal.Open(d))
		if d.Len() < before {
			half++
		}
		if !slices.Equal(l, told) {
			told = append(told, record)
		}
		if !slices.Equal(l, told) {
			t.Fatalf("behind %d: %d records; not %d", i, len(l), len(told))
		}
	}
	wantOpen(t, "at the end", d, told...)
	if len(told) < 800 || half < 100 {
		t.Errorf("%d were told, %d were half written", len(told), half)
	}
}
