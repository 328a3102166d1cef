package disk_test

import (
	"fmt"
	"math"
	"strings"
	"testing"

	"casebook/api"
	"casebook/disk"
)

// numbers answers a call that answers numbers from 0 to below n, the same ones in each run.
func numbers() func(n int) int {
	state := uint64(1)
	return func(n int) int {
		state = state*6364136223846793005 + 1442695040888963407
		return int((state >> 33) % uint64(n))
	}
}

// model is a disk told otherwise: what is synced, and what is not.
type model struct{ synced, loose string }

func (m *model) sync() { m.synced, m.loose = m.synced+m.loose, "" }

func (m *model) cut(n int) int {
	all := m.synced + m.loose
	if n < 0 || n > len(all) {
		return api.ErrRange
	}
	m.synced, m.loose = all[:n], ""
	return api.OK
}

func (m *model) crash(keep int) {
	m.loose = m.loose[:min(len(m.loose), max(keep, 0))]
	m.sync()
}

// step does the same to a disk and to its model.
type step struct {
	name string
	do   func(t *testing.T, d *disk.Disk, m *model)
}

func appends(s string) step {
	return step{fmt.Sprintf("Append(%q)", s), func(t *testing.T, d *disk.Disk, m *model) {
		d.Append([]byte(s))
		m.loose += s
	}}
}

func syncs() step {
	return step{"Sync", func(t *testing.T, d *disk.Disk, m *model) {
		d.Sync()
		m.sync()
	}}
}

func cuts(n int) step {
	return step{fmt.Sprintf("Cut(%d)", n), func(t *testing.T, d *disk.Disk, m *model) {
		t.Helper()
		wantCut(t, "a step", d, n, m.cut(n))
	}}
}

func crashes(keep int) step {
	return step{fmt.Sprintf("Crash(%d)", keep), func(t *testing.T, d *disk.Disk, m *model) {
		d.Crash(keep)
		m.crash(keep)
	}}
}

// wantModel fails unless a disk is seen as its model is.
func wantModel(t *testing.T, what string, d *disk.Disk, m model) {
	t.Helper()
	wantDisk(t, what, d, m.synced, m.loose)
}

// 7.1, behind each script of few steps.
func TestDiskIsAsItsModelBehindEachShortScript(t *testing.T) {
	steps := []step{appends("a"), appends("bcd"), syncs(), cuts(0), cuts(2), cuts(4), crashes(-1), crashes(0), crashes(1), crashes(9)}
	var try func(d *disk.Disk, m model, done string, left int)
	try = func(d *disk.Disk, m model, done string, left int) {
		wantModel(t, done, d, m)
		if t.Failed() {
			t.FailNow()
		}
		if left == 0 {
			return
		}
		for _, s := range steps {
			next, then := d.Copy(), m
			s.do(t, next, &then)
			try(next, then, done+s.name+" ", left-1)
			wantModel(t, done+"beside its copy, "+s.name, d, m)
		}
	}
	try(disk.New(), model{}, "", 5)
}

// anyStep answers a step of a long script, which lets more come than go.
func anyStep(next func(n int) int, m *model) step {
	size := len(m.synced + m.loose)
	switch next(20) {
	case 0:
		return cuts(next(size+6) - 3)
	case 1:
		return cuts(size - next(3))
	case 2:
		return crashes(next(len(m.loose)+6) - 3)
	case 3:
		return crashes([]int{math.MinInt, -1, 0, math.MaxInt - len(m.synced), math.MaxInt}[next(5)])
	case 4, 5, 6:
		return syncs()
	}
	return appends(strings.Repeat(string(rune('a'+next(26))), next(7)))
}

// 7.1, behind each step of long scripts; now and then a copy goes on in the disk's place.
func TestDiskIsAsItsModel(t *testing.T) {
	next := numbers()
	for script := range 40 {
		d, m := disk.New(), model{}
		old, was := disk.New(), model{}
		for i := range 500 {
			if next(10) == 0 {
				old, was, d = d, m, d.Copy()
			}
			s := anyStep(next, &m)
			s.do(t, d, &m)
			what := fmt.Sprintf("script %d, step %d, %s", script, i, s.name)
			wantModel(t, what, d, m)
			wantModel(t, what+" of its copy", old, was)
			if t.Failed() {
				t.FailNow()
			}
		}
	}
}

// 7.2

// What was once synced stands at the beginning, whatever comes, goes or crashes, as long as it isn't cut away.
func TestWhatWasSyncedStays(t *testing.T) {
	next := numbers()
	for script := range 40 {
		d := disk.New()
		for i := range 500 {
			safe := string(d.Bytes()[:d.Synced()])
			s := anyStep(next, &model{safe, string(d.Bytes()[d.Synced():])})
			if strings.HasPrefix(s.name, "Cut") {
				continue
			}
			s.do(t, d, &model{})
			if got := string(d.Bytes()); !strings.HasPrefix(got, safe) || d.Synced() < len(safe) {
				t.Fatalf("script %d, step %d: %s leaves %q, %d synced; %q was synced", script, i, s.name, got, d.Synced(), safe)
			}
		}
		if d.Synced() < 500 {
			t.Errorf("script %d: only %d are synced", script, d.Synced())
		}
	}
}

// And what was not synced comes back as a beginning of it, of just so many bytes as are kept.
func TestACrashLeavesABeginning(t *testing.T) {
	const safe, loose = "what is synced", "and what is not"
	for keep := -1; keep <= len(loose)+1; keep++ {
		d := disk.New()
		d.Append([]byte(safe))
		d.Sync()
		for _, c := range loose {
			d.Append([]byte(string(c)))
		}
		d.Crash(keep)
		wantDisk(t, fmt.Sprintf("Crash(%d)", keep), d, safe+loose[:max(0, min(keep, len(loose)))], "")
	}
}

// T3, as far as a disk goes: what is told when it is synced is there behind any crashes, each followed by a start that cuts away what is half written.
func TestWhatWasToldIsThereBehindAnyCrashes(t *testing.T) {
	const end = "."
	next := numbers()
	d, told := disk.New(), []string{}
	for i := range 2000 {
		record := fmt.Sprint(i)
		d.Append([]byte(record + end))
		if next(3) > 0 {
			d.Sync()
			told = append(told, record)
			continue
		}
		d.Crash(next(len(record)+4) - 1)
		all := string(d.Bytes())
		wantCut(t, "a start", d, strings.LastIndex(all, end)+1, api.OK)
		if all = string(d.Bytes()); len(all) > 0 && !strings.HasSuffix(all, end) {
			t.Fatalf("%q is half written", all)
		}
		if strings.HasSuffix(end+all, end+record+end) {
			told = append(told, record)
		}
	}
	if want := strings.Join(append(told, ""), end); string(d.Bytes()) != want {
		t.Errorf("%q; not %q", d.Bytes(), want)
	}
	if len(told) < 1000 || len(told) == 2000 {
		t.Errorf("%d were told", len(told))
	}
}
