package disk_test

import (
	"bytes"
	"fmt"
	"math"
	"testing"

	"casebook/api"
	"casebook/disk"
)

// holding answers a disk with some bytes that are synced, and behind them some that are not.
func holding(synced, loose string) *disk.Disk {
	d := disk.New()
	d.Append([]byte(synced))
	d.Sync()
	d.Append([]byte(loose))
	return d
}

// wantDisk fails unless a disk has just these bytes that are synced, and behind them just these that are not.
func wantDisk(t *testing.T, what string, d *disk.Disk, synced, loose string) {
	t.Helper()
	if got := d.Bytes(); string(got) != synced+loose {
		t.Errorf("%s: %q; not %q", what, got, synced+loose)
	}
	if d.Len() != len(synced+loose) {
		t.Errorf("%s: Len %d; not %d", what, d.Len(), len(synced+loose))
	}
	if d.Synced() != len(synced) {
		t.Errorf("%s: Synced %d; not %d", what, d.Synced(), len(synced))
	}
}

// wantCut fails unless Cut tells just this.
func wantCut(t *testing.T, what string, d *disk.Disk, n, want int) {
	t.Helper()
	if got := d.Cut(n); got != want {
		t.Errorf("%s: Cut(%d) is %d; not %d", what, n, got, want)
	}
}

// 7.1: New, Append

func TestNewHasNothing(t *testing.T) {
	d := disk.New()
	if d == nil {
		t.Fatal("nil")
	}
	wantDisk(t, "new", d, "", "")
}

func TestAppendStandsBehindAll(t *testing.T) {
	d := disk.New()
	d.Append([]byte("cd"))
	wantDisk(t, "the first", d, "", "cd")
	d.Append([]byte("a"))
	wantDisk(t, "the next", d, "", "cda")
	d.Sync()
	d.Append([]byte("cd"))
	wantDisk(t, "behind a Sync", d, "cda", "cd")
	d.Append([]byte("b"))
	wantDisk(t, "the last", d, "cda", "cdb")
}

func TestAppendOfNothing(t *testing.T) {
	for name, b := range map[string][]byte{"nil": nil, "empty": {}} {
		d := disk.New()
		d.Append(b)
		wantDisk(t, name+", new", d, "", "")
		d = holding("abc", "de")
		d.Append(b)
		wantDisk(t, name, d, "abc", "de")
		d.Append([]byte("f"))
		wantDisk(t, name+", and more", d, "abc", "def")
	}
}

func TestAppendOfAnyBytes(t *testing.T) {
	var all []byte
	for c := range 256 {
		all = append(all, byte(c))
	}
	d := disk.New()
	d.Append(all)
	d.Append(all)
	wantDisk(t, "each byte twice", d, "", string(all)+string(all))
}

func TestAppendDoesNotKeepNorChangeWhatIsHandedIn(t *testing.T) {
	whole := []byte("abcdef")
	d := disk.New()
	d.Append(whole[:3])
	d.Append([]byte("xyz"))
	d.Sync()
	d.Append(whole[3:4])
	d.Crash(0)
	d.Append(whole[:1])
	if string(whole) != "abcdef" {
		t.Errorf("what was handed in is %q now", whole)
	}
	clear(whole)
	wantDisk(t, "behind a change of what was handed in", d, "abcxyz", "a")
}

// A long disk takes bytes as soon as a short one: this would take hours if all bytes went round at each call.
func TestManyAppends(t *testing.T) {
	const many = 1 << 21
	d := disk.New()
	for i := range many {
		d.Append([]byte{byte(i), byte(i >> 8)})
		d.Sync()
		d.Append([]byte{77})
		d.Crash(0)
		if d.Len() != 2*i+2 || d.Synced() != d.Len() {
			t.Fatalf("behind %d: Len %d, Synced %d", i, d.Len(), d.Synced())
		}
	}
	for i, b := 0, d.Bytes(); i < many; i++ {
		if b[2*i] != byte(i) || b[2*i+1] != byte(i>>8) {
			t.Fatalf("%d: %x", i, b[2*i:2*i+2])
		}
	}
}

// 7.1: Sync

func TestSync(t *testing.T) {
	d := disk.New()
	d.Sync()
	wantDisk(t, "of nothing", d, "", "")
	d.Append([]byte("ab"))
	d.Sync()
	wantDisk(t, "of the first", d, "ab", "")
	d.Sync()
	wantDisk(t, "again", d, "ab", "")
	d.Append([]byte("c"))
	d.Append([]byte("d"))
	d.Sync()
	wantDisk(t, "of more", d, "abcd", "")
}

// 7.1: Cut

func TestCut(t *testing.T) {
	const all = "abcdefg"
	for synced := range len(all) + 1 {
		for n := range len(all) + 1 {
			d := holding(all[:synced], all[synced:])
			what := fmt.Sprintf("%d synced, Cut(%d)", synced, n)
			wantCut(t, what, d, n, api.OK)
			wantDisk(t, what, d, all[:n], "")
			d.Crash(0)
			wantDisk(t, what+", Crash", d, all[:n], "")
		}
	}
}

func TestCutOfNothing(t *testing.T) {
	d := disk.New()
	wantCut(t, "new", d, 0, api.OK)
	wantCut(t, "new", d, 1, api.ErrRange)
	wantCut(t, "new", d, -1, api.ErrRange)
	wantDisk(t, "new", d, "", "")
}

func TestCutOutOfRange(t *testing.T) {
	for _, n := range []int{-1, -2, -3, -1 << 32, -1<<32 + 1, math.MinInt, math.MinInt + 1, 6, 7, 1<<31 - 1, 1 << 32, 1<<32 + 1, math.MaxInt - 1, math.MaxInt} {
		d := holding("abc", "de")
		wantCut(t, "abc, de", d, n, api.ErrRange)
		wantDisk(t, fmt.Sprintf("Cut(%d)", n), d, "abc", "de")
	}
}

// What was cut away is gone for good, and what comes behind stands where it stood.
func TestBehindACut(t *testing.T) {
	d := holding("abc", "def")
	wantCut(t, "abc, def", d, 2, api.OK)
	wantCut(t, "ab", d, 3, api.ErrRange)
	d.Append([]byte("x"))
	wantDisk(t, "and more", d, "ab", "x")
	d.Crash(9)
	wantDisk(t, "and a Crash", d, "abx", "")
	wantCut(t, "abx", d, 0, api.OK)
	wantDisk(t, "without all", d, "", "")
	d.Append([]byte("yz"))
	wantDisk(t, "and then", d, "", "yz")
}

// 7.1: Crash

func TestExampleOfTheDocument(t *testing.T) {
	d := disk.New()
	d.Append([]byte("12345"))
	d.Sync()
	d.Append([]byte("678"))
	d.Crash(1)
	wantDisk(t, "Crash(1)", d, "123456", "")
}

func TestCrash(t *testing.T) {
	const all = "abcdef"
	for synced := range len(all) + 1 {
		for keep := -3; keep <= len(all)+3; keep++ {
			d := holding(all[:synced], all[synced:])
			d.Crash(keep)
			left := all[:min(len(all), synced+max(keep, 0))]
			wantDisk(t, fmt.Sprintf("%d synced, Crash(%d)", synced, keep), d, left, "")
		}
	}
}

func TestCrashOfNothing(t *testing.T) {
	for _, keep := range []int{math.MinInt, -1, 0, 1, math.MaxInt} {
		d := disk.New()
		d.Crash(keep)
		wantDisk(t, fmt.Sprintf("Crash(%d)", keep), d, "", "")
	}
}

func TestCrashAtTheEdges(t *testing.T) {
	for _, keep := range []int{math.MinInt, math.MinInt + 1, -1 << 32, -1<<32 + 1, -1 << 31, -1} {
		d := holding("abc", "de")
		d.Crash(keep)
		wantDisk(t, fmt.Sprintf("Crash(%d)", keep), d, "abc", "")
	}
	for _, keep := range []int{2, 3, 1<<31 - 1, 1 << 31, 1 << 32, 1<<32 + 1, math.MaxInt - 3, math.MaxInt - 2, math.MaxInt - 1, math.MaxInt} {
		d := holding("abc", "de")
		d.Crash(keep)
		wantDisk(t, fmt.Sprintf("Crash(%d)", keep), d, "abcde", "")
	}
}

// All that is left is synced: the next crash leaves it.
func TestCrashBehindACrash(t *testing.T) {
	d := holding("abc", "def")
	d.Crash(1)
	d.Crash(0)
	wantDisk(t, "the next one", d, "abcd", "")
	d.Append([]byte("xy"))
	wantDisk(t, "and more", d, "abcd", "xy")
	d.Crash(1)
	wantDisk(t, "and one more", d, "abcdx", "")
	d.Crash(math.MinInt)
	wantDisk(t, "and the last one", d, "abcdx", "")
}

// 7.1: Len, Synced, Bytes, Copy

func TestAskingChangesNothing(t *testing.T) {
	d := holding("abc", "de")
	for range 3 {
		d.Len()
		d.Synced()
		d.Bytes()
		d.Copy()
		wantDisk(t, "asked", d, "abc", "de")
	}
	d.Crash(0)
	wantDisk(t, "behind a Crash", d, "abc", "")
}

func TestBytesIsACopy(t *testing.T) {
	d := holding("abc", "de")
	first, second := d.Bytes(), d.Bytes()
	clear(first)
	_ = append(first[:1], "zzzz"...)
	wantDisk(t, "behind a change of what was answered", d, "abc", "de")
	if string(second) != "abcde" {
		t.Errorf("two answers are shared: %q", second)
	}
	_ = append(second, "zz"...)
	d.Append([]byte("fg"))
	_ = append(second, "zz"...)
	wantDisk(t, "behind more", d, "abc", "defg")
}

func TestBytesStayBehindChanges(t *testing.T) {
	d := holding("abc", "de")
	b := d.Bytes()
	d.Cut(1)
	d.Append([]byte("xyz"))
	d.Crash(0)
	d.Append([]byte("uvw"))
	if string(b) != "abcde" {
		t.Errorf("what was answered has changed: %q", b)
	}
}

func TestCopyIsTheSame(t *testing.T) {
	for _, c := range [][2]string{{"", ""}, {"abc", ""}, {"", "de"}, {"abc", "de"}} {
		d := holding(c[0], c[1])
		again := d.Copy()
		if again == nil || again == d {
			t.Fatalf("%q: no other disk", c)
		}
		wantDisk(t, "the copy", again, c[0], c[1])
		wantDisk(t, "the copy's copy", again.Copy(), c[0], c[1])
		again.Crash(0)
		wantDisk(t, "the copy, behind a Crash", again, c[0], "")
		wantDisk(t, "what was copied", d, c[0], c[1])
	}
}

// Whatever is done to a disk or to its copy, the other one stays.
func TestCopiesAreApart(t *testing.T) {
	for name, change := range map[string]func(d *disk.Disk){
		"Append":         func(d *disk.Disk) { d.Append([]byte("x")) },
		"Sync":           func(d *disk.Disk) { d.Sync() },
		"Cut":            func(d *disk.Disk) { d.Cut(1) },
		"Cut and Append": func(d *disk.Disk) { d.Cut(1); d.Append([]byte("xyz")) },
		"Crash":          func(d *disk.Disk) { d.Crash(1) },
		"Crash, Append":  func(d *disk.Disk) { d.Crash(0); d.Append([]byte("xyz")) },
	} {
		d := holding("abc", "de")
		again := d.Copy()
		change(again)
		wantDisk(t, name+" of the copy: what was copied", d, "abc", "de")
		again = d.Copy()
		change(d)
		wantDisk(t, name+" of what was copied: the copy", again, "abc", "de")
	}
	d := holding("abc", "de")
	one, two := d.Copy(), d.Copy()
	d.Append([]byte("0"))
	one.Append([]byte("1"))
	two.Append([]byte("2"))
	wantDisk(t, "what was copied", d, "abc", "de0")
	wantDisk(t, "one", one, "abc", "de1")
	wantDisk(t, "two", two, "abc", "de2")
}

func TestDisksAreApart(t *testing.T) {
	one, two := disk.New(), disk.New()
	one.Append([]byte("a"))
	two.Append([]byte("bc"))
	two.Sync()
	wantDisk(t, "one", one, "", "a")
	wantDisk(t, "two", two, "bc", "")
}

// 7.1: of nil, nothing

func TestOfNil(t *testing.T) {
	var d *disk.Disk
	for range 2 {
		d.Append([]byte("abc"))
		d.Sync()
		d.Crash(1)
		wantDisk(t, "nil", d, "", "")
	}
	for _, n := range []int{math.MinInt, -1, 0, 1, math.MaxInt} {
		wantCut(t, "nil", d, n, api.ErrRange)
	}
	if again := d.Copy(); again != nil {
		t.Errorf("the copy has %q", again.Bytes())
	}
}

// A disk that New did not make is empty, and may be used.
func TestZeroDisk(t *testing.T) {
	var d disk.Disk
	wantDisk(t, "zero", &d, "", "")
	wantDisk(t, "its copy", d.Copy(), "", "")
	wantCut(t, "zero", &d, 1, api.ErrRange)
	wantCut(t, "zero", &d, 0, api.OK)
	d.Crash(1)
	d.Append([]byte("ab"))
	d.Crash(1)
	wantDisk(t, "and more", &d, "a", "")
}

func TestLongDisk(t *testing.T) {
	long := bytes.Repeat([]byte("0123456789abcdef"), 1<<20)
	d := disk.New()
	d.Append(long)
	d.Sync()
	d.Append(long)
	d.Crash(len(long) - 1)
	if d.Len() != 2*len(long)-1 || d.Synced() != d.Len() {
		t.Errorf("Len %d, Synced %d", d.Len(), d.Synced())
	}
	b := d.Bytes()
	if !bytes.HasPrefix(b, long) || !bytes.HasPrefix(long, b[len(long):]) {
		t.Error("other bytes are left")
	}
}
