package disk_test

import (
	"math"
	"slices"
	"strings"
	"testing"

	"kitbag/api"
	"kitbag/disk"
)

const limit = 1 << 24

var (
	everything = []int{1}
	noFiles    = []int{-1, 16, 17, 1 << 32, math.MinInt, math.MaxInt}
)

// content returns the bytes of a file of a machine that is up.
func content(t *testing.T, d *disk.Disk, f int) string {
	t.Helper()
	s, e := d.Read(f, 0, math.MaxInt)
	if e != api.OK || len(s) != d.Size(f) {
		t.Fatalf("file %d: error %d, %d bytes of %d", f, e, len(s), d.Size(f))
	}
	return s
}

func want(t *testing.T, what string, d *disk.Disk, f int, s string) {
	t.Helper()
	if got := content(t, d, f); got != s {
		t.Errorf("%s: the file %d is %q, want %q", what, f, got, s)
	}
}

func returns(t *testing.T, what string, got, e api.Errno) {
	t.Helper()
	if got != e {
		t.Errorf("%s returns %d, want %d", what, got, e)
	}
}

func write(t *testing.T, d *disk.Disk, f, at int, s string) {
	t.Helper()
	returns(t, "Write", d.Write(f, at, s), api.OK)
}

func sync(t *testing.T, d *disk.Disk, f int) {
	t.Helper()
	returns(t, "Sync", d.Sync(f), api.OK)
}

// crashed returns a copy of the disk after a crash and a start.
func crashed(d *disk.Disk, keep ...int) *disk.Disk {
	c := d.Copy()
	c.Crash(keep)
	c.Start()
	return c
}

// durable returns the durable part of a file.
func durable(t *testing.T, d *disk.Disk, f int) string {
	t.Helper()
	return content(t, crashed(d), f)
}

// zeros returns n bytes 0.
func zeros(n int) string { return strings.Repeat("\x00", n) }

// xs returns n bytes x.
func xs(n int) string { return strings.Repeat("x", n) }

// only returns what a crash keeps if only the pending sector i survives.
func only(i int) []int {
	keep := make([]int, 1000)
	keep[i] = 1
	return keep
}

// wantPending checks the number of pending sectors, and where each stands: files[i] and offsets[i] are the first byte of the sector with the index i.
func wantPending(t *testing.T, what string, d *disk.Disk, files, offsets []int) {
	t.Helper()
	for i := range len(files) + 2 {
		c := crashed(d, only(i)...)
		for f := range 16 {
			s, part := content(t, d, f), durable(t, d, f)
			if i < len(files) && f == files[i] {
				at := offsets[i]
				if len(part) < at {
					part += zeros(at - len(part))
				}
				end := min(at+64, len(s))
				part = part[:at] + s[at:end] + part[min(end, len(part)):]
			}
			want(t, what, c, f, part)
		}
	}
}

// P2.1

func TestNewDiskIsEmptyAndUp(t *testing.T) {
	d := disk.New()
	if d.Down() {
		t.Error("down")
	}
	for f := range 16 {
		want(t, "new", d, f, "")
		want(t, "new, after a crash", crashed(d, 1), f, "")
	}
	wantPending(t, "new", d, nil, nil)
	write(t, d, 0, 0, "a")
	if disk.New().Size(0) != 0 {
		t.Error("two disks share a file")
	}
}

func TestSize(t *testing.T) {
	d := disk.New()
	for f := range 16 {
		write(t, d, f, f, "ab")
	}
	for range 2 {
		for f := range 16 {
			if d.Size(f) != f+2 {
				t.Errorf("the size of the file %d is %d", f, d.Size(f))
			}
		}
		for _, f := range noFiles {
			if d.Size(f) != 0 {
				t.Errorf("the size of the file %d is %d", f, d.Size(f))
			}
		}
		d.Crash(everything) // then the same while the machine is down
	}
}

func TestDown(t *testing.T) {
	d := disk.New()
	for range 2 {
		d.Crash(nil)
		if !d.Down() {
			t.Error("up after a crash")
		}
		d.Start()
		if d.Down() {
			t.Error("down after a start")
		}
	}
	d.Start()
	if d.Down() {
		t.Error("down after two starts")
	}
}

// busy returns a disk with everything that a disk can have.
func busy(t *testing.T) *disk.Disk {
	d := disk.New()
	write(t, d, 3, 0, xs(100))
	sync(t, d, 3)
	write(t, d, 3, 60, "abcdefgh")
	write(t, d, 4, 200, "z")
	d.Lose(2)
	d.Arm(4, []int{0, 1})
	return d
}

// wantBusy checks that a disk is as busy returned it, and uses it up.
func wantBusy(t *testing.T, what string, d *disk.Disk) {
	t.Helper()
	want(t, what, d, 3, xs(60)+"abcdefgh"+xs(32))
	want(t, what, d, 4, zeros(200)+"z")
	wantPending(t, what, d, []int{3, 3, 4}, []int{0, 64, 192})
	returns(t, what+": Sync", d.Sync(3), api.ErrLost)
	returns(t, what+": Sync", d.Sync(3), api.ErrLost)
	returns(t, what+": Write", d.Write(5, 0, ""), api.OK)
	returns(t, what+": Sync", d.Sync(3), api.ErrDown)
	d.Start()
	want(t, what, d, 3, xs(64)+"efgh"+xs(32))
	want(t, what, d, 4, "")
}

func TestCopyIsTheSameAndIndependent(t *testing.T) {
	change := func(d *disk.Disk) {
		write(t, d, 3, 0, "Q")
		write(t, d, 9, 0, "R")
		d.Lose(0)
		d.Arm(0, nil)
		sync(t, d, 4)
		returns(t, "Truncate", d.Truncate(3, 10), api.OK)
		write(t, d, 3, 0, xs(64))
		d.Crash(everything)
	}
	d := busy(t)
	c := d.Copy()
	change(d)
	wantBusy(t, "a copy", c)
	d = busy(t)
	c = d.Copy()
	change(c)
	wantBusy(t, "what was copied", d)
	d = busy(t)
	wantBusy(t, "a copy of a copy", d.Copy().Copy())
	wantBusy(t, "what was copied twice", d)
	d.Crash(nil)
	c = d.Copy()
	c.Start()
	if c.Down() || !d.Down() || !d.Copy().Down() {
		t.Error("a copy of a machine that is down")
	}
}

func TestCopiesGrowApart(t *testing.T) {
	// Slices with room for more may be shared by accident: it depends on their length.
	for n := range 9 {
		d := disk.New()
		files, offsets := make([]int, n), make([]int, n)
		for i := range n {
			write(t, d, 0, i*64, xs(64))
			offsets[i] = i * 64
		}
		c := d.Copy()
		write(t, d, 0, n*64, "D")
		write(t, c, 0, n*64, "E")
		write(t, d, 1, 0, "x")
		write(t, c, 2, 64, "y")
		want(t, "the first", d, 0, xs(n*64)+"D")
		want(t, "the copy", c, 0, xs(n*64)+"E")
		files, offsets = append(files, 0), append(offsets, n*64)
		wantPending(t, "the first", d, append(files, 1), append(offsets, 0))
		wantPending(t, "the copy", c, append(files, 2), append(offsets, 64))
	}
}

// P2.2

func TestCallsOfAMachineThatIsDown(t *testing.T) {
	d := disk.New()
	write(t, d, 0, 0, "abc")
	sync(t, d, 0)
	d.Lose(1)
	d.Crash(everything)
	for _, f := range append([]int{0}, noFiles...) {
		if s, e := d.Read(f, -1, -1); s != "" || e != api.ErrDown {
			t.Errorf("Read: %q, %d", s, e)
		}
		if s, e := d.Read(f, 0, 3); s != "" || e != api.ErrDown {
			t.Errorf("Read: %q, %d", s, e)
		}
		returns(t, "Write", d.Write(f, 0, "x"), api.ErrDown)
		returns(t, "Write", d.Write(f, -1, "x"), api.ErrDown)
		returns(t, "Write", d.Write(f, limit, "x"), api.ErrDown)
		returns(t, "Sync", d.Sync(f), api.ErrDown)
		returns(t, "Truncate", d.Truncate(f, 0), api.ErrDown)
		returns(t, "Truncate", d.Truncate(f, -1), api.ErrDown)
	}
	d.Start()
	want(t, "after the start", d, 0, "abc")
	wantPending(t, "after the start", d, nil, nil)
	returns(t, "Sync", d.Sync(0), api.ErrLost)
	sync(t, d, 0)
}

func TestCallsWithoutAFile(t *testing.T) {
	d := disk.New()
	d.Lose(1)
	for _, f := range noFiles {
		if s, e := d.Read(f, 0, 1); s != "" || e != api.ErrArg {
			t.Errorf("Read: %q, %d", s, e)
		}
		returns(t, "Write", d.Write(f, 0, "x"), api.ErrArg)
		returns(t, "Write", d.Write(f, 0, ""), api.ErrArg)
		returns(t, "Write", d.Write(f, limit, "x"), api.ErrArg)
		returns(t, "Sync", d.Sync(f), api.ErrArg)
		returns(t, "Truncate", d.Truncate(f, 0), api.ErrArg)
		if d.Size(f) != 0 {
			t.Errorf("there is a file %d", f)
		}
	}
	returns(t, "Sync", d.Sync(0), api.ErrLost)
	wantPending(t, "without a file", d, nil, nil)
}

func TestRead(t *testing.T) {
	d := disk.New()
	write(t, d, 0, 0, "abcdef")
	write(t, d, 15, 0, "\x00\xff")
	for i, c := range []struct {
		f, at, size int
		s           string
		e           api.Errno
	}{
		{0, 0, 6, "abcdef", api.OK},
		{0, 0, 7, "abcdef", api.OK},
		{0, 0, 2, "ab", api.OK},
		{0, 2, 3, "cde", api.OK},
		{0, 5, 1, "f", api.OK},
		{0, 5, 2, "f", api.OK},
		{0, 6, 2, "", api.OK},
		{0, 7, 2, "", api.OK},
		{0, 2, 0, "", api.OK},
		{0, 9, 0, "", api.OK},
		{0, 3, math.MaxInt, "def", api.OK},
		{0, math.MaxInt, math.MaxInt, "", api.OK},
		{0, math.MaxInt, 1, "", api.OK},
		{0, -1, 3, "", api.ErrArg},
		{0, 0, -1, "", api.ErrArg},
		{0, math.MinInt, math.MinInt, "", api.ErrArg},
		{0, math.MinInt, math.MaxInt, "", api.ErrArg},
		{0, 7, -1, "", api.ErrArg},
		{15, 0, 2, "\x00\xff", api.OK},
		{15, 1, 2, "\xff", api.OK},
		{1, 0, 1, "", api.OK},
		{16, 0, 1, "", api.ErrArg},
	} {
		if s, e := d.Read(c.f, c.at, c.size); s != c.s || e != c.e {
			t.Errorf("%d: %q, %d", i, s, e)
		}
	}
}

func TestWritePutsBytes(t *testing.T) {
	for i, c := range []struct {
		before string
		at     int
		s      string
		after  string
	}{
		{"", 0, "", ""},
		{"", 5, "", ""},
		{"abc", 5, "", "abc"},
		{"abc", 1, "", "abc"},
		{"", 0, "ab", "ab"},
		{"", 3, "ab", "\x00\x00\x00ab"},
		{"abc", 0, "X", "Xbc"},
		{"abc", 1, "XY", "aXY"},
		{"abc", 1, "XYZ", "aXYZ"},
		{"abc", 0, "WXYZ", "WXYZ"},
		{"abc", 3, "X", "abcX"},
		{"abc", 5, "X", "abc\x00\x00X"},
		{"abc", 1, "\x00\xff", "a\x00\xff"},
		{xs(130), 60, "0123456789", xs(60) + "0123456789" + xs(60)},
	} {
		d := disk.New()
		write(t, d, 2, 0, c.before)
		write(t, d, 2, c.at, c.s)
		if got := content(t, d, 2); got != c.after {
			t.Errorf("%d: %q", i, got)
		}
		want(t, "another file", d, 1, "")
	}
}

func TestWriteRefusesAndChangesNothing(t *testing.T) {
	d := disk.New()
	write(t, d, 0, 0, "abc")
	sync(t, d, 0)
	for _, c := range []struct {
		at int
		s  string
		e  api.Errno
	}{
		{-1, "x", api.ErrArg}, {-1, "", api.ErrArg}, {math.MinInt, "x", api.ErrArg},
		{limit, "x", api.ErrFull}, {limit - 1, "xy", api.ErrFull}, {limit + 1, "", api.ErrFull}, {math.MaxInt, "x", api.ErrFull}, {math.MaxInt, "", api.ErrFull}, {math.MaxInt - 1, "xyz", api.ErrFull},
		{limit, "", api.OK}, {limit - 1, "", api.OK}, {100, "", api.OK}, {0, "", api.OK}, {64, "", api.OK},
	} {
		returns(t, "Write", d.Write(0, c.at, c.s), c.e)
	}
	want(t, "after the calls", d, 0, "abc")
	wantPending(t, "after the calls", d, nil, nil)
}

func TestTheGreatestFile(t *testing.T) {
	d := disk.New()
	long := strings.Repeat("y", limit)
	returns(t, "Write", d.Write(0, 1, long), api.ErrFull)
	returns(t, "Write", d.Write(0, 0, long+"y"), api.ErrFull)
	returns(t, "Write", d.Write(0, -1, long+"y"), api.ErrArg)
	write(t, d, 0, 0, long)
	write(t, d, 1, limit-1, "z")
	if d.Size(0) != limit || d.Size(1) != limit || content(t, d, 0) != long {
		t.Error("the greatest files")
	}
	d.Crash([]int{1, 0})
	d.Start()
	if s := content(t, d, 0); s != strings.Repeat(strings.Repeat("y", 64)+zeros(64), limit/128)[:limit-64] {
		t.Errorf("after a crash there are %d bytes", len(s))
	}
	// The last sector had an odd index, and the sector of the other file an even one.
	if s := content(t, d, 1); s != zeros(limit-1)+"z" {
		t.Errorf("after a crash there are %d bytes", len(s))
	}
}

func TestSectorsBecomePending(t *testing.T) {
	d := disk.New()
	write(t, d, 0, 60, xs(10))   // the sectors 0 and 1
	write(t, d, 1, 64, xs(64))   // the sector 1, and no other
	write(t, d, 0, 63, "ab")     // 0 and 1 are pending already
	write(t, d, 0, 128, xs(129)) // the sectors 2, 3 and 4
	write(t, d, 2, 127, "a")     // the sector 1
	write(t, d, 2, 63, "b")      // the sector 0, after 1
	write(t, d, 2, 320, "cd")    // the sector 5: what is between is not pending
	wantPending(t, "written", d, []int{0, 0, 1, 0, 0, 0, 2, 2, 2}, []int{0, 64, 64, 128, 192, 256, 64, 0, 320})
}

func TestASectorKeepsItsPlaceAndItsLastBytes(t *testing.T) {
	d := disk.New()
	write(t, d, 0, 64, "ab")
	write(t, d, 0, 0, "c")
	write(t, d, 0, 65, "BCD")
	wantPending(t, "written", d, []int{0, 0}, []int{64, 0})
	want(t, "only the first", crashed(d, 1, 0), 0, zeros(64)+"aBCD")
	want(t, "only the second", crashed(d, 0, 1), 0, "c"+zeros(63))
}

func TestBytesThatAreAppendedBefore(t *testing.T) {
	d := disk.New()
	write(t, d, 0, 0, "abc")
	sync(t, d, 0)
	write(t, d, 0, 200, "d") // the sector 3 from the byte 192 on
	wantPending(t, "appended", d, []int{0}, []int{192})
	want(t, "the sector does not survive", crashed(d, 0), 0, "abc")
	want(t, "the sector survives", crashed(d, 1), 0, "abc"+zeros(197)+"d")
	write(t, d, 0, 2, "C")
	want(t, "the other one survives", crashed(d, 0, 1), 0, "abC"+zeros(61))
}

func TestSync(t *testing.T) {
	d := disk.New()
	write(t, d, 0, 0, xs(130))
	write(t, d, 1, 0, "other")
	sync(t, d, 0)
	want(t, "synced", d, 0, xs(130))
	want(t, "synced, after a crash", crashed(d), 0, xs(130))
	want(t, "not synced", crashed(d), 1, "")
	wantPending(t, "synced", d, []int{1}, []int{0})
	write(t, d, 0, 64, "a") // pending again, now at the end
	write(t, d, 0, 0, "b")
	wantPending(t, "written again", d, []int{1, 0, 0}, []int{0, 64, 0})
	sync(t, d, 2)
	wantPending(t, "an empty file synced", d, []int{1, 0, 0}, []int{0, 64, 0})
	sync(t, d, 1)
	wantPending(t, "the other file synced", d, []int{0, 0}, []int{64, 0})
	write(t, d, 3, 300, "c")
	sync(t, d, 3)
	want(t, "the bytes before are synced", crashed(d), 3, zeros(300)+"c")
}

func TestLostSyncs(t *testing.T) {
	d := disk.New()
	write(t, d, 0, 0, "abc")
	d.Lose(2)
	returns(t, "Sync", d.Sync(16), api.ErrArg)
	returns(t, "Sync", d.Sync(0), api.ErrLost)
	returns(t, "Truncate", d.Truncate(1, 0), api.OK)
	want(t, "a lost sync", d, 0, "abc")
	wantPending(t, "a lost sync", d, []int{0}, []int{0})
	if durable(t, d, 0) != "" {
		t.Error("a lost sync makes a file durable")
	}
	returns(t, "Sync of another file", d.Sync(1), api.ErrLost)
	sync(t, d, 0)
	if durable(t, d, 0) != "abc" {
		t.Error("a sync after lost ones")
	}
}

func TestTruncate(t *testing.T) {
	for i, c := range []struct {
		size int
		s    string
		e    api.Errno
	}{
		{0, "", api.OK},
		{1, "a", api.OK},
		{3, "abc", api.OK},
		{64, "abc" + xs(61), api.OK},
		{100, "abc" + xs(97), api.OK},
		{199, "abc" + xs(196), api.OK},
		{200, "abc" + xs(197), api.OK},
		{201, "", api.ErrArg},
		{-1, "", api.ErrArg},
		{math.MaxInt, "", api.ErrArg},
		{math.MinInt, "", api.ErrArg},
	} {
		d := disk.New()
		write(t, d, 0, 0, xs(200))
		sync(t, d, 0)
		write(t, d, 0, 0, "abc")
		write(t, d, 1, 0, "d")
		returns(t, "Truncate", d.Truncate(0, c.size), c.e)
		if c.e != api.OK {
			want(t, "refused", d, 0, "abc"+xs(197))
			wantPending(t, "refused", d, []int{0, 1}, []int{0, 0})
			continue
		}
		want(t, "truncated", d, 0, c.s)
		want(t, "truncated, after a crash", crashed(d), 0, c.s)
		wantPending(t, "truncated", d, []int{1}, []int{0})
		write(t, d, 0, c.size+2, "Z")
		if got := content(t, d, 0); got != c.s+zeros(2)+"Z" {
			t.Errorf("%d: what was cut off comes back: %q", i, got)
		}
		want(t, "extended, after a crash", crashed(d), 0, c.s)
		d.Lose(1)
		returns(t, "Truncate", d.Truncate(0, c.size), api.OK)
		returns(t, "Sync", d.Sync(0), api.ErrLost)
	}
}

// P2.3

func TestLose(t *testing.T) {
	for n, lost := range map[int]int{0: 0, 1: 1, 3: 3, -1: 0, math.MinInt: 0} {
		d := disk.New()
		d.Lose(5)
		d.Lose(n)
		for range lost {
			returns(t, "Sync", d.Sync(0), api.ErrLost)
		}
		returns(t, "Sync", d.Sync(0), api.OK)
	}
	d := disk.New()
	d.Lose(math.MaxInt)
	for range 100 {
		returns(t, "Sync", d.Sync(0), api.ErrLost)
	}
	d.Lose(1)
	d.Crash(nil)
	d.Start()
	returns(t, "Sync after a crash", d.Sync(0), api.ErrLost)
	d.Crash(nil)
	d.Lose(1)
	d.Start()
	returns(t, "Sync after Lose while the machine was down", d.Sync(0), api.ErrLost)
	sync(t, d, 0)
}

func TestWhichSectorsSurvive(t *testing.T) {
	d := disk.New()
	write(t, d, 0, 0, xs(5*64))
	for i, c := range []struct {
		keep    []int
		survive string
	}{
		{nil, "....."},
		{[]int{}, "....."},
		{[]int{0}, "....."},
		{[]int{2}, "....."},
		{[]int{-2, math.MinInt}, "....."},
		{[]int{1}, "11111"},
		{[]int{3, -1, math.MaxInt, -3}, "11111"},
		{[]int{1, 0}, "1.1.1"},
		{[]int{0, 1}, ".1.1."},
		{[]int{0, 0, 1}, "..1.."},
		{[]int{1, 0, 0}, "1..1."},
		{[]int{2, 4, 6, 8, 7}, "....1"},
		{[]int{0, 0, 0, 0, 0, 1}, "....."},
	} {
		s := ""
		for _, b := range c.survive {
			s += strings.Repeat(map[rune]string{'.': "\x00", '1': "x"}[b], 64)
		}
		// The file ends with the last sector that survives.
		s = strings.TrimRight(s, "\x00")
		if got := content(t, crashed(d, c.keep...), 0); got != s {
			t.Errorf("%d: %q", i, got)
		}
	}
}

func TestTheIndexCountsAllFiles(t *testing.T) {
	d := disk.New()
	write(t, d, 9, 0, "a")
	write(t, d, 2, 0, "b")
	write(t, d, 5, 0, "c")
	write(t, d, 2, 64, "d")
	c := crashed(d, 0, 1, 1, 0)
	for f, s := range map[int]string{9: "", 2: "b" + zeros(63), 5: "c"} {
		want(t, "after the crash", c, f, s)
	}
}

func TestCrash(t *testing.T) {
	d := disk.New()
	write(t, d, 0, 0, "abc")
	d.Crash(everything)
	d.Crash(nil) // nothing: the machine is down
	if !d.Down() || d.Size(0) != 3 {
		t.Error("a second crash")
	}
	d.Start()
	want(t, "after the crash", d, 0, "abc")
	wantPending(t, "after the crash", d, nil, nil)
	write(t, d, 0, 0, "X")
	wantPending(t, "written again", d, []int{0}, []int{0})
	d.Crash(nil)
	d.Start()
	want(t, "what survived a crash is durable", d, 0, "abc")
	write(t, d, 0, 0, "X")
	d.Start() // nothing: the machine is up
	want(t, "a start", d, 0, "Xbc")
	wantPending(t, "a start", d, []int{0}, []int{0})
}

func TestASectorAtTheEndOfAFile(t *testing.T) {
	d := disk.New()
	write(t, d, 0, 0, xs(10))
	sync(t, d, 0)
	write(t, d, 0, 8, "abcd")
	want(t, "a sector is longer", crashed(d, 1), 0, xs(8)+"abcd")
	want(t, "a sector is longer", crashed(d, 0), 0, xs(10))
}

// The examples of the chapter.
func TestExamples(t *testing.T) {
	d := disk.New()
	write(t, d, 0, 0, "abc")
	sync(t, d, 0)
	write(t, d, 0, 1, "XY")
	want(t, "{1}", crashed(d, 1), 0, "aXY")
	want(t, "{0}", crashed(d, 0), 0, "abc")
	want(t, "nil", crashed(d), 0, "abc")
	d = disk.New()
	write(t, d, 0, 62, "abcd")
	want(t, "{0, 1}", crashed(d, 0, 1), 0, zeros(64)+"cd")
	d = disk.New()
	write(t, d, 0, 0, xs(200))
	want(t, "{1, 0}", crashed(d, 1, 0), 0, xs(64)+zeros(64)+xs(64))
}

// P2.4

func TestArmCountsCalls(t *testing.T) {
	calls := []func(d *disk.Disk) api.Errno{
		func(d *disk.Disk) api.Errno { return d.Write(0, 0, "ab") },
		func(d *disk.Disk) api.Errno { return d.Write(16, 0, "x") },
		func(d *disk.Disk) api.Errno { return d.Write(0, -1, "x") },
		func(d *disk.Disk) api.Errno { return d.Write(0, limit, "x") },
		func(d *disk.Disk) api.Errno { return d.Write(0, 0, "") },
		func(d *disk.Disk) api.Errno { return d.Sync(-1) },
		func(d *disk.Disk) api.Errno { return d.Sync(0) }, // lost
		func(d *disk.Disk) api.Errno { return d.Sync(0) },
		func(d *disk.Disk) api.Errno { return d.Truncate(0, 3) },
		func(d *disk.Disk) api.Errno { return d.Truncate(0, 1) },
		func(d *disk.Disk) api.Errno { return d.Truncate(16, 0) },
		func(d *disk.Disk) api.Errno { return d.Write(0, 1, "c") },
	}
	errors := []api.Errno{api.OK, api.ErrArg, api.ErrArg, api.ErrFull, api.OK, api.ErrArg, api.ErrLost, api.OK, api.ErrArg, api.OK, api.ErrArg, api.OK}
	for n := 1; n <= len(calls)+1; n++ {
		d := disk.New()
		d.Lose(1)
		d.Arm(n, nil)
		for i, call := range calls {
			// These are not counted.
			d.Size(0)
			d.Read(0, 0, 1)
			d.Down()
			d.Copy()
			d.Start()
			e := call(d)
			if i+1 < n {
				returns(t, "a call before the crash", e, errors[i])
				continue
			}
			returns(t, "the call of the crash", e, api.ErrDown)
			if !d.Down() {
				t.Error("up after the scheduled crash")
			}
			break
		}
	}
}

func TestTheLastCall(t *testing.T) {
	for i, c := range []struct {
		call func(d *disk.Disk) api.Errno
		keep []int
		s    string
	}{
		{func(d *disk.Disk) api.Errno { return d.Write(0, 1, "XYZ") }, []int{1}, "aXYZ"},
		{func(d *disk.Disk) api.Errno { return d.Write(0, 1, "XYZ") }, nil, "abc"},
		{func(d *disk.Disk) api.Errno { return d.Write(0, 62, "1234") }, []int{0, 1}, "abc" + zeros(61) + "34"},
		{func(d *disk.Disk) api.Errno { return d.Write(0, 70, "") }, []int{1}, "aBc"},
		{func(d *disk.Disk) api.Errno { return d.Write(0, -1, "x") }, []int{1}, "aBc"},
		{func(d *disk.Disk) api.Errno { return d.Write(0, limit, "x") }, []int{1}, "aBc"},
		{func(d *disk.Disk) api.Errno { return d.Write(16, 0, "x") }, []int{1}, "aBc"},
		{func(d *disk.Disk) api.Errno { return d.Sync(0) }, nil, "abc"},
		{func(d *disk.Disk) api.Errno { return d.Sync(0) }, []int{1}, "aBc"},
		{func(d *disk.Disk) api.Errno { return d.Sync(16) }, nil, "abc"},
		{func(d *disk.Disk) api.Errno { return d.Truncate(0, 2) }, nil, "abc"},
		{func(d *disk.Disk) api.Errno { return d.Truncate(0, 2) }, []int{1}, "aBc"},
		{func(d *disk.Disk) api.Errno { return d.Truncate(0, 9) }, nil, "abc"},
	} {
		d := disk.New()
		write(t, d, 0, 0, "abc")
		sync(t, d, 0)
		write(t, d, 0, 1, "B")
		d.Arm(1, c.keep)
		if e := c.call(d); e != api.ErrDown || !d.Down() {
			t.Errorf("%d: %d", i, e)
		}
		d.Start()
		if got := content(t, d, 0); got != c.s {
			t.Errorf("%d: %q", i, got)
		}
		wantPending(t, "after the crash", d, nil, nil)
		sync(t, d, 0) // the schedule is gone
	}
}

func TestASyncThatIsNotPerformedIsNotLost(t *testing.T) {
	d := disk.New()
	d.Lose(1)
	d.Arm(1, nil)
	returns(t, "Sync", d.Sync(0), api.ErrDown)
	d.Start()
	returns(t, "Sync", d.Sync(0), api.ErrLost)
	sync(t, d, 0)
}

func TestScheduleIsReplacedAndCancelled(t *testing.T) {
	for _, n := range []int{0, -1, math.MinInt} {
		d := disk.New()
		d.Arm(1, nil)
		d.Arm(n, everything)
		for range 10 {
			write(t, d, 0, 0, "a")
		}
	}
	d := disk.New()
	d.Arm(1, nil)
	d.Arm(3, everything)
	write(t, d, 0, 0, "a")
	d.Arm(2, []int{0}) // counts from now on, and keeps nothing
	write(t, d, 0, 1, "b")
	returns(t, "Write", d.Write(0, 2, "c"), api.ErrDown)
	d.Start()
	want(t, "replaced", d, 0, "")
	d.Arm(1, everything)
	d.Crash(nil)
	d.Start()
	write(t, d, 0, 0, "a")
	d.Arm(math.MaxInt, nil)
	for range 100 {
		write(t, d, 0, 0, "a")
	}
}

func TestArmWhileTheMachineIsDown(t *testing.T) {
	d := disk.New()
	d.Crash(nil)
	d.Arm(2, everything)
	// Calls while the machine is down are not counted, and a crash of it does nothing.
	returns(t, "Write", d.Write(0, 0, "a"), api.ErrDown)
	returns(t, "Sync", d.Sync(0), api.ErrDown)
	returns(t, "Truncate", d.Truncate(0, 0), api.ErrDown)
	d.Crash(nil)
	d.Start()
	write(t, d, 0, 0, "b")
	returns(t, "Write", d.Write(0, 1, "c"), api.ErrDown)
	d.Start()
	want(t, "after the crash", d, 0, "bc")
}

// P3

func TestWhatSurvivesIsNeitherChangedNorRetained(t *testing.T) {
	keep := []int{1, 0, 1, 1}
	d := disk.New()
	write(t, d, 0, 0, xs(200))
	c := d.Copy()
	d.Arm(1, keep[:2]) // what is beyond the length is not read
	e := d.Copy()
	keep[0], keep[1] = 0, 1
	returns(t, "Sync", d.Sync(0), api.ErrDown)
	returns(t, "Sync", e.Sync(0), api.ErrDown)
	keep[0], keep[1] = 1, 0
	c.Crash(keep[:2])
	for _, x := range []*disk.Disk{c, d, e} {
		x.Start()
		want(t, "after the crash", x, 0, xs(64)+zeros(64)+xs(64))
	}
	if !slices.Equal(keep, []int{1, 0, 1, 1}) {
		t.Error(keep)
	}
}

func TestWhatWasReadStays(t *testing.T) {
	d := disk.New()
	write(t, d, 0, 0, "abcdef")
	s := content(t, d, 0)
	write(t, d, 0, 0, "ABC")
	returns(t, "Truncate", d.Truncate(0, 1), api.OK)
	write(t, d, 0, 1, "zzz")
	if s != "abcdef" {
		t.Errorf("%q", s)
	}
}
