package disk_test

import (
	"math"
	"slices"
	"testing"

	"kitbag/api"
	"kitbag/disk"
)

// model is a disk as the chapter defines it, word for word, with whole strings and lists that are searched.
type model struct {
	files, durable [16]string
	pending        [][2]int
	down           bool
	lost, armed    int
	keep           []int
}

func put(s string, at int, t string) string {
	if t == "" {
		return s
	}
	for len(s) < at {
		s += "\x00"
	}
	return s[:at] + t + s[min(at+len(t), len(s)):]
}

func (m *model) crash(keep []int) {
	if m.down {
		return
	}
	for i, p := range m.pending {
		if len(keep) > 0 && keep[i%len(keep)]&1 == 1 {
			f, at := p[0], p[1]*64
			s := m.files[f]
			m.durable[f] = put(m.durable[f], at, s[at:min(at+64, len(s))])
		}
	}
	m.files, m.pending, m.down, m.armed = m.durable, nil, true, 0
}

// strikes reports whether a call is the one of the scheduled crash.
func (m *model) strikes() bool {
	if m.armed > 0 {
		m.armed--
		return m.armed == 0
	}
	return false
}

func (m *model) clean(f int) {
	m.durable[f] = m.files[f]
	m.pending = slices.DeleteFunc(m.pending, func(p [2]int) bool { return p[0] == f })
}

func (m *model) read(f, at, size int) (string, api.Errno) {
	if m.down {
		return "", api.ErrDown
	}
	if f < 0 || f > 15 || at < 0 || size < 0 {
		return "", api.ErrArg
	}
	s := ""
	for i := range len(m.files[f]) {
		if i >= at && i-at < size {
			s += m.files[f][i : i+1]
		}
	}
	return s, api.OK
}

func (m *model) write(f, at int, s string) api.Errno {
	if m.down {
		return api.ErrDown
	}
	strikes, e := m.strikes(), api.Errno(api.OK)
	if f < 0 || f > 15 || at < 0 {
		e = api.ErrArg
	} else if at > limit || at+len(s) > limit {
		e = api.ErrFull
	} else {
		m.files[f] = put(m.files[f], at, s)
		for i := range len(s) {
			if p := [2]int{f, (at + i) / 64}; !slices.Contains(m.pending, p) {
				m.pending = append(m.pending, p)
			}
		}
	}
	if strikes {
		m.crash(m.keep)
		return api.ErrDown
	}
	return e
}

func (m *model) sync(f int) api.Errno {
	if m.down {
		return api.ErrDown
	}
	if m.strikes() {
		m.crash(m.keep)
		return api.ErrDown
	}
	if f < 0 || f > 15 {
		return api.ErrArg
	}
	if m.lost > 0 {
		m.lost--
		return api.ErrLost
	}
	m.clean(f)
	return api.OK
}

func (m *model) truncate(f, size int) api.Errno {
	if m.down {
		return api.ErrDown
	}
	if m.strikes() {
		m.crash(m.keep)
		return api.ErrDown
	}
	if f < 0 || f > 15 || size < 0 || size > len(m.files[f]) {
		return api.ErrArg
	}
	m.files[f] = m.files[f][:size]
	m.clean(f)
	return api.OK
}

func (m *model) copy() *model {
	c := *m
	c.pending = slices.Clone(m.pending)
	return &c
}

// dice gives numbers that look random, and are the same in every run.
type dice uint64

// roll returns a number from 0 to n - 1.
func (r *dice) roll(n int) int {
	*r = *r*6364136223846793005 + 1442695040888963407
	return int(uint64(*r)>>33) % n
}

// number returns an int that is most often from 0 to n - 1.
func (r *dice) number(n int) int {
	switch r.roll(60) {
	case 0:
		return -1
	case 1:
		return math.MinInt
	case 2:
		return math.MaxInt - r.roll(3)
	case 3:
		return limit + 1 + r.roll(3) // not less: the model is slow with long files
	}
	return r.roll(n)
}

// text returns bytes, of which some are 0.
func (r *dice) text() string {
	b := make([]byte, r.roll(12)*r.roll(14))
	for i := range b {
		b[i] = byte(r.roll(5) * 50)
	}
	return string(b)
}

func (r *dice) keep() []int {
	l := make([]int, r.roll(6))
	for i := range l {
		l[i] = r.number(4)
	}
	return l
}

// file returns the number of a file, most often that of one of four.
func (r *dice) file() int {
	if r.roll(20) == 0 {
		return r.number(18)
	}
	return r.roll(4) * 5
}

// step makes one call on a disk and on its model, and reports a difference.
func step(t *testing.T, r *dice, d *disk.Disk, m *model) {
	t.Helper()
	var got, e api.Errno
	what := "a call"
	switch r.roll(20) {
	default:
		what = "Write"
		f, at, s := r.file(), r.number(400), r.text()
		got, e = d.Write(f, at, s), m.write(f, at, s)
	case 0, 1, 2:
		what = "Sync"
		f := r.file()
		got, e = d.Sync(f), m.sync(f)
	case 3:
		what = "Truncate"
		f, size := r.file(), r.number(600)
		got, e = d.Truncate(f, size), m.truncate(f, size)
	case 4, 5:
		what = "Read"
		f, at, size := r.file(), r.number(600), r.number(300)
		s, x := d.Read(f, at, size)
		u, y := m.read(f, at, size)
		if got, e = x, y; s != u {
			t.Fatalf("Read(%d, %d, %d) = %q, want %q", f, at, size, s, u)
		}
	case 6:
		n := r.number(4)
		d.Lose(n)
		m.lost = max(n, 0)
	case 7, 8:
		n, keep := r.number(8), r.keep()
		d.Arm(n, keep)
		m.armed, m.keep = max(n, 0), keep
	case 9:
		keep := r.keep()
		d.Crash(keep)
		m.crash(keep)
	case 10, 11, 12:
		d.Start()
		m.down = false
	}
	if got != e || d.Down() != m.down {
		t.Fatalf("%s returns %d, want %d; down: %v, want %v", what, got, e, d.Down(), m.down)
	}
}

// compare compares what can be seen of a disk with its model.
func compare(t *testing.T, d *disk.Disk, m *model) {
	t.Helper()
	for f := -1; f < 17; f++ {
		size, s := 0, ""
		if f >= 0 && f < 16 {
			size, s = len(m.files[f]), m.files[f]
		}
		if d.Size(f) != size {
			t.Fatalf("the size of the file %d is %d, want %d", f, d.Size(f), size)
		}
		got, e := d.Read(f, 0, math.MaxInt)
		if e == api.OK && got != s {
			t.Fatalf("the file %d is %q, want %q", f, got, s)
		}
	}
}

// P2.1 to P2.4, and P4: two disks with the same calls are the same.
func TestDiskIsAsTheModel(t *testing.T) {
	for seed := range 300 {
		r := dice(seed)
		d, m := disk.New(), &model{}
		for range 150 {
			step(t, &r, d, m)
			if r.roll(20) == 0 {
				// What happens to the other one must not be seen.
				other, n := d, m
				d, m = d.Copy(), m.copy()
				if r.roll(2) == 0 {
					d, other, m, n = other, d, n, m
				}
				for range 10 {
					step(t, &r, other, n)
				}
				compare(t, other, n)
			}
			compare(t, d, m)
		}
	}
}

// history returns a machine that is up, after some calls.
func history(t *testing.T, r *dice) *disk.Disk {
	d, m := disk.New(), &model{}
	for range 5 + r.roll(25) {
		step(t, r, d, m)
	}
	d.Start()
	d.Arm(0, nil)
	d.Lose(0)
	return d
}

// P2.5: what a crash leaves of each byte, and of the length.
func TestWhatACrashLeaves(t *testing.T) {
	r := dice(1)
	for range 1000 {
		d := history(t, &r)
		c := crashed(d, r.keep()...)
		for f := range 16 {
			part, was, is := durable(t, d, f), content(t, d, f), content(t, c, f)
			if len(is) < len(part) || len(is) > len(was) {
				t.Fatalf("%d bytes are left of %d, of which %d were durable", len(is), len(was), len(part))
			}
			for i := range is {
				old := i < len(part) && is[i] == part[i] || i >= len(part) && is[i] == 0
				if !old && is[i] != was[i] {
					t.Fatalf("the byte %d of the file %d is %d", i, f, is[i])
				}
			}
			checkSectors(t, part, was, is)
		}
	}
}

// checkSectors checks that each sector survives wholly or not at all.
func checkSectors(t *testing.T, part, was, is string) {
	t.Helper()
	long := part + zeros(max(0, len(is)-len(part))) // the durable part with bytes 0 after its end
	for at := 0; at < len(is); at += 64 {
		end := min(at+64, len(is))
		survives := is[at:end] == was[at:end] && end == min(at+64, len(was))
		if !survives && is[at:end] != long[at:end] {
			t.Fatalf("the sector from %d on is torn: %q", at, is[at:end])
		}
	}
}

// P2.5: whether a sector survives does not depend on the others.
func TestSectorsSurviveIndependently(t *testing.T) {
	d := disk.New()
	write(t, d, 0, 0, xs(200))
	sync(t, d, 0)
	write(t, d, 0, 0, "abc")
	write(t, d, 0, 70, "def")
	write(t, d, 0, 130, "ghi")
	write(t, d, 0, 198, "jklm")
	for set := range 16 {
		var keep []int
		s := []byte(xs(200))
		for i, change := range []string{"abc", "def", "ghi", "jklm"} {
			keep = append(keep, set>>i&1)
			if set>>i&1 == 1 {
				at := []int{0, 70, 130, 198}[i]
				s = append(s[:at], append([]byte(change), s[min(at+len(change), len(s)):]...)...)
			}
		}
		want(t, "after a crash", crashed(d, keep...), 0, string(s))
	}
}

// P2.5: Truncate is atomic, at whichever call the machine crashes.
func TestTruncateIsAtomic(t *testing.T) {
	for n := 1; n <= 3; n++ {
		d := disk.New()
		write(t, d, 0, 0, xs(200))
		sync(t, d, 0)
		d.Arm(n, nil)
		d.Write(0, 0, "abc")
		d.Truncate(0, 100)
		d.Sync(0)
		d.Start()
		s := xs(200)
		if n == 3 {
			s = "abc" + xs(97)
		}
		want(t, "after the crash", d, 0, s)
	}
}

// P2.6: data that was synced and has not been written since is there after every crash.
func TestSyncedDataStays(t *testing.T) {
	r := dice(2)
	for range 1000 {
		d := history(t, &r)
		for f := range 16 {
			sync(t, d, f)
		}
		var files [16]string
		for f := range files {
			files[f] = content(t, d, f)
		}
		written := map[[2]int]bool{}
		for range r.roll(6) {
			f, at, s := r.roll(16), r.roll(500), r.text()
			write(t, d, f, at, s)
			for i := range len(s) {
				written[[2]int{f, at + i}] = true
			}
		}
		d = crashed(d, r.keep()...)
		for f, was := range files {
			is := content(t, d, f)
			for i := range was {
				if !written[[2]int{f, i}] && (i >= len(is) || is[i] != was[i]) {
					t.Fatalf("the byte %d of the file %d is lost", i, f)
				}
			}
		}
	}
}

// P1: no arguments make a call panic.
func TestAllArguments(t *testing.T) {
	ints := []int{math.MinInt, math.MinInt + 1, -65, -1, 0, 1, 15, 16, 63, 64, 65, limit - 1, limit, limit + 1, math.MaxInt - 1, math.MaxInt}
	for _, a := range ints {
		d := disk.New()
		for _, b := range ints {
			d.Lose(b)
			d.Arm(b, []int{a})
			for _, c := range ints {
				if s, _ := d.Read(a, b, c); s != "" {
					t.Errorf("Read(%d, %d, %d) of an empty disk is %q", a, b, c, s)
				}
			}
			d.Sync(a)
			d.Truncate(a, b)
			d.Write(a, b, "")
			d.Size(a)
			d.Crash([]int{b, a})
			d.Start()
		}
	}
}
