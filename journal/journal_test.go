package journal_test

import (
	"fmt"
	"math"
	"slices"
	"strings"
	"testing"

	"kitbag/api"
	"kitbag/disk"
	"kitbag/journal"
)

var (
	everything = []int{1}
	noFiles    = []int{-1, 16, 17, 1 << 32, math.MinInt, math.MaxInt}
	tooLong    = strings.Repeat("x", 20001)
)

// form returns the form of a record, written from its definition.
func form(record string) string {
	sum := 0
	for i := range len(record) {
		sum += (i + 1) * int(record[i])
	}
	return fmt.Sprintf("%d:%s,%d;", len(record), record, sum)
}

// forms returns what a file with some records contains.
func forms(records ...string) string {
	var b strings.Builder
	for _, record := range records {
		b.WriteString(form(record))
	}
	return b.String()
}

func zeros(n int) string { return strings.Repeat("\x00", n) }

func returns(t *testing.T, what string, got, e api.Errno) {
	t.Helper()
	if got != e {
		t.Errorf("%s returns %d, want %d", what, got, e)
	}
}

// with returns a disk with some bytes, which are durable, in the file 5.
func with(t *testing.T, s string) *disk.Disk {
	t.Helper()
	d := disk.New()
	returns(t, "Write", d.Write(5, 0, s), api.OK)
	returns(t, "Sync", d.Sync(5), api.OK)
	return d
}

// open opens the journal in a file, which must succeed.
func open(t *testing.T, d *disk.Disk, file int) *journal.Journal {
	t.Helper()
	j, e := journal.Open(d, file)
	if j == nil || e != api.OK {
		t.Fatalf("Open of the file %d returns %d", file, e)
	}
	return j
}

// fails opens the journal in a file, which must not succeed.
func fails(t *testing.T, d *disk.Disk, file int, e api.Errno) {
	t.Helper()
	if j, got := journal.Open(d, file); j != nil || got != e {
		t.Errorf("Open of the file %d returns a journal (%v) and %d, want %d", file, j != nil, got, e)
	}
}

func add(t *testing.T, j *journal.Journal, records ...string) {
	t.Helper()
	for _, record := range records {
		returns(t, "Append", j.Append(record), api.OK)
	}
}

// wantRecords checks the list of a journal with all calls that show it.
func wantRecords(t *testing.T, what string, j *journal.Journal, records ...string) {
	t.Helper()
	if got := j.All(); !slices.Equal(got, records) || j.Len() != len(records) {
		t.Errorf("%s: there are %d records: %.300q, want %.300q", what, j.Len(), got, records)
	}
	for i, record := range records {
		if got := j.Get(i); got != record {
			t.Errorf("%s: the record %d is %.300q, want %.300q", what, i, got, record)
		}
	}
	for _, i := range []int{-1, len(records), len(records) + 1, math.MinInt, math.MaxInt} {
		if got := j.Get(i); got != "" {
			t.Errorf("%s: there is a record %d: %.300q", what, i, got)
		}
	}
}

// content returns the bytes of a file of a machine that is up.
func content(t *testing.T, d *disk.Disk, file int) string {
	t.Helper()
	s, e := d.Read(file, 0, math.MaxInt)
	if e != api.OK {
		t.Fatalf("Read of the file %d returns %d", file, e)
	}
	return s
}

func wantFile(t *testing.T, what string, d *disk.Disk, file int, s string) {
	t.Helper()
	if got := content(t, d, file); got != s {
		t.Errorf("%s: the file %d has %d bytes: %.300q, want %.300q", what, file, len(got), got, s)
	}
}

// crashed returns a copy of the disk after a crash and a start.
func crashed(d *disk.Disk, keep ...int) *disk.Disk {
	c := d.Copy()
	c.Crash(keep)
	c.Start()
	return c
}

// wantDurable checks what a crash leaves of a file if nothing pending survives.
func wantDurable(t *testing.T, what string, d *disk.Disk, file int, s string) {
	t.Helper()
	wantFile(t, what+", after a crash", crashed(d), file, s)
}

// The definitions, and P3.1

func TestMax(t *testing.T) {
	if journal.Max != 1048576 {
		t.Error(journal.Max)
	}
}

func TestSum(t *testing.T) {
	for record, want := range map[string]int{
		"":                  0,
		"a":                 97,
		"ab":                293,
		"ba":                292,
		"aa":                291,
		"\x00":              0,
		"\x00\x00\x01":      3,
		"\x01\x00\x00":      1,
		"\x80\xff":          128 + 510,
		"\u00e9":            0xc3 + 2*0xa9, // bytes, not letters
		"\n;,:":             10 + 2*59 + 3*44 + 4*58,
		zeros(99) + "\x02":  200,
		zeros(50000) + "\n": 500010,
		// More than a record may have: 255 * n * (n + 1) / 2
		strings.Repeat("\xff", 20000):  51002550000,
		strings.Repeat("\xff", 100000): 1275012750000,
	} {
		if got := journal.Sum(record); got != want {
			t.Errorf("Sum of %.30q is %d, want %d", record, got, want)
		}
	}
}

func TestOpenWithoutAFile(t *testing.T) {
	d := with(t, form("a")+"torn")
	for range 2 {
		d.Lose(1)
		d.Arm(2, nil)
		for _, file := range noFiles {
			fails(t, d, file, api.ErrArg)
		}
		d.Crash(nil) // then the same while the machine is down
	}
	d.Start()
	wantFile(t, "without a file", d, 5, form("a")+"torn")
	d.Arm(2, nil)
	fails(t, d, 16, api.ErrArg)
	returns(t, "the first call on the disk", d.Sync(0), api.ErrLost)
	returns(t, "the second call on the disk", d.Sync(0), api.ErrDown)
}

func TestOpenOfEachFile(t *testing.T) {
	d := disk.New()
	for file := range 16 {
		j := open(t, d, file)
		wantRecords(t, "empty", j)
		add(t, j, fmt.Sprint(file))
	}
	for file := range 16 {
		wantFile(t, "one record", d, file, form(fmt.Sprint(file)))
		wantRecords(t, "one record", open(t, d, file), fmt.Sprint(file))
	}
}

// torn are files, and the records at the beginning of each.
func torn() map[string][]string {
	long := strings.Repeat("y", 20000)
	files := map[string][]string{
		"":                           nil,
		"0:,0;":                      {""},
		"0:,0;0:,0;":                 {"", ""},
		"2:ab,293;":                  {"ab"},
		"2:ab,293;1:a,98;":           {"ab"}, // the example of the chapter
		"1:a,98;1:b,98;":             nil,    // nothing is found after what is no form
		"1:a,96;":                    nil,
		"1:a,097;":                   nil,
		"1:a,-97;":                   nil,
		"1:a,+97;":                   nil,
		"1:a,;":                      nil,
		"1:a,97,":                    nil,
		"1:a;97;":                    nil,
		"1;a,97;":                    nil,
		"01:a,97;":                   nil,
		"+1:a,97;":                   nil,
		"-1:a,97;":                   nil,
		"0:a,97;":                    nil,
		"2:a,97;":                    nil,
		" 1:a,97;":                   nil,
		"x1:a,97;":                   nil,
		"1:a,97; 1:b,98;":            {"a"},
		"1:a,97;\x00":                {"a"},
		"1:a,97;1":                   {"a"},
		"1:a,97;1:":                  {"a"},
		"1:a,97;1:b":                 {"a"},
		"1:a,97;1:b,":                {"a"},
		"1:a,97;1:b,9":               {"a"},
		"1:a,97;1:b,98":              {"a"},
		"1:a,97;1:b,98;":             {"a", "b"},
		"1:a,97;0:,":                 {"a"},
		"1:a,97;0:,1;":               {"a"},
		"1:\x00,97;1:b,98;":          nil,
		"1:\x00,0;1:b,98;":           {"\x00", "b"},
		"2:ba,293;":                  nil, // the bytes of ab in another order
		"2:\x00\x00,0;2:":            {"\x00\x00"},
		"7:1:a,97;,1660;":            {"1:a,97;"}, // a record that is a form itself
		"7:1:a,97;,1659;0:,":         nil,
		"9223372036854775807:a,97;":  nil,
		"9223372036854775808:a,97;":  nil,
		"1:a,18446744073709551713;":  nil, // 97 more than an int can count
		"18446744073709551617:a,97;": nil,

		form(long):                             {long},
		form(long) + form(tooLong) + form("a"): {long},
		form(tooLong):                          nil,
		form("") + form(tooLong[1:]) + form("\xff"):  {"", tooLong[1:], "\xff"},
		form("a") + strings.Repeat("x", 100) + "1:a": {"a"},
		strings.Repeat("0", 30000):                   nil,
	}
	for n := range len(form("abc,;:")) { // a form of which the end is missing
		s := form("abc,;:")[:n]
		files[form("z")+s] = []string{"z"}
		files[form("z")+s+zeros(16-n)] = []string{"z"}
	}
	return files
}

func TestOpenReadsTheRecords(t *testing.T) {
	for s, records := range torn() {
		d := with(t, s)
		returns(t, "Write", d.Write(4, 0, "another file"), api.OK)
		j := open(t, d, 5)
		what := fmt.Sprintf("the file %.40q", s)
		wantRecords(t, what, j, records...)
		wantFile(t, what, d, 5, forms(records...))
		wantDurable(t, what, d, 5, forms(records...))
		wantFile(t, what, d, 4, "another file")
		wantDurable(t, what, d, 4, "")
		add(t, j, "n", "")
		wantRecords(t, what, j, append(records, "n", "")...)
		wantFile(t, what, d, 5, forms(append(records, "n", "")...))
	}
}

func TestOpenSyncs(t *testing.T) {
	d := disk.New()
	returns(t, "Write", d.Write(5, 0, forms("a", "b")), api.OK)
	returns(t, "Write", d.Write(6, 0, forms("c")), api.OK)
	wantDurable(t, "before", d, 5, "")
	wantRecords(t, "unsynced", open(t, d, 5), "a", "b")
	wantDurable(t, "after", d, 5, forms("a", "b"))
	wantDurable(t, "another file", d, 6, "")
}

func TestOpenWhileTheMachineIsDown(t *testing.T) {
	d := with(t, form("a")+"torn")
	d.Crash(nil)
	for file := range 16 {
		fails(t, d, file, api.ErrDown)
	}
	d.Start()
	wantFile(t, "down", d, 5, form("a")+"torn")
	wantRecords(t, "up", open(t, d, 5), "a")
}

func TestOpenWithALostSync(t *testing.T) {
	d := disk.New()
	returns(t, "Write", d.Write(5, 0, form("a")+"torn"), api.OK)
	d.Lose(2)
	for range 2 {
		fails(t, d, 5, api.ErrLost)
		wantFile(t, "lost", d, 5, form("a")+"torn")
		wantDurable(t, "lost", d, 5, "")
	}
	wantRecords(t, "not lost", open(t, d, 5), "a")
	wantFile(t, "not lost", d, 5, form("a"))
}

// TestCallsOfOpen counts the calls on the disk: one, or two if the file is torn.
func TestCallsOfOpen(t *testing.T) {
	for s, calls := range map[string]int{"": 1, form("a"): 1, forms("a", "", "b"): 1, "torn": 2, form("a") + "\x00": 2, form("a") + "1:": 2} {
		for n := 1; n <= calls; n++ {
			d := disk.New()
			returns(t, "Write", d.Write(5, 0, s), api.OK)
			d.Arm(n, nil)
			fails(t, d, 5, api.ErrDown)
			if !d.Down() {
				t.Errorf("%q: the machine is up", s)
			}
			d.Start()
			if n == 1 { // the crash comes before the sync, which is first
				wantFile(t, "not synced", d, 5, "")
			} else {
				wantFile(t, "not truncated", d, 5, s)
			}
		}
		d := with(t, s)
		d.Arm(calls+1, nil)
		open(t, d, 5)
		returns(t, fmt.Sprintf("%q: the next call", s), d.Write(0, 0, "x"), api.ErrDown)
	}
}

func TestOpenOfALongFile(t *testing.T) {
	s := strings.Repeat("0:,0;", (1<<24)/5) + "x"
	d := with(t, s)
	j := open(t, d, 5)
	if j.Len() != (1<<24)/5 || d.Size(5) != len(s)-1 {
		t.Errorf("there are %d records, and the file has %d bytes", j.Len(), d.Size(5))
	}
	// It is longer than Append makes a list.
	returns(t, "Append", j.Append(""), api.ErrFull)
	returns(t, "Append", j.Append(tooLong), api.ErrRange)
	returns(t, "Sync", j.Sync(), api.OK)
}

// P3.2

func TestAppend(t *testing.T) {
	d := disk.New()
	j := open(t, d, 5)
	var records []string
	for i, record := range []string{"ab", "", "ab", "1:a,97;", "\x00\xff\n", strings.Repeat("z", 100), zeros(70), tooLong[1:], "", "end"} {
		add(t, j, record)
		records = append(records, record)
		what := fmt.Sprintf("after the record %d", i)
		wantRecords(t, what, j, records...)
		wantFile(t, what, d, 5, forms(records...))
		wantDurable(t, what, d, 5, "") // Append does not sync
		wantRecords(t, what+", opened", open(t, d.Copy(), 5), records...)
	}
}

// The examples of the chapter (that of a torn file is in torn).
func TestExamples(t *testing.T) {
	d := disk.New()
	add(t, open(t, d, 0), "ab", "")
	wantFile(t, "the example", d, 0, "2:ab,293;0:,0;")
}

func TestJournalsOfOneDisk(t *testing.T) {
	d := disk.New()
	a, b := open(t, d, 0), open(t, d, 15)
	for i := range 20 {
		add(t, a, fmt.Sprint("a", i))
		add(t, b, "b")
	}
	returns(t, "Sync", a.Sync(), api.OK)
	wantDurable(t, "synced", d, 0, forms(a.All()...))
	wantDurable(t, "not synced", d, 15, "")
	if a.Len() != 20 || b.Len() != 20 || a.Get(19) != "a19" || content(t, d, 15) != strings.Repeat(form("b"), 20) {
		t.Errorf("%q %q", a.All(), b.All())
	}
	d.Lose(1)
	returns(t, "Sync", b.Sync(), api.ErrLost)
	returns(t, "Append", b.Append("c"), api.ErrState)
	add(t, a, "the other one has not failed")
}

func TestAppendRefusesLongRecords(t *testing.T) {
	d := disk.New()
	j := open(t, d, 5)
	add(t, j, "a")
	d.Arm(2, nil)
	for range 3 { // no call on the disk, and no error of it
		returns(t, "Append", j.Append(tooLong), api.ErrRange)
		returns(t, "Append", j.Append(tooLong+tooLong), api.ErrRange)
	}
	wantRecords(t, "refused", j, "a")
	wantFile(t, "refused", d, 5, form("a"))
	add(t, j, tooLong[1:])
	returns(t, "Append", j.Append("b"), api.ErrDown)
	wantRecords(t, "down", j, "a", tooLong[1:])
}

// filled returns a journal with room for some bytes (less than 7000).
func filled(t *testing.T, d *disk.Disk, room int) *journal.Journal {
	t.Helper()
	j := open(t, d, 5)
	for range 52 {
		add(t, j, zeros(20000)) // 20009 bytes
	}
	add(t, j, zeros(8100-room)) // 8108-room bytes
	if d.Size(5) != journal.Max-room {
		t.Fatalf("the file has %d bytes", d.Size(5))
	}
	return j
}

func TestAppendIntoAFullJournal(t *testing.T) {
	for room, fits := range map[int]string{0: "", 1: "", 4: "", 5: form(""), 6: form("\x00"), 7: form("a"), 8: form("z"), 9: form("ab")} {
		d := disk.New()
		j := filled(t, d, room)
		records, s := j.All(), content(t, d, 5)
		d.Arm(2, nil)
		for _, record := range []string{"", "\x00", "a", "z", "ab", "abc", tooLong[1:]} { // no call on the disk
			if len(form(record)) > room {
				returns(t, fmt.Sprintf("Append of %.20q with room for %d bytes", record, room), j.Append(record), api.ErrFull)
			}
		}
		returns(t, "Append", j.Append(tooLong), api.ErrRange)
		wantRecords(t, "full", j, records...)
		wantFile(t, "full", d, 5, s)
		if fits != "" {
			record := fits[2:strings.LastIndex(fits, ",")]
			add(t, j, record)
			wantFile(t, "room", d, 5, s+fits)
			d.Arm(0, nil)
			wantRecords(t, "room, opened", open(t, d.Copy(), 5), append(records, record)...)
		}
	}
}

func TestAFullJournalIsFullAlsoWhileTheMachineIsDown(t *testing.T) {
	d := disk.New()
	j := filled(t, d, 0)
	d.Crash(everything)
	returns(t, "Append", j.Append(""), api.ErrFull)
	returns(t, "Append", j.Append(tooLong), api.ErrRange)
	returns(t, "Sync", j.Sync(), api.ErrDown)
	returns(t, "Append", j.Append(""), api.ErrState)
	returns(t, "Append", j.Append(tooLong), api.ErrState)
}

func TestManyRecords(t *testing.T) {
	d := disk.New()
	j := open(t, d, 5)
	n := 0
	for j.Append("") == api.OK {
		n++
	}
	if n != journal.Max/5 || j.Len() != n || d.Size(5) != 5*n {
		t.Errorf("%d records", n)
	}
	if k := open(t, d, 5); k.Len() != n || k.Get(n-1) != "" {
		t.Errorf("%d records after opening", k.Len())
	}
}

// checkFailed checks that each call on a journal returns what it does after an error of the disk, and makes no call on the disk.
func checkFailed(t *testing.T, d *disk.Disk, j *journal.Journal, records ...string) {
	t.Helper()
	for range 2 {
		for _, record := range []string{"", "a", tooLong} {
			returns(t, "Append", j.Append(record), api.ErrState)
		}
		returns(t, "Sync", j.Sync(), api.ErrState)
		wantRecords(t, "failed", j, records...)
	}
}

func TestAppendWithAnErrorOfTheDisk(t *testing.T) {
	for _, keep := range [][]int{nil, everything} {
		d := disk.New()
		j := open(t, d, 5)
		add(t, j, "a")
		returns(t, "Sync", j.Sync(), api.OK)
		add(t, j, "b")
		d.Arm(1, keep)
		returns(t, "Append", j.Append("c"), api.ErrDown)
		checkFailed(t, d, j, "a", "b")
		d.Start()
		if keep == nil {
			wantRecords(t, "nothing survives", open(t, d, 5), "a")
		} else {
			wantRecords(t, "everything survives", open(t, d, 5), "a", "b", "c")
		}
	}
}

func TestAppendWhileTheMachineIsDown(t *testing.T) {
	d := disk.New()
	j := open(t, d, 5)
	add(t, j, "a")
	d.Crash(nil)
	returns(t, "Append", j.Append(tooLong), api.ErrRange) // not an error of the disk
	returns(t, "Append", j.Append("b"), api.ErrDown)
	checkFailed(t, d, j, "a")
}

func TestErrorsOfTheDiskAreForEver(t *testing.T) {
	d := disk.New()
	j := open(t, d, 5)
	add(t, j, "a")
	d.Lose(1)
	returns(t, "Sync", j.Sync(), api.ErrLost)
	d.Arm(1, nil)
	checkFailed(t, d, j, "a")
	if d.Down() {
		t.Error("a journal that has failed makes calls on the disk")
	}
	d.Arm(0, nil)
	wantFile(t, "failed", d, 5, form("a"))
	wantDurable(t, "failed", d, 5, "")
	k := open(t, d, 5)
	add(t, k, "b")
	wantRecords(t, "opened again", k, "a", "b")
}

// P3.3

func TestSync(t *testing.T) {
	d := disk.New()
	j := open(t, d, 5)
	returns(t, "Sync without records", j.Sync(), api.OK)
	var records []string
	for i := range 5 {
		record := strings.Repeat("abc", 20*i)
		add(t, j, record)
		wantDurable(t, "before the sync", d, 5, forms(records...))
		records = append(records, record)
		returns(t, "Sync", j.Sync(), api.OK)
		wantDurable(t, "after the sync", d, 5, forms(records...))
		wantRecords(t, "after the sync", j, records...)
		returns(t, "a second Sync", j.Sync(), api.OK)
	}
}

func TestSyncWithAnErrorOfTheDisk(t *testing.T) {
	d := disk.New()
	j := open(t, d, 5)
	add(t, j, "a")
	d.Arm(1, nil)
	returns(t, "Sync", j.Sync(), api.ErrDown)
	checkFailed(t, d, j, "a")
	d = disk.New()
	j = open(t, d, 5)
	add(t, j, "a")
	d.Crash(everything)
	returns(t, "Sync", j.Sync(), api.ErrDown)
	checkFailed(t, d, j, "a")
	d = disk.New()
	j = open(t, d, 5)
	add(t, j, "a")
	d.Lose(2)
	returns(t, "Sync", j.Sync(), api.ErrLost)
	checkFailed(t, d, j, "a")
	fails(t, d, 5, api.ErrLost) // of the two lost syncs only one was used
	open(t, d, 5)
}

// P3.4: TestAppend and the others check Len, Get and All, also after errors; these are the journals that were opened.

func TestTheListOfAnOpenedJournal(t *testing.T) {
	j := open(t, with(t, forms("a", "", "bc")+"torn"), 5)
	if j.Len() != 3 || j.Get(0) != "a" || j.Get(1) != "" || j.Get(2) != "bc" || !slices.Equal(j.All(), []string{"a", "", "bc"}) {
		t.Errorf("%q", j.All())
	}
	wantRecords(t, "an empty journal", open(t, disk.New(), 0))
}

// P3.5, P3

func TestAllIsACopy(t *testing.T) {
	d := disk.New()
	j := open(t, d, 5)
	// Slices with room for more may be shared by accident: it depends on their length.
	for n := range 20 {
		want := j.All()
		a, b := j.All(), j.All()
		for i := range a {
			a[i] = "changed"
		}
		_ = append(a, "added")
		wantRecords(t, "after changes of a result", j, want...)
		add(t, j, fmt.Sprint(n))
		_ = append(b, "added")
		if !slices.Equal(b, want) {
			t.Errorf("a result has changed: %q, want %q", b, want)
		}
		wantRecords(t, "appended", j, append(want, fmt.Sprint(n))...)
	}
	want := j.All()
	k := open(t, d, 5)
	k.All()[0] = "changed"
	wantRecords(t, "opened", k, want...)
}

// P1: no arguments make a call panic.
func TestAllArguments(t *testing.T) {
	for _, file := range append([]int{0, 1, 15}, noFiles...) {
		for s := range torn() {
			d := with(t, s)
			journal.Sum(s)
			j, e := journal.Open(d, file)
			if (j == nil) == (e == api.OK) {
				t.Errorf("a journal (%v) with %d", j != nil, e)
			}
			if e != api.OK {
				continue
			}
			j.Append(s)
			j.Sync()
			for _, i := range []int{math.MinInt, -1, 0, 1, 2, math.MaxInt} {
				j.Get(i)
			}
		}
	}
}
