package journal_test

import (
	"fmt"
	"math/rand/v2"
	"slices"
	"strings"
	"testing"

	"kitbag/api"
	"kitbag/disk"
	"kitbag/journal"
)

// past is what a journal may show after a crash: the records that were there, and the one whose Append returned an error of the disk.
type past struct {
	there  []string
	last   []string // at most one
	synced int      // how many were there when Open or Sync last returned OK
}

// check checks the records that are found after a crash.
func (p *past) check(t *testing.T, what string, found []string) {
	t.Helper()
	all := append(slices.Clone(p.there), p.last...)
	if len(found) < p.synced || len(found) > len(all) || !slices.Equal(found, all[:len(found)]) {
		t.Fatalf("%s: of the records %.300q, of which %d were synced, these are left: %.300q", what, all, p.synced, found)
	}
}

// append appends a record, if the journal has not failed.
func (p *past) append(t *testing.T, j *journal.Journal, record string) {
	t.Helper()
	switch e := j.Append(record); e {
	case api.OK:
		p.there = append(p.there, record)
	case api.ErrDown:
		p.last = []string{record}
	case api.ErrState:
	default:
		t.Fatalf("Append returns %d", e)
	}
}

func (p *past) sync(j *journal.Journal) {
	if j.Sync() == api.OK {
		p.synced = len(p.there)
	}
}

// opened is the past of a journal that was just opened.
func opened(j *journal.Journal) past { return past{there: j.All(), synced: j.Len()} }

// difficult are records of which torn forms could be taken for others: bytes 0, digits, and forms.
func difficult() []string {
	return []string{
		"a", zeros(70), "", form("a") + form("b"), strings.Repeat("7", 90), "\x00" + strings.Repeat("b", 64) + "\x00",
		zeros(64) + "0:,0;0:,0;", strings.Repeat("0:,0;", 20), "1:", "x" + zeros(130), ";", "end",
	}
}

// bits returns what Crash keeps if the pending sector i survives where set has the bit i.
func bits(set, n int) []int {
	keep := make([]int, n)
	for i := range keep {
		keep[i] = set >> i & 1
	}
	return keep
}

// P3.6: a crash at each call, with each set of the sectors that survive.
func TestCrashesAtEachCall(t *testing.T) {
	// What is done with the next record: a is Append, s is Sync too, l a Sync that is lost.
	for _, calls := range []string{"asaaaaaaaas", "aaaaaaaaa", "aasaasaasaas", "sssssssss", "aaal", "lsa", "aaaaas"} {
		for n := 1; n < 25; n++ {
			for set := range 256 {
				d := disk.New()
				j := open(t, d, 5)
				p := opened(j)
				d.Arm(n, bits(set, 8))
				for i, c := range calls {
					p.append(t, j, difficult()[i])
					if c == 'l' {
						d.Lose(1)
					}
					if c != 'a' {
						p.sync(j)
					}
				}
				d.Crash(bits(set, 8))
				d.Lose(0)
				d.Start()
				what := fmt.Sprintf("%s, the call %d, the survivors %b", calls, n, set)
				p.check(t, what, open(t, d, 5).All())
			}
		}
	}
}

// P3.6: whichever bytes of a form that are not 0 become 0, it is no form any more.
func TestBytesThatAreMissing(t *testing.T) {
	for _, record := range difficult() {
		s := []byte(form(record))
		for from := range s {
			for to := from + 1; to <= len(s); to++ {
				torn := slices.Clone(s)
				clear(torn[from:to])
				d := with(t, form("z")+string(torn)+form("z"))
				if got := open(t, d, 5).All(); len(got) != 1 && !slices.Equal(torn, s) {
					t.Fatalf("%q has the records %q", torn, got)
				}
			}
		}
	}
}

// text returns a record of which some bytes are 0, or a difficult one.
func text(r *rand.Rand) string {
	if r.IntN(4) == 0 {
		l := difficult()
		return l[r.IntN(len(l))]
	}
	b := make([]byte, r.IntN(10)*r.IntN(15))
	for i := range b {
		b[i] = "\x00\x01019:,;[\xff"[r.IntN(10)]
	}
	return string(b)
}

func keeping(r *rand.Rand) []int { return bits(r.IntN(1024), r.IntN(10)) }

// reopen brings the machine up and opens the journal; some attempts fail, and the machine may crash in them.
func reopen(t *testing.T, r *rand.Rand, d *disk.Disk) *journal.Journal {
	t.Helper()
	ready := func() {
		d.Arm(0, nil)
		d.Lose(0)
		d.Start()
	}
	for range r.IntN(3) {
		ready()
		switch r.IntN(3) {
		case 0:
			d.Lose(1)
			fails(t, d, 5, api.ErrLost)
		case 1:
			d.Arm(1, keeping(r))
			fails(t, d, 5, api.ErrDown)
		case 2: // the call is that of Truncate, if the file is torn
			d.Arm(2, keeping(r))
			if _, e := journal.Open(d, 5); e != api.OK && e != api.ErrDown {
				t.Fatalf("Open returns %d", e)
			}
		}
		if r.IntN(2) == 0 {
			d.Crash(keeping(r))
		}
	}
	ready()
	return open(t, d, 5)
}

// P3.6: long histories with many crashes, lost syncs, and another file beside that of the journal.
func TestManyCrashes(t *testing.T) {
	for seed := range uint64(300) {
		r := rand.New(rand.NewPCG(seed, 3))
		d := disk.New()
		j := open(t, d, 5)
		p := opened(j)
		for step := range 200 {
			switch r.IntN(20) {
			default:
				p.append(t, j, text(r))
			case 0, 1:
				p.sync(j)
			case 2:
				d.Lose(r.IntN(3))
			case 3:
				d.Arm(r.IntN(10), keeping(r))
			case 4, 5:
				d.Write(r.IntN(5), r.IntN(500), text(r))
			case 6:
				d.Crash(keeping(r))
			}
			if d.Down() || r.IntN(40) == 0 {
				j = reopen(t, r, d)
				p.check(t, fmt.Sprintf("seed %d, step %d", seed, step), j.All())
				p = opened(j)
			}
		}
	}
}

// P3.7: opening a file again changes nothing.
func TestOpeningAgain(t *testing.T) {
	for s, records := range torn() {
		d := with(t, s)
		open(t, d, 5)
		for _, c := range []*disk.Disk{d, d, crashed(d), crashed(d, 1)} {
			wantRecords(t, "opened again", open(t, c, 5), records...)
			wantFile(t, "opened again", c, 5, forms(records...))
			wantDurable(t, "opened again", c, 5, forms(records...))
		}
	}
}

// recordsOf returns the records of a string, word for word: it looks for the form of each record that could stand at the position.
func recordsOf(s string) []string {
	var records []string
next:
	for {
		for n := range min(len(s), 20001) {
			digits := len(fmt.Sprint(n)) + 1
			if len(s) < digits+n {
				break
			}
			if record := s[digits : digits+n]; strings.HasPrefix(s, form(record)) {
				records = append(records, record)
				s = s[len(form(record)):]
				continue next
			}
		}
		return records
	}
}

// shuffled returns a string that is made of forms, and of changed parts of them.
func shuffled(r *rand.Rand) string {
	s := ""
	for range r.IntN(6) {
		part := form(text(r))
		switch r.IntN(12) {
		case 0:
			part = part[r.IntN(len(part)):]
		case 1:
			part = part[:r.IntN(len(part))]
		case 2:
			b := []byte(part)
			b[r.IntN(len(b))] = "\x000123456789-+:,; a"[r.IntN(18)]
			part = string(b)
		}
		s += part
	}
	return s
}

// P3.1 and P3.7: the records of a string are those of the definition, and the first ones of every string that extends it.
func TestRecordsOfAString(t *testing.T) {
	r := rand.New(rand.NewPCG(7, 7))
	for range 3000 {
		s := shuffled(r)
		longer := s + shuffled(r)
		short, long := open(t, with(t, s), 5).All(), open(t, with(t, longer), 5).All()
		if !slices.Equal(short, recordsOf(s)) || !slices.Equal(long, recordsOf(longer)) {
			t.Fatalf("%q has the records %q, and %q has the records %q", s, short, longer, long)
		}
		if len(short) > len(long) || !slices.Equal(short, long[:len(short)]) {
			t.Fatalf("%q has the records %q, but %q has the records %q", s, short, longer, long)
		}
	}
}

// P4: the same calls have the same results.
func TestTheSameCalls(t *testing.T) {
	run := func() string {
		r := rand.New(rand.NewPCG(4, 4))
		d := disk.New()
		j := open(t, d, 5)
		s := ""
		for range 300 {
			s += fmt.Sprint(j.Append(text(r)), j.Sync(), j.Len(), " ")
			if r.IntN(10) == 0 {
				d.Lose(r.IntN(2))
				d.Crash(keeping(r))
				d.Start()
				k, e := journal.Open(d, 5)
				if s += fmt.Sprint(e, " "); k != nil {
					j = k
				}
			}
		}
		return s + fmt.Sprintf("%q", j.All()) + content(t, d, 5)
	}
	if run() != run() {
		t.Error("the same calls have different results")
	}
}
