package evlog_test

import (
	"bytes"
	"slices"
	"testing"

	"hourglass/api"
	"hourglass/evlog"
)

// wantInside: Decode refuses bytes with the right sum so.
func wantInside(t *testing.T, what string, want api.Errno, b ...byte) {
	t.Helper()
	wantNoEvents(t, what, sealed(b...), want)
}

// without an end: so many bytes, behind each of which another one follows.
func without(n int) []byte { return bytes.Repeat([]byte{128}, n) }

func TestDecodeSize(t *testing.T) { // P3.5
	wantNoEvents(t, "too many, no sum", make([]byte, api.MaxBytes+1), api.ErrSize)
	wantNoEvents(t, "too many", sealed(make([]byte, api.MaxBytes-3)...), api.ErrSize)
	wantNoEvents(t, "far too many", sealed(make([]byte, 9*api.MaxBytes)...), api.ErrSize)
	wantNoEvents(t, "as many as may be, no sum", make([]byte, api.MaxBytes), api.ErrSum)
	wantNoEvents(t, "as many as may be", sealed(make([]byte, api.MaxBytes-4)...), api.ErrForm)
}

// TestDecodeMostBytes: events in just so many bytes as may be, and in one more.
func TestDecodeMostBytes(t *testing.T) { // P3.5
	l := mostBytes(t)
	b, e := evlog.Encode(l)
	if e != api.OK || len(b) != api.MaxBytes {
		t.Fatalf("%d bytes, %v", len(b), e)
	}
	wantBoth(t, "most", l, b)
	last := &l[len(l)-1]
	*last = value(last.At, 64)
	b, e = evlog.Encode(l)
	if e != api.OK || len(b) != api.MaxBytes+1 {
		t.Fatalf("%d bytes, %v", len(b), e)
	}
	wantNoEvents(t, "one more", b, api.ErrSize)
}

// mostBytes: events that are told in MaxBytes, the last one of them a value in one byte.
func mostBytes(t *testing.T) []api.Event {
	t.Helper()
	words := sixteen(0)
	for i := range words {
		words[i] = api.MaxWord * (1 - i%2*2)
	}
	var l []api.Event
	more := func(size int, x func(at int) api.Event) {
		for len(l) < api.MaxEvents {
			if b, e := evlog.Encode(l); e != api.OK || len(b) >= size {
				return
			}
			l = append(l, x(len(l)))
		}
	}
	more(api.MaxBytes-300, func(at int) api.Event { return block(at, words...) })
	more(api.MaxBytes-4, func(at int) api.Event { return value(at, 0) })
	more(api.MaxBytes-2, irq)
	return append(l, value(len(l), 0))
}

func TestDecodeShort(t *testing.T) { // P3.5
	wantNoEvents(t, "nil", nil, api.ErrShort)
	for n := range 5 {
		wantNoEvents(t, "0s", make([]byte, n), api.ErrShort)
		wantNoEvents(t, "255s", bytes.Repeat([]byte{255}, n), api.ErrShort)
	}
	wantNoEvents(t, "a sum of nothing", []byte{0, 0, 0, 1}, api.ErrShort)
	wantNoEvents(t, "five", make([]byte, 5), api.ErrSum)
}

// TestDecodeSum: each byte that is another one, or in another order, is found.
func TestDecodeSum(t *testing.T) { // P3.3, P3.5
	for _, l := range [][]api.Event{nil, {irq(0)}, {irq(3), block(3, sixteen(4)...), value(9, api.MaxWord)}} {
		b, e := evlog.Encode(l)
		if e != api.OK {
			t.Fatal(e)
		}
		for i := range b {
			for change := 1; change < 256; change++ {
				wrong := slices.Clone(b)
				wrong[i] += byte(change)
				wantNoEvents(t, "another byte", wrong, api.ErrSum)
			}
		}
		end := len(b) - 4
		wantNoEvents(t, "lower bytes first", append(slices.Clone(b[:end]), b[end+1], b[end], b[end+3], b[end+2]), api.ErrSum)
		wantNoEvents(t, "a byte ahead", append([]byte{0}, b...), api.ErrSum)
		wantNoEvents(t, "a byte behind", append(slices.Clone(b), 0), api.ErrSum)
	}
	wantNoEvents(t, "the numbers of the sum the other way round", []byte{1, 1, 0, 3, 0, 5}, api.ErrSum)
	wantNoEvents(t, "a wrong sum, and wrong bytes", append(without(9), 0, 0, 0, 0), api.ErrSum)
}

// TestDecodeNotTheRest: a number and 65521 more leave the same, but only the number is left.
func TestDecodeNotTheRest(t *testing.T) { // P3.3, P3.5
	first := append(bytes.Repeat([]byte{255}, 256), 240) // with 1 that is 65521
	if b := sealed(first...); b[len(b)-2] != 0 || b[len(b)-1] != 0 {
		t.Fatalf("the sum ends with %v", b[len(b)-2:])
	}
	wantNoEvents(t, "the sum", sealed(first...), api.ErrForm)
	wantAboveRefused(t, sealed(first...), 2)
	d := die(39)
	found := 0
	for range 50000 {
		body := bytes.Repeat([]byte{byte(d.below(256)), byte(d.below(256))}, 30+d.below(9))
		if b := sealed(body...); b[len(body)] == 0 && b[len(body)+1] < 15 {
			found++
			wantAboveRefused(t, b, 0)
		}
	}
	if found == 0 {
		t.Error("no such sum was found")
	}
}

// wantAboveRefused: the number at that place of a sum, and 65521 more, is not the sum's.
func wantAboveRefused(t *testing.T, b []byte, place int) {
	t.Helper()
	sum := b[len(b)-4:]
	n := int(sum[place])<<8 + int(sum[place+1]) + 65521
	sum[place], sum[place+1] = byte(n>>8), byte(n)
	wantNoEvents(t, "a sum above what is left", b, api.ErrSum)
}

// TestDecodeEndsEarly: events without their last bytes, wherever that is.
func TestDecodeEndsEarly(t *testing.T) { // P3.5
	d := die(35)
	for range 100 {
		b, _ := evlog.Encode(drawn(&d))
		for n := 1; n < len(b)-4; n++ {
			wantInside(t, "too early", api.ErrShort, b[:n]...)
		}
	}
	wantInside(t, "no event", api.ErrShort, 1)
	wantInside(t, "one event too few", api.ErrShort, 2, 1)
	wantInside(t, "no word", api.ErrShort, 1, 3)
	wantInside(t, "no run", api.ErrShort, 1, 2)
	wantInside(t, "no second run", api.ErrShort, 1, 2, 15, 0)
	for n := 1; n <= 7; n++ {
		wantInside(t, "no end of the count", api.ErrShort, without(n)...)
		wantInside(t, "no end of a kind", api.ErrShort, append([]byte{1}, without(n)...)...)
		wantInside(t, "no end of a word", api.ErrShort, append([]byte{1, 3}, without(n)...)...)
		wantInside(t, "no end of how often", api.ErrShort, append([]byte{1, 2}, without(n)...)...)
		wantInside(t, "no end of a run's word", api.ErrShort, append([]byte{1, 2, 16}, without(n)...)...)
	}
}

// places of numbers: what stands ahead of one, and what behind it.
var places = []struct {
	what          string
	ahead, behind []byte
}{
	{"how many", nil, []byte{1}},
	{"a count and a kind", []byte{1}, []byte{3, 1}},
	{"a word", []byte{1, 3}, nil},
	{"how often", []byte{1, 2}, []byte{2}},
	{"a run's word", []byte{1, 2, 16}, nil},
	{"a later run's word", []byte{1, 2, 15, 2, 1}, nil},
}

// TestDecodeNeedlessBytes: a number with 0s behind it, and one in more than seven bytes.
func TestDecodeNeedlessBytes(t *testing.T) { // P3.2, P3.5
	for _, p := range places {
		refused := func(what string, number ...byte) {
			t.Helper()
			wantInside(t, p.what+": "+what, api.ErrForm, slices.Concat(p.ahead, number, p.behind)...)
			wantInside(t, p.what+": "+what+", then no more", api.ErrForm, slices.Concat(p.ahead, number)...)
		}
		refused("0 in two", 128, 0)
		refused("1 in two", 129, 0)
		refused("127 in two", 255, 0)
		for n := 1; n <= 6; n++ {
			refused("0 in more", append(without(n), 0)...)
		}
		refused("128 in three", 128, 129, 0)
		refused("eight", append(without(7), 1)...)
		refused("eight, the last one 0", append(without(7), 0)...)
		refused("eight without an end", without(8)...)
		refused("nine", append(without(8), 1)...)
		refused("ten", append(without(9), 1)...)
		refused("far more", append(without(99), 1)...)
		refused("far more without an end", without(99)...)
	}
}

// TestDecodeSevenBytes: numbers in seven bytes are read, whatever they are; what they mean may be refused.
func TestDecodeSevenBytes(t *testing.T) { // P3.5
	most := []byte{255, 255, 255, 255, 255, 255, 127}
	least := append(without(6), 1)
	for _, n := range [][]byte{most, least} {
		wantInside(t, "events", api.ErrSize, n...)
		wantInside(t, "a value", api.ErrRange, append([]byte{1, 3}, n...)...)
		wantInside(t, "how often", api.ErrForm, slices.Concat([]byte{1, 2}, n, []byte{2})...)
		wantInside(t, "a block", api.ErrRange, append([]byte{1, 2, 16}, n...)...)
	}
	wantInside(t, "a value far on", api.ErrRange, append(append([]byte{1}, most...), 0)...)
	wantInside(t, "no kind, far on", api.ErrKind, append([]byte{1}, least...)...)
}

func TestDecodeCountsEvents(t *testing.T) { // P3.5
	wantInside(t, "one too many, and no event", api.ErrSize, 233, 7)
	wantInside(t, "one too many, ahead of no kind", api.ErrSize, 233, 7, 0)
	b := []byte{233, 7, 1}
	for range api.MaxEvents {
		b = append(b, 5)
	}
	wantInside(t, "one too many", api.ErrSize, b...)
	wantInside(t, "one too many, ahead of a needless byte", api.ErrSize, 233, 7, 128, 0)
	wantInside(t, "the most, but no event", api.ErrShort, 232, 7)
}

func TestDecodeKinds(t *testing.T) { // P3.5
	wantInside(t, "at 0", api.ErrKind, 1, 0)
	wantInside(t, "at 1", api.ErrKind, 1, 4)
	wantInside(t, "at 32", api.ErrKind, 1, 128, 1)
	wantInside(t, "ahead of bytes that are left", api.ErrKind, 1, 0, 7, 7)
	wantInside(t, "ahead of the next one that is short", api.ErrKind, 2, 4)
	wantInside(t, "the second one", api.ErrKind, 2, 1, 4)
	wantInside(t, "the second one, ahead of the order", api.ErrKind, 3, 1, 1, 0)
	wantInside(t, "behind a count that may not be", api.ErrKind, 2, 225, 93, 0)
}

func TestDecodeRuns(t *testing.T) { // P3.5
	for what, b := range map[string][]byte{
		"none of the first one":        {0, 2, 16, 2},
		"none of the second one":       {3, 2, 0, 2, 13, 2},
		"none behind the last but one": {15, 2, 0, 2, 1, 2},
		"17 of one":                    {17, 2},
		"17 of 0":                      {17, 0},
		"one more than are left":       {15, 2, 2, 2},
		"far more than are left":       {15, 2, 255, 255, 255, 255, 255, 255, 127, 2},
		"the same again":               {8, 2, 8, 0},
		"the same behind one":          {1, 2, 15, 0},
		"0 behind one":                 {1, 0, 15, 0},
		"0 again":                      {8, 0, 8, 0},
		"the same later on":            {4, 2, 4, 2, 8, 0},
		"none, and the same":           {4, 2, 0, 0},
	} {
		wantInside(t, what, api.ErrForm, append([]byte{1, 2}, b...)...)
		wantInside(t, what+", then no kind", api.ErrForm, slices.Concat([]byte{2, 2}, b, []byte{0})...)
	}
}

// TestDecodeRunsAreReadFirst: how often, and the word, then what is wrong with them.
func TestDecodeRunsAreReadFirst(t *testing.T) { // P3.5
	wantInside(t, "none, but no word", api.ErrShort, 1, 2, 0)
	wantInside(t, "none, but no end of the word", api.ErrShort, 1, 2, 0, 128)
	wantInside(t, "17, but no word", api.ErrShort, 1, 2, 17)
	wantInside(t, "too many later on, but no word", api.ErrShort, 1, 2, 15, 2, 2)
	wantInside(t, "too many later on, but no end of the word", api.ErrShort, 1, 2, 15, 2, 2, 255)
}

func TestDecodeBytesLeft(t *testing.T) { // P3.5
	wantInside(t, "behind none", api.ErrForm, 0, 0)
	wantInside(t, "behind none, many", api.ErrForm, 0, 1, 2, 3)
	wantInside(t, "behind an interrupt", api.ErrForm, 1, 1, 1)
	wantInside(t, "behind a value", api.ErrForm, 1, 3, 2, 0)
	wantInside(t, "behind a block", api.ErrForm, 1, 2, 16, 2, 1)
	wantInside(t, "ahead of what Check refuses", api.ErrForm, 2, 5, 1, 0)
	d := die(36)
	for range 100 {
		b, _ := evlog.Encode(drawn(&d))
		wantInside(t, "a drawn one", api.ErrForm, append(slices.Clone(b[:len(b)-4]), byte(d.below(256)))...)
	}
}

// TestDecodeChecks: bytes in form whose events may not be.
func TestDecodeChecks(t *testing.T) { // P3.5
	wantInside(t, "at MaxCount", api.ErrRange, 1, 225, 93)
	wantInside(t, "at MaxCount by two", api.ErrRange, 2, 221, 93, 5)
	wantInside(t, "above MaxWord", api.ErrRange, 1, 3, 130, 128, 128, 128, 128, 64)
	wantInside(t, "below -MaxWord", api.ErrRange, 1, 3, 129, 128, 128, 128, 128, 64)
	wantInside(t, "a run above MaxWord", api.ErrRange, 1, 2, 15, 128, 128, 128, 128, 128, 64, 1, 2)
	wantInside(t, "a run below -MaxWord", api.ErrRange, 1, 2, 15, 255, 255, 255, 255, 255, 63, 1, 1)
	wantInside(t, "a run above MaxWord, then back", api.ErrRange,
		1, 2, 14, 128, 128, 128, 128, 128, 64, 1, 2, 1, 1)
	wantInside(t, "one kind twice", api.ErrOrder, 2, 5, 1)
	wantInside(t, "a lower kind", api.ErrOrder, 2, 7, 0, 1)
	wantInside(t, "a value twice", api.ErrOrder, 2, 7, 0, 3, 0)
	wantInside(t, "a block behind a value", api.ErrOrder, 2, 7, 0, 2, 16, 0)
	wantInside(t, "event by event", api.ErrOrder, 3, 5, 1, 225, 93)
	wantInside(t, "event by event", api.ErrRange, 3, 225, 93, 1, 1)
}

// TestDecodeGoesOn: what Check refuses comes behind all that is wrong in the bytes.
func TestDecodeGoesOn(t *testing.T) { // P3.5
	for _, ahead := range [][]byte{{5, 1}, {225, 93, 5}} {
		wantInside(t, "then an end", api.ErrShort, append([]byte{3}, ahead...)...)
		wantInside(t, "then a needless byte", api.ErrForm, append(append([]byte{3}, ahead...), 129, 0)...)
		wantInside(t, "then no kind", api.ErrKind, append(append([]byte{3}, ahead...), 4)...)
		wantInside(t, "then no run", api.ErrForm, append(append([]byte{3}, ahead...), 2, 0, 0)...)
		wantInside(t, "then a byte that is left", api.ErrForm, append(append([]byte{2}, ahead...), 4)...)
	}
}

// TestDecodeIsEncodeBack: of whatever bytes events are told, those bytes are told of the events, so no two have the same.
func TestDecodeIsEncodeBack(t *testing.T) { // P3.5
	told := 0
	back := func(b []byte) {
		l, e := evlog.Decode(b)
		if e != api.OK {
			if len(l) != 0 {
				t.Errorf("%v: %v with %v", b, l, e)
			}
			return
		}
		told++
		if c, e := evlog.Encode(l); e != api.OK || !bytes.Equal(b, c) {
			t.Errorf("%v: %v; then %v, %v", b, l, c, e)
		}
	}
	for a := range 256 {
		back(sealed(byte(a)))
		for b := range 256 {
			back(sealed(byte(a), byte(b)))
			for _, c := range []byte{0, 1, 2, 127, 128, 129, 255} {
				back(sealed(byte(a), byte(b), c))
			}
		}
	}
	d := die(37)
	for range 4000 {
		b, _ := evlog.Encode(drawn(&d))
		b = b[:len(b)-4]
		for range d.below(3) {
			b[d.below(len(b))] += byte(1 + d.below(255))
		}
		back(sealed(b...))
	}
	if told < 1500 {
		t.Errorf("only %d of them were events", told)
	}
}

// TestDecodeAnyBytes ends, and tells nothing with an error.
func TestDecodeAnyBytes(t *testing.T) { // P3.5
	d := die(38)
	for range 5000 {
		b := make([]byte, d.below(40))
		for i := range b {
			b[i] = byte(d.below(256) >> d.below(8))
		}
		for _, c := range [][]byte{b, sealed(b...)} {
			if l, e := evlog.Decode(c); e != api.OK && len(l) != 0 || e == api.OK && evlog.Check(l) != api.OK {
				t.Errorf("%v: %v, %v", c, l, e)
			}
		}
	}
}
