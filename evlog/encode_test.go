package evlog_test

import (
	"bytes"
	"hash/adler32"
	"slices"
	"testing"

	"hourglass/api"
	"hourglass/evlog"
)

// sealed: bytes and their sum.
func sealed(b ...byte) []byte {
	n := adler32.Checksum(b)
	return append(slices.Clone(b), byte(n>>24), byte(n>>16), byte(n>>8), byte(n))
}

// TestWholeBytes: all bytes, the sum too, written out.
func TestWholeBytes(t *testing.T) { // P3.3, P3.4
	wantBoth(t, "none", nil, []byte{0, 0, 1, 0, 1})
	wantBoth(t, "a value", []api.Event{value(2, -3)}, []byte{1, 11, 5, 0, 33, 0, 18})
	wantBoth(t, "an interrupt", []api.Event{irq(0)}, []byte{1, 1, 0, 5, 0, 3})
	wantBoth(t, "a block", []api.Event{block(1, times(16, 4)...)}, []byte{1, 6, 16, 8, 0, 66, 0, 32})
	wantBoth(t, "a higher byte of each sum", []api.Event{value(31, -64), value(32, -64)},
		[]byte{2, 127, 127, 7, 127, 4, 21, 1, 135})
}

// TestSumGoesRound: both numbers of a sum are what 65521 leaves, here of hundreds of bytes.
func TestSumGoesRound(t *testing.T) { // P3.3
	l := []api.Event{}
	rounds := [2]int{}
	for at := range api.MaxEvents {
		l = append(l, value(at, -api.MaxWord+at))
		b, e := evlog.Encode(l)
		if e != api.OK || !bytes.Equal(b, sealed(b[:len(b)-4]...)) {
			t.Fatalf("%d values: %v, %v", at+1, b, e)
		}
		plain, second := 1, 0
		for _, c := range b[:len(b)-4] {
			plain += int(c)
			second += plain
		}
		rounds[0], rounds[1] = plain/65521, second/65521
	}
	if rounds[0] < 5 || rounds[1] < 1000 {
		t.Errorf("the sums have gone round only %v times", rounds)
	}
}

// TestNumbersOfAnyKind: the words of values, and the bytes of these, where bytes become more.
func TestNumbersOfAnyKind(t *testing.T) { // P3.2
	for word, b := range map[int][]byte{
		0:                {0},
		-1:               {1},
		1:                {2},
		-2:               {3},
		2:                {4},
		-3:               {5},
		63:               {126},
		-64:              {127},
		64:               {128, 1},
		-65:              {129, 1},
		65:               {130, 1},
		127:              {254, 1},
		-128:             {255, 1},
		128:              {128, 2},
		8191:             {254, 127},
		-8192:            {255, 127},
		8192:             {128, 128, 1},
		-8193:            {129, 128, 1},
		1<<20 - 1:        {254, 255, 127},
		-1 << 20:         {255, 255, 127},
		1 << 20:          {128, 128, 128, 1},
		1<<27 - 1:        {254, 255, 255, 127},
		-1 << 27:         {255, 255, 255, 127},
		1 << 27:          {128, 128, 128, 128, 1},
		1<<34 - 1:        {254, 255, 255, 255, 127},
		-1 << 34:         {255, 255, 255, 255, 127},
		1 << 34:          {128, 128, 128, 128, 128, 1},
		-1<<34 - 1:       {129, 128, 128, 128, 128, 1},
		api.MaxWord - 1:  {254, 255, 255, 255, 255, 63},
		-api.MaxWord:     {255, 255, 255, 255, 255, 63},
		api.MaxWord:      {128, 128, 128, 128, 128, 64},
		1 - api.MaxWord:  {253, 255, 255, 255, 255, 63},
		3*128*128 + 2*64: {128, 130, 6},
	} {
		wantBoth(t, "a value", []api.Event{value(0, word)}, sealed(append([]byte{1, api.Value}, b...)...))
	}
}

// TestCountsOfEvents: the number of events, where one byte becomes two.
func TestCountsOfEvents(t *testing.T) { // P3.2, P3.4
	for n, head := range map[int][]byte{
		1:    {1},
		2:    {2},
		127:  {127},
		128:  {128, 1},
		129:  {129, 1},
		255:  {255, 1},
		256:  {128, 2},
		999:  {231, 7},
		1000: {232, 7},
	} {
		b := append(slices.Clone(head), api.Irq)
		for range n - 1 {
			b = append(b, 4+api.Irq)
		}
		wantBoth(t, "interrupts", irqs(n), sealed(b...))
	}
}

// TestCounts: how far an event is on from the one ahead, with its kind.
func TestCounts(t *testing.T) { // P3.4
	for what, c := range map[string]struct {
		l []api.Event
		b []byte
	}{
		"one byte":            {[]api.Event{irq(31)}, []byte{1, 125}},
		"one byte, a value":   {[]api.Event{value(31, 0)}, []byte{1, 127, 0}},
		"two bytes":           {[]api.Event{irq(32)}, []byte{1, 129, 1}},
		"two bytes, a value":  {[]api.Event{value(32, 0)}, []byte{1, 131, 1, 0}},
		"a block":             {[]api.Event{block(32, times(16, 0)...)}, []byte{1, 130, 1, 16, 0}},
		"the last count":      {[]api.Event{irq(2999)}, []byte{1, 221, 93}},
		"of the one ahead":    {[]api.Event{irq(30), irq(33), value(33, 1), irq(40)}, []byte{4, 121, 13, 3, 2, 29}},
		"all at one count":    {[]api.Event{irq(3), block(3, times(16, 1)...), value(3, 9)}, []byte{3, 13, 2, 16, 2, 3, 18}},
		"from first to last":  {[]api.Event{irq(0), irq(2999)}, []byte{2, 1, 221, 93}},
		"a value, then lower": {[]api.Event{value(3, 9), irq(4)}, []byte{2, 15, 18, 5}},
	} {
		wantBoth(t, what, c.l, sealed(c.b...))
	}
}

// TestRuns: the words of blocks; each run by how often, and how much above the last one.
func TestRuns(t *testing.T) { // P3.4
	for what, c := range map[string]struct {
		words []int
		b     []byte
	}{
		"one run":       {times(16, 7), []byte{16, 14}},
		"one run of 0":  {times(16, 0), []byte{16, 0}},
		"one run below": {times(16, -7), []byte{16, 13}},
		"two runs":      {append(times(10, 7), times(6, 5)...), []byte{10, 14, 6, 3}},
		"0 first":       {append(times(1, 0), times(15, 5)...), []byte{1, 0, 15, 10}},
		"0 last":        {append(times(15, 5), 0), []byte{15, 10, 1, 9}},
		"to its amount": {append(times(8, 5), times(8, -5)...), []byte{8, 10, 8, 19}},
		"back again":    {slices.Concat(times(3, 1), times(2, 2), times(11, 1)), []byte{3, 2, 2, 2, 11, 1}},
		"rising": {sixteen(1), []byte{
			1, 2, 1, 2, 1, 2, 1, 2, 1, 2, 1, 2, 1, 2, 1, 2, 1, 2, 1, 2, 1, 2, 1, 2, 1, 2, 1, 2, 1, 2, 1, 2}},
		"rising, 0 first": {sixteen(0), []byte{
			1, 0, 1, 2, 1, 2, 1, 2, 1, 2, 1, 2, 1, 2, 1, 2, 1, 2, 1, 2, 1, 2, 1, 2, 1, 2, 1, 2, 1, 2, 1, 2}},
		"two by two": {[]int{0, 0, 1, 1, 0, 0, 1, 1, 0, 0, 1, 1, 0, 0, 1, 1}, []byte{
			2, 0, 2, 2, 2, 1, 2, 2, 2, 1, 2, 2, 2, 1, 2, 2}},
		"from the least to the greatest": {append(times(1, -api.MaxWord), times(15, api.MaxWord)...), []byte{
			1, 255, 255, 255, 255, 255, 63, 15, 128, 128, 128, 128, 128, 128, 1}},
		"from the greatest to the least": {append(times(15, api.MaxWord), -api.MaxWord), []byte{
			15, 128, 128, 128, 128, 128, 64, 1, 255, 255, 255, 255, 255, 127}},
	} {
		wantBoth(t, what, []api.Event{block(0, c.words...)}, sealed(append([]byte{1, api.Block}, c.b...)...))
	}
}

// TestRunsOfEachBlock begin anew: neither a run nor the last word goes on from the block ahead.
func TestRunsOfEachBlock(t *testing.T) { // P3.4
	l := []api.Event{block(0, times(16, 3)...), block(1, times(16, 3)...), value(1, 3), block(2, times(16, 0)...)}
	wantBoth(t, "blocks", l, sealed(4, 2, 16, 6, 6, 16, 6, 3, 6, 6, 16, 0))
}

// TestMostBytes: events may be told in more bytes than Decode takes.
func TestMostBytes(t *testing.T) { // P3.4, P3.5
	var l []api.Event
	words := sixteen(0)
	for i := range words {
		words[i] = api.MaxWord * (1 - i%2*2)
	}
	for at := range api.MaxEvents {
		l = append(l, block(2*at, words...))
	}
	b, e := evlog.Encode(l)
	if e != api.OK || len(b) <= api.MaxBytes || !bytes.Equal(b, sealed(b[:len(b)-4]...)) {
		t.Errorf("%d bytes, %v", len(b), e)
	}
	wantNoEvents(t, "too many bytes", b, api.ErrSize)
}

// TestBack: drawn events are the same again.
func TestBack(t *testing.T) { // P3.4, P3.5
	d := die(34)
	for range 500 {
		l := drawn(&d)
		b, e := evlog.Encode(l)
		if e != api.OK {
			t.Fatalf("%v: %v", l, e)
		}
		if !bytes.Equal(b, sealed(b[:len(b)-4]...)) {
			t.Errorf("%v: the sum of %v", l, b)
		}
		if m, e := evlog.Decode(b); e != api.OK || !same(l, m) {
			t.Errorf("%v: Decode: %v, %v", l, m, e)
		}
	}
}
