package evlog_test

import (
	"testing"

	"hourglass/api"
	"hourglass/evlog"
)

func TestCheckTakesWhatMayBe(t *testing.T) { // P3.1
	for what, l := range map[string][]api.Event{
		"nil":                        nil,
		"none":                       {},
		"an interrupt":               {irq(0)},
		"one with Data that are not": {{Kind: api.Irq, Data: []int{}}},
		"a block":                    {block(0, sixteen(0)...)},
		"a value":                    {value(0, 0)},
		"at the last count":          {irq(api.MaxCount - 1)},
		"the greatest word":          {value(4, api.MaxWord)},
		"the least word":             {value(4, -api.MaxWord)},
		"a block of the greatest":    {block(4, times(16, api.MaxWord)...)},
		"a block of the least":       {block(4, times(16, -api.MaxWord)...)},
		"all kinds at one count":     {irq(7), block(7, sixteen(0)...), value(7, 1)},
		"an interrupt and a value":   {irq(7), value(7, 1)},
		"a lower kind later on":      {value(7, 1), irq(8)},
		"one kind later on":          {irq(7), irq(8), value(9, 1), value(10, 1)},
		"as many as may be":          irqs(api.MaxEvents),
	} {
		if e := evlog.Check(l); e != api.OK {
			t.Errorf("%s: %v", what, e)
		}
	}
}

func TestCheckCountsEvents(t *testing.T) { // P3.1
	wantRefused(t, "one too many", irqs(api.MaxEvents+1), api.ErrSize)
	wantRefused(t, "far too many", irqs(api.MaxCount+9), api.ErrSize)
	wrong := irqs(api.MaxEvents + 1)
	wrong[0] = api.Event{At: -1, Kind: 9, Data: []int{noWords[0]}}
	wantRefused(t, "too many, the first one is none", wrong, api.ErrSize)
	wantRefused(t, "too many that are nothing", make([]api.Event, api.MaxEvents+1), api.ErrSize)
	last := irqs(api.MaxEvents)
	last[api.MaxEvents-1].Kind = 0
	wantRefused(t, "the last one of the most", last, api.ErrKind)
}

func TestCheckKinds(t *testing.T) { // P3.1
	for _, kind := range append([]int{0, -1, -2, -3, 4, 5, 7}, far...) {
		wantRefused(t, "no kind", []api.Event{{Kind: kind}}, api.ErrKind)
		wantRefused(t, "no kind, with a word", []api.Event{{Kind: kind, Data: []int{1}}}, api.ErrKind)
		wantRefused(t, "no kind, and no count", []api.Event{{At: -1, Kind: kind, Data: noWords}}, api.ErrKind)
		wantRefused(t, "no kind, not in order", []api.Event{irq(5), {At: 4, Kind: kind}}, api.ErrKind)
	}
}

func TestCheckCounts(t *testing.T) { // P3.1
	for _, at := range append([]int{-1, api.MaxCount, api.MaxCount + 1}, far...) {
		for _, x := range []api.Event{irq(at), block(at, sixteen(0)...), value(at, 1)} {
			wantRefused(t, "no count", []api.Event{x}, api.ErrRange)
			wantRefused(t, "no count behind another one", []api.Event{irq(5), x}, api.ErrRange)
		}
		wantRefused(t, "no count, and too few words", []api.Event{block(at, 1)}, api.ErrRange)
		wantRefused(t, "no count, and too many words", []api.Event{{At: at, Kind: api.Irq, Data: []int{1}}}, api.ErrRange)
	}
}

func TestCheckWords(t *testing.T) { // P3.1
	for _, w := range noWords {
		wantRefused(t, "a value", []api.Event{value(3, w)}, api.ErrRange)
		for place := range api.PageWords {
			x := block(3, sixteen(0)...)
			x.Data[place] = w
			wantRefused(t, "a block", []api.Event{x}, api.ErrRange)
		}
		wantRefused(t, "an interrupt, ahead of its size", []api.Event{{Kind: api.Irq, Data: []int{w}}}, api.ErrRange)
		wantRefused(t, "a value, ahead of its size", []api.Event{{Kind: api.Value, Data: []int{1, w}}}, api.ErrRange)
		wantRefused(t, "a block, ahead of its size", []api.Event{block(0, append(sixteen(0), w)...)}, api.ErrRange)
		wantRefused(t, "ahead of the order", []api.Event{irq(4), value(3, w)}, api.ErrRange)
	}
}

func TestCheckSizes(t *testing.T) { // P3.1
	fits := map[int]int{api.Irq: 0, api.Block: api.PageWords, api.Value: 1}
	for kind, size := range fits {
		for _, n := range []int{0, 1, 2, api.PageWords - 1, api.PageWords, api.PageWords + 1, 999} {
			x := api.Event{At: 3, Kind: kind, Data: make([]int, n)}
			if n != size {
				wantRefused(t, "size", []api.Event{x}, api.ErrSize)
				wantRefused(t, "size ahead of the order", []api.Event{irq(4), x}, api.ErrSize)
			} else if e := evlog.Check([]api.Event{x}); e != api.OK {
				t.Errorf("kind %d with %d words: %v", kind, n, e)
			}
		}
	}
}

func TestCheckOrder(t *testing.T) { // P3.1
	kinds := func(at int) []api.Event { return []api.Event{irq(at), block(at, sixteen(0)...), value(at, 1)} }
	for i, ahead := range kinds(5) {
		for k, x := range kinds(5) {
			l := []api.Event{ahead, x}
			if k <= i {
				wantRefused(t, "the same count", l, api.ErrOrder)
			} else if e := evlog.Check(l); e != api.OK {
				t.Errorf("%v: %v", l, e)
			}
		}
		for _, x := range append(kinds(4), kinds(0)...) {
			wantRefused(t, "a count below", []api.Event{ahead, x}, api.ErrOrder)
			wantRefused(t, "a count below, later on", []api.Event{irq(2), ahead, x}, api.ErrOrder)
		}
		for _, x := range append(kinds(6), kinds(api.MaxCount-1)...) {
			if e := evlog.Check([]api.Event{ahead, x}); e != api.OK {
				t.Errorf("%v, %v: %v", ahead, x, e)
			}
		}
	}
}

// TestCheckEventByEvent: what is wrong with one event comes ahead of all that is wrong with the next one.
func TestCheckEventByEvent(t *testing.T) { // P3.1
	wrong := []struct {
		x    api.Event
		want api.Errno
	}{
		{api.Event{At: 5, Kind: 4}, api.ErrKind},
		{irq(-1), api.ErrRange},
		{value(9, noWords[0]), api.ErrRange},
		{block(9, 1), api.ErrSize},
		{irq(1), api.ErrOrder},
	}
	for _, c := range wrong {
		for _, next := range wrong {
			wantRefused(t, "event by event", []api.Event{irq(2), c.x, next.x}, c.want)
		}
		wantRefused(t, "the last one", []api.Event{irq(2), irq(3), value(3, 1), c.x}, c.want)
	}
}
