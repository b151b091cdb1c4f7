package run_test

import (
	"slices"
	"testing"

	"hourglass/api"
	"hourglass/cpu"
	"hourglass/run"
)

// wantTape: Check tells these events of a tape.
func wantTape(t *testing.T, what string, tape api.Tape, want ...api.Event) {
	t.Helper()
	if l, e := run.Check(tape); e != api.OK || !sameEvents(l, want) {
		t.Errorf("%s: Check: %v, %v; want %v, OK", what, l, e, want)
	}
}

func TestCheckTellsEvents(t *testing.T) { // P5.4
	all := []api.Event{irq(0), block(0, page(3)), value(0, -5), value(4, 5), irq(api.MaxCount - 1)}
	whole := counts(0, api.Words)
	for what, c := range map[string]struct {
		tape api.Tape
		want []api.Event
	}{
		"none":                {api.Tape{Events: encoded()}, nil},
		"none, by hand":       {api.Tape{Events: []byte{0, 0, 1, 0, 1}}, nil},
		"none of the longest": {api.Tape{Events: encoded(), Count: api.MaxCount, Image: whole}, nil},
		"all kinds":           {api.Tape{Events: encoded(all...), Count: api.MaxCount}, all},
		"the last count":      {api.Tape{Events: encoded(all[:4]...), Count: 5}, all[:4]},
		"edges of words":      {api.Tape{Events: encoded(irq(0)), Count: 1, Image: []int{-api.MaxWord, api.MaxWord}}, all[:1]},
	} {
		wantTape(t, what, c.tape, c.want...)
	}
}

// TestCheckAsks nothing of what the guest does: events need not be such as it asks for, and it may have ended.
func TestCheckAsks(t *testing.T) { // P5.4, P5.5
	l := []api.Event{value(0, 5), block(1, page(1)), irq(6)}
	tape := api.Tape{Image: image(nop()), Events: encoded(l...), Count: 7}
	wantTape(t, "not asked", tape, l...)
	want, _ := cpu.New(tape.Image)
	wantGuest(t, "not asked", tape, 0, want)
	want.Count, want.Pc = 1, 1
	wantGuest(t, "not asked", tape, 1, want)
	want.Count, want.End = 2, api.Halted
	for n := 2; n <= 7; n++ {
		wantGuest(t, "not asked", tape, n, want)
	}
}

func TestTapesRefused(t *testing.T) { // P5.4, P5.5
	none, bad := encoded(), []byte{1, 2, 3, 4, 5, 6}
	for what, c := range map[string]struct {
		tape api.Tape
		want api.Errno
	}{
		"no events at all":           {api.Tape{}, api.ErrShort},
		"the image is too long":      {api.Tape{Image: make([]int, api.Words+1), Events: none}, api.ErrSize},
		"that, ahead of all":         {api.Tape{Image: make([]int, api.Words+1), Events: bad, Count: -1}, api.ErrSize},
		"no word, ahead of events":   {api.Tape{Image: []int{noWords[0]}, Events: bad}, api.ErrRange},
		"too many bytes":             {api.Tape{Events: make([]byte, api.MaxBytes+1)}, api.ErrSize},
		"too few bytes":              {api.Tape{Events: make([]byte, 4)}, api.ErrShort},
		"no sum":                     {api.Tape{Events: bad}, api.ErrSum},
		"no kind":                    {api.Tape{Events: []byte{1, 0, 0, 4, 0, 2}}, api.ErrKind},
		"at the count":               {api.Tape{Events: encoded(irq(7)), Count: 7}, api.ErrOrder},
		"above the count":            {api.Tape{Events: encoded(value(8, 1)), Count: 7}, api.ErrOrder},
		"the last one alone":         {api.Tape{Events: encoded(irq(0), irq(6), value(7, 1)), Count: 7}, api.ErrOrder},
		"the first one, too":         {api.Tape{Events: encoded(block(0, page(1)), irq(9)), Count: 0}, api.ErrOrder},
		"one of no instructions":     {api.Tape{Events: encoded(irq(0)), Count: 0}, api.ErrOrder},
		"the last of all counts":     {api.Tape{Events: encoded(irq(api.MaxCount - 1)), Count: api.MaxCount - 1}, api.ErrOrder},
		"bytes ahead of their order": {api.Tape{Events: append(encoded(irq(7)), 0), Count: 7}, api.ErrSum},
	} {
		wantTapeRefused(t, what, c.tape, c.want)
	}
	for _, n := range noCounts {
		wantTapeRefused(t, "no count", api.Tape{Events: none, Count: n}, api.ErrRange)
		wantTapeRefused(t, "no count, ahead of events", api.Tape{Events: bad, Count: n}, api.ErrRange)
		wantTapeRefused(t, "no count, and an event", api.Tape{Events: encoded(irq(5)), Count: n}, api.ErrRange)
	}
	for _, n := range noWords {
		for _, l := range [][]int{{n}, {1, n}, append(make([]int, api.Words-1), n)} {
			wantTapeRefused(t, "no word", api.Tape{Image: l, Events: none, Count: 9}, api.ErrRange)
		}
	}
}

func TestReplayCounts(t *testing.T) { // P5.5
	for _, count := range []int{0, 1, 9, api.MaxCount} {
		tape := api.Tape{Image: always(), Events: encoded(), Count: count}
		for _, n := range append([]int{-1, count + 1, count + 2}, far...) {
			if m, e := run.Replay(tape, n); e != api.ErrRange || !noGuest(m) {
				t.Errorf("to %d of %d: %v, %v; want nothing, ErrRange", n, count, m, e)
			}
		}
		for _, n := range []int{0, count / 2, max(0, count-1), count} {
			want, _ := cpu.New(always())
			want.Count, want.Pc = n, n%2
			wantGuest(t, "nothing", tape, n, want)
		}
	}
}

// TestReplayByHand: each step has what events with its count tell, and no other one.
func TestReplayByHand(t *testing.T) { // P5.5
	words := image(ask(1, api.Clock), ask(2, api.Clock), ask(3, api.Key), ask(4, api.Key), jmp(-4))
	fresh, _ := cpu.New(words)
	tape := api.Tape{Image: words, Count: 4, Events: encoded(value(1, 7), irq(2), value(2, -9))}
	want := fresh
	wantGuest(t, "at first", tape, 0, want)
	want = cpu.Copy(want)
	want.Pc, want.Count = 1, 1
	wantGuest(t, "no word is told: 0", tape, 1, want)
	want = cpu.Copy(want)
	want.Pc, want.Count, want.Regs[2] = 2, 2, 7
	wantGuest(t, "a word", tape, 2, want)
	want = cpu.Copy(want)
	want.Pc, want.Count, want.Regs[3], want.Wait = 3, 3, -9, true
	wantGuest(t, "a word and an interrupt", tape, 3, want)
	want = cpu.Copy(want)
	want.Pc, want.Count = 4, 4
	wantGuest(t, "0 again, not the last word", tape, 4, want)
}

// TestReplayBlocks: a block that is wanted comes as it is told; one that is not wanted does nothing.
func TestReplayBlocks(t *testing.T) { // P5.5
	words := image(li(1, 5), tell(1, api.Disk), nop(), nop(), nop(), nop())
	tape := api.Tape{Image: words, Count: 6, Events: encoded(block(1, page(10)), block(3, page(20)), block(4, page(30)))}
	for n, first := range []int{0, 0, 0, 0, 20, 20, 20} {
		m, e := run.Replay(tape, n)
		want := blank()
		if first > 0 {
			want = page(first)
		}
		if e != api.OK || !slices.Equal(m.Mem[80:96], want) || m.Count != n {
			t.Errorf("to %d: %v, %v", n, m, e)
		}
		if came := n >= 4; came != (m.Ready == 1) || came != m.Wait || (n == 2 || n == 3) != (m.Want == 5) {
			t.Errorf("to %d: %v", n, m)
		}
	}
	never := api.Tape{Image: words, Count: 6, Events: encoded()}
	if m, e := run.Replay(never, 6); e != api.OK || m.Want != 5 || m.Ready != 0 {
		t.Errorf("no block is told: %v, %v", m, e)
	}
}

// TestReplayIsRecording: what was recorded is replayed, at each count, though the world has gone.
func TestReplayIsRecording(t *testing.T) { // P5.2, P5.3, P5.4, P5.5
	d := die(55)
	for range 60 {
		words, w, n := drawnImage(&d), drawnWorld(&d), d.below(120)
		tape, end := recorded(t, "drawn", words, w, n)
		_, events := model(words, w, n)
		wantTape(t, "drawn", tape, events...)
		wantGuest(t, "in the end", tape, tape.Count, end)
		for k := range tape.Count {
			_, m := recorded(t, "for less", words, w, k)
			wantGuest(t, "drawn", tape, k, m)
		}
	}
}

// TestReplayLong: as many instructions and events as may be.
func TestReplayLong(t *testing.T) { // P5.5
	words := image(ask(1, api.Clock), nop(), jmp(-2))
	tape, end := recorded(t, "long", words, api.World{Values: counts(1, api.MaxEvents)}, api.MaxCount)
	if l, e := run.Check(tape); e != api.OK || len(l) != api.MaxEvents {
		t.Errorf("%d events, %v", len(l), e)
	}
	wantGuest(t, "long", tape, api.MaxCount, end)
	for _, n := range []int{1, 2999, 2998, 2997, 1500} {
		if m, e := run.Replay(tape, n); e != api.OK || m.Regs[1] != (n+2)/3 {
			t.Errorf("to %d: %v, %v", n, m, e)
		}
	}
}
