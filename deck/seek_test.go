package deck_test

import (
	"slices"
	"testing"

	"hourglass/api"
	"hourglass/cpu"
	"hourglass/deck"
	"hourglass/run"
)

// wantSeek: with enough frames the guests at these counts are those that Replay tells.
func wantSeek(t *testing.T, what string, every, keep int, tape api.Tape, l ...int) []api.Machine {
	t.Helper()
	got, e := deck.Seek(api.Setup{Frames: enough(keep), Every: every, Keep: keep}, tape, l)
	wantGuests(t, what, tape, l, got, e)
	return got
}

// recorded in a world: a tape that may be.
func recorded(t *testing.T, words []int, w api.World, n int) api.Tape {
	t.Helper()
	tape, _, e := run.Record(words, w, n)
	if e != api.OK {
		t.Fatal(e)
	}
	return tape
}

func upTo(n int) []int {
	l := make([]int, n+1)
	for i := range l {
		l[i] = i
	}
	return l
}

func backFrom(n int) []int {
	l := upTo(n)
	slices.Reverse(l)
	return l
}

// TestSeekByHand: guests that are reckoned by hand, not by Replay.
func TestSeekByHand(t *testing.T) { // P6.2
	words := image(ask(1, api.Clock), tell(1, api.Console), st(1, 7, 40), jmp(-3))
	tape := recorded(t, words, api.World{Values: []int{5, 6, 7}}, 12)
	fresh, _ := cpu.New(words)
	got := wantSeek(t, "by hand", 2, 2, tape, 12, 0, 7, 3)
	if len(got) != 4 {
		t.Fatal("no guests")
	}
	for i, c := range []struct {
		count, pc, reg, mem int
		out                 []int
	}{{12, 0, 7, 7, []int{5, 6, 7}}, {0, 0, 0, 0, nil}, {7, 3, 6, 6, []int{5, 6}}, {3, 3, 5, 5, []int{5}}} {
		want := cpu.Copy(fresh)
		want.Count, want.Pc, want.Regs[1], want.Mem[40], want.Out = c.count, c.pc, c.reg, c.mem, c.out
		if !sameGuest(got[i], want) {
			t.Errorf("at %d: %v; want %v", c.count, got[i], want)
		}
	}
}

// TestSeekAnyOrder: whatever checkpoints there are.
func TestSeekAnyOrder(t *testing.T) { // P6.2, P6.3
	tape := recorded(t, writer(), api.World{}, 60)
	for _, every := range []int{1, 2, 7, 30, 59, 60, 61, api.MaxCount} {
		for _, keep := range []int{1, 2, api.MaxPoints} {
			wantSeek(t, "on", every, keep, tape, upTo(60)...)
			wantSeek(t, "back", every, keep, tape, backFrom(60)...)
			wantSeek(t, "to and fro", every, keep, tape, 60, 0, 59, 1, 30, 30, 29, 31, 60, 60, 0, 0, 7, 14, 13, 6)
			wantSeek(t, "one", every, keep, tape, 37)
		}
	}
}

// TestSeekNothing: no count, no guest; the tape is asked all the same.
func TestSeekNothing(t *testing.T) { // P6.2
	tape := recorded(t, writer(), api.World{}, 10)
	wantSeek(t, "nil", 3, 2, tape)
	got, e := deck.Seek(api.Setup{Frames: 64, Every: 3, Keep: 2}, tape, []int{})
	wantGuests(t, "not nil", tape, nil, got, e)
	got, e = deck.Seek(api.Setup{Frames: 64, Every: 3, Keep: 2}, api.Tape{}, nil)
	wantRefused(t, "no tape", got, e, api.ErrShort)
}

// TestSeekNoInstructions: a tape of none has one count.
func TestSeekNoInstructions(t *testing.T) { // P6.2
	tape := api.Tape{Image: writer(), Events: encoded()}
	wantSeek(t, "none", 1, 1, tape, 0, 0)
	got, e := deck.Seek(api.Setup{Frames: 200, Every: 1, Keep: 1}, tape, []int{1})
	wantRefused(t, "none", got, e, api.ErrRange)
}

// TestSeekEnded: a guest that has ended stays, though the tape goes on and tells more.
func TestSeekEnded(t *testing.T) { // P6.2, P6.3
	for what, c := range map[string]struct {
		words []int
		end   int
	}{
		"Halt":    {image(nop(), st(7, 7, 90), nop()), api.Halted},
		"BadCode": {append(image(nop(), st(7, 7, 90), nop()), api.MaxWord), api.BadCode},
		"BadAt":   {image(nop(), st(7, 7, 90), nop(), ask(1, 9)), api.BadAt},
		"BadPage": {image(nop(), nop(), api.Instr{Op: api.Map, A: 1}), api.BadPage},
	} {
		tape := api.Tape{Image: c.words, Count: 20, Events: encoded(
			api.Event{At: 2, Kind: api.Irq},
			api.Event{At: 9, Kind: api.Irq},
			api.Event{At: 9, Kind: api.Block, Data: make([]int, api.PageWords)},
			api.Event{At: 12, Kind: api.Value, Data: []int{7}},
		)}
		for _, every := range []int{1, 2, 3, 4, 5, 20} {
			got := wantSeek(t, what, every, 2, tape, 20, 3, 12, 4, 5, 0, 9, 10, 20, 19)
			if len(got) == 0 || got[0].End != c.end || got[0].Count != 4 {
				t.Errorf("%s: %d guests; want the first one to end so at 4", what, len(got))
			}
			wantSeek(t, what, every, 2, tape, upTo(20)...)
			wantSeek(t, what, every, 2, tape, backFrom(20)...)
		}
	}
}

// TestSeekBlocks: blocks and tables of pages are of the guest's memory, too.
func TestSeekBlocks(t *testing.T) { // P6.2, P6.3
	table := make([]int, api.PageWords)
	for page := range table {
		table[page] = 48 + (page*5)%api.Pages
	}
	words := image(li(1, 4), tell(1, api.Disk), nop(), nop(), api.Instr{Op: api.Map, A: 1}, li(2, 33), st(2, 2, 0),
		tell(2, api.Console), st(2, 2, 16), li(2, -1), api.Instr{Op: api.Map, A: 2}, jmp(-11))
	w := api.World{Blocks: [][]int{table, table, table, table}, Delays: []int{1, 0, 0, 1}}
	tape := recorded(t, words, w, 40)
	for _, every := range []int{1, 3, 10} {
		got := wantSeek(t, "blocks", every, 3, tape, backFrom(tape.Count)...)
		if len(got) == 0 || !slices.Equal(got[0].Mem[64:66], table[:2]) || got[0].Mem[10*api.PageWords+1] != 33 {
			t.Errorf("no block came, or no table was asked: %d guests", len(got))
		}
		wantSeek(t, "blocks", every, 3, tape, tape.Count, 2, 38, 20, 5, 6, 7, 19)
	}
}

// TestSeekLong: as many instructions as may be.
func TestSeekLong(t *testing.T) { // P6.2, P6.3
	tape := recorded(t, writer(), api.World{}, api.MaxCount)
	if tape.Count != api.MaxCount {
		t.Fatalf("only %d instructions", tape.Count)
	}
	for _, every := range []int{1, 100, 150, 2999, api.MaxCount} {
		wantSeek(t, "long", every, api.MaxPoints, tape, api.MaxCount, 0, 2999, 1500, api.MaxCount, 1499)
	}
}

// TestSeekRefusesTapes: what run's Check refuses, ahead of counts.
func TestSeekRefusesTapes(t *testing.T) { // P6.2
	late := encoded(api.Event{At: 7, Kind: api.Irq})
	for what, c := range map[string]struct {
		tape api.Tape
		want api.Errno
	}{
		"no events at all":      {api.Tape{Count: 5}, api.ErrShort},
		"the image is too long": {api.Tape{Image: make([]int, api.Words+1), Events: encoded(), Count: 5}, api.ErrSize},
		"no word":               {api.Tape{Image: []int{api.MaxWord + 1}, Events: encoded(), Count: 5}, api.ErrRange},
		"no count":              {api.Tape{Events: encoded(), Count: -1}, api.ErrRange},
		"too many instructions": {api.Tape{Events: encoded(), Count: api.MaxCount + 1}, api.ErrRange},
		"no sum":                {api.Tape{Events: []byte{1, 2, 3, 4, 5, 6}, Count: 5}, api.ErrSum},
		"behind its count":      {api.Tape{Events: late, Count: 7}, api.ErrOrder},
	} {
		for _, frames := range []int{0, 1, 200} {
			for _, l := range [][]int{nil, {0}, {5}, {-1}, {0, api.MaxCount + 1}} {
				got, e := deck.Seek(api.Setup{Frames: frames, Every: 2, Keep: 2}, c.tape, l)
				wantRefused(t, what, got, e, c.want)
			}
		}
	}
}

// TestSeekRefusesCounts: one that is none is enough, wherever it stands; then no guest is told, and no room is asked.
func TestSeekRefusesCounts(t *testing.T) { // P6.2
	tape := recorded(t, writer(), api.World{}, 30)
	for _, n := range append(far, -1, -2, 31, 32, api.MaxCount) {
		for _, l := range [][]int{{n}, {n, 0}, {0, n}, {30, 5, n, 7}, {n, n}} {
			for _, frames := range []int{0, 1, 200} {
				got, e := deck.Seek(api.Setup{Frames: frames, Every: 4, Keep: 2}, tape, l)
				wantRefused(t, "no count", got, e, api.ErrRange)
			}
		}
	}
}

// TestSeekDrawn: drawn tapes, counts and setups. Where frames may be too few, ErrRoom is told instead, or the guests all the same.
func TestSeekDrawn(t *testing.T) { // P6.2, P6.3
	d := die(61)
	var full, few, ended int
	for range 500 {
		tape := drawnTape(t, &d)
		var l []int
		for range d.below(12) {
			l = append(l, d.below(tape.Count+1))
		}
		s := api.Setup{Frames: d.below(api.MaxFrames + 1), Every: 1 + d.below(40), Keep: 1 + d.below(api.MaxPoints)}
		if d.below(3) == 0 {
			s.Frames = d.below(8)
		}
		got, e := deck.Seek(s, tape, l)
		if e == api.ErrRoom && s.Frames < enough(s.Keep) {
			wantRefused(t, "few frames", got, e, api.ErrRoom)
			few++
			continue
		}
		full++
		wantGuests(t, "drawn", tape, l, got, e)
		for _, m := range got {
			if m.End != api.Going {
				ended++
				break
			}
		}
	}
	if full < 150 || few < 30 || ended < 20 {
		t.Errorf("only %d with guests, %d without room, %d with guests that ended", full, few, ended)
	}
}
