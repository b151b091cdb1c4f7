package run_test

import (
	"bytes"
	"slices"
	"testing"

	"hourglass/api"
	"hourglass/cpu"
	"hourglass/evlog"
	"hourglass/run"
)

// always: a guest that does nothing, again and again.
func always() []int { return image(nop(), jmp(-1)) }

// asks: a guest that asks Clock again and again.
func asks() []int { return image(ask(1, api.Clock), jmp(-1)) }

// TestRecordEnds: a guest steps as long as it goes on, and its Count is below n.
func TestRecordEnds(t *testing.T) { // P5.2, P5.3
	for _, n := range []int{0, 1, 2, 3, 100, api.MaxCount - 1, api.MaxCount} {
		_, m := wantEvents(t, "it goes on", always(), api.World{}, n, n)
		if m.End != api.Going {
			t.Errorf("behind %d instructions its end is %d", n, m.End)
		}
		_, m = wantEvents(t, "it halts", image(nop(), nop()), api.World{}, n, min(n, 3))
		if (m.End == api.Halted) != (n >= 3) {
			t.Errorf("behind %d instructions its end is %d", n, m.End)
		}
		wantEvents(t, "no image", nil, api.World{}, n, min(n, 1))
	}
	for what, c := range map[string]struct {
		words []int
		end   int
	}{
		"no code":     {[]int{api.MaxWord}, api.BadCode},
		"no address":  {image(jmp(-1)), api.BadAt},
		"no port":     {image(ask(1, 9)), api.BadAt},
		"no page":     {image(api.Instr{Op: api.Map}), api.BadPage},
		"to halt":     {image(nop()), api.Halted},
		"all of Mem":  {slices.Repeat(image(nop()), api.Words), api.BadAt},
		"at its last": {append(slices.Repeat(image(nop()), api.Words-1), 0), api.Halted},
	} {
		_, m := recorded(t, what, c.words, api.World{}, 1000)
		if m.End != c.end {
			t.Errorf("%s: end %d; want %d", what, m.End, c.end)
		}
	}
}

// TestRecordFirstState: behind no instruction it is the new guest.
func TestRecordFirstState(t *testing.T) { // P5.2, P5.3
	words := image(ask(1, api.Clock))
	_, m := wantEvents(t, "none", words, api.World{Irqs: []int{0}, Values: []int{5}, Blocks: pages(1)}, 0, 0)
	if fresh, _ := cpu.New(words); !sameGuest(m, fresh) {
		t.Errorf("%v", m)
	}
}

// TestRecordIrqs: an interrupt comes ahead of the instruction with such a count, let in or not.
func TestRecordIrqs(t *testing.T) { // P5.2, P5.3
	for _, at := range []int{0, 1, 6, 7, api.MaxCount - 1} {
		_, m := wantEvents(t, "one that waits", always(), api.World{Irqs: []int{at}}, at+1, at+1, irq(at))
		if !m.Wait {
			t.Errorf("at %d none waits", at)
		}
		_, m = wantEvents(t, "one that is still to come", always(), api.World{Irqs: []int{at}}, at, at)
		if m.Wait {
			t.Errorf("at %d one waits", at)
		}
	}
	wantEvents(t, "in no order, twice", always(), api.World{Irqs: []int{7, 3, 7, 0, 3, 900, api.MaxCount}}, 20, 20, irq(0), irq(3), irq(7))
	wantEvents(t, "none behind the end", image(nop()), api.World{Irqs: []int{0, 1, 2, 3}}, 20, 2, irq(0), irq(1))
	every := append(counts(0, api.MaxEvents), 5)[:api.MaxEvents]
	var want []api.Event
	for _, at := range every {
		want = append(want, irq(at))
	}
	wantEvents(t, "as many as may be", always(), api.World{Irqs: every}, api.MaxCount, api.MaxCount, want...)
}

// TestRecordLetsInterruptsIn: they lead to Vector, ahead of the instruction.
func TestRecordLetsInterruptsIn(t *testing.T) { // P5.2
	words := append(image(ei(1), nop(), jmp(-1)), make([]int, api.Vector-3)...)
	words = append(words, image(tell(7, api.Console), api.Instr{Op: api.Addi, A: 7, B: 7, N: 1}, api.Instr{Op: api.Iret})...)
	_, m := wantEvents(t, "at Vector", words, api.World{Irqs: []int{0, 5, 6, 20}}, 50, 50, irq(0), irq(5), irq(6), irq(20))
	if !slices.Equal(m.Out, []int{0, 1, 2, 3}) {
		t.Errorf("told %v", m.Out)
	}
}

// TestRecordValues: In of Clock and Key is told the next word; no other instruction is.
func TestRecordValues(t *testing.T) { // P5.2, P5.3
	words := image(
		ask(1, api.Clock), tell(1, api.Console),
		ask(2, api.State), ask(2, api.Key), tell(2, api.Console),
		ask(3, api.Key), tell(3, api.Console),
		ask(4, api.Clock), tell(4, api.Console),
	)
	for _, c := range []struct{ values, told []int }{
		{nil, []int{0, 0, 0, 0}},
		{[]int{5}, []int{5, 0, 0, 0}},
		{[]int{0, 5}, []int{0, 5, 0, 0}},
		{[]int{api.MaxWord, -api.MaxWord, 3}, []int{api.MaxWord, -api.MaxWord, 3, 0}},
		{[]int{4, 3, 2, 1}, []int{4, 3, 2, 1}},
		{[]int{4, 4, 4, 4, 9, 9}, []int{4, 4, 4, 4}},
	} {
		_, m := wantEvents(t, "values", words, api.World{Values: c.values}, 99, 10,
			value(0, c.told[0]), value(3, c.told[1]), value(5, c.told[2]), value(7, c.told[3]))
		if !slices.Equal(m.Out, c.told) {
			t.Errorf("of %v it tells %v; want %v", c.values, m.Out, c.told)
		}
	}
	_, m := wantEvents(t, "no such port", image(ask(1, api.Console)), api.World{Values: []int{5}}, 9, 1)
	if m.End != api.BadAt || m.Regs[1] != 0 {
		t.Errorf("%v", m)
	}
}

// TestRecordAsksAsItIsThen: an interrupt or a block ahead of the instruction may make it another one.
func TestRecordAsksAsItIsThen(t *testing.T) { // P5.2, P5.3
	// An interrupt leads away from an instruction that asks.
	words := append(image(ei(1), ask(1, api.Clock), ask(1, api.Clock)), make([]int, api.Vector-3)...)
	words = append(words, image(nop(), ask(2, api.Key), api.Instr{Op: api.Iret})...)
	w := api.World{Irqs: []int{1}, Values: []int{11, 12, 13}}
	_, m := wantEvents(t, "away", words, w, 9, 7, irq(1), value(2, 11), value(4, 12), value(5, 13))
	if m.Regs[1] != 13 || m.Regs[2] != 11 {
		t.Errorf("away: %v", m.Regs)
	}
	// A block brings an instruction that asks, and takes one away.
	into := image(li(1, 1), tell(1, api.Disk), jmp(14))
	for port, want := range map[int][]api.Event{api.Key: {value(3, 11)}, api.State: nil} {
		code := append(image(ask(3, port), api.Instr{}), make([]int, 14)...)
		w := api.World{Values: []int{11}, Blocks: [][]int{code}, Delays: []int{1}}
		wantEvents(t, "by a block", into, w, 9, 5, append([]api.Event{block(3, code)}, want...)...)
	}
	asking := append(slices.Clone(into), make([]int, 13)...)
	asking = append(asking, image(ask(3, api.Clock))...)
	wantEvents(t, "taken away", asking, api.World{Values: []int{11}, Delays: []int{1}}, 9, 4, block(3, blank()))
}

// wants: a guest that wants a block for page 5 by its third instruction, and goes on.
func wants() []int { return image(nop(), li(1, 5), tell(1, api.Disk), nop(), jmp(-1)) }

// TestRecordDelays: a block comes as many instructions later as is told, or, with 0, ahead of the next one.
func TestRecordDelays(t *testing.T) { // P5.2, P5.3
	const asked, n = 2, 40
	for _, delay := range []int{0, 1, 2, 3, 7, 30, n - asked - 2, n - asked - 1, n, api.MaxCount} {
		w := api.World{Blocks: [][]int{page(60)}, Delays: []int{delay}}
		var want []api.Event
		if at := asked + 1 + delay; at < n {
			want = append(want, block(at, page(60)))
		}
		tape, m := wantEvents(t, "a delay", wants(), w, n, n, want...)
		if came := m.Want == -1; came != (want != nil) || came != (m.Ready == 1) || came != m.Wait {
			t.Errorf("delay %d: %v", delay, m)
		}
		if came := slices.Equal(m.Mem[5*api.PageWords:6*api.PageWords], page(60)); came != (want != nil) {
			t.Errorf("delay %d: %v", delay, m.Mem)
		}
		if tape.Count != n {
			t.Errorf("delay %d: %d instructions", delay, tape.Count)
		}
	}
	wantEvents(t, "no delay is told", wants(), api.World{Blocks: [][]int{page(60)}}, n, n, block(asked+1, page(60)))
	wantEvents(t, "no block is told", wants(), api.World{Delays: []int{4}}, n, n, block(asked+5, blank()))
	wantEvents(t, "nothing is told", wants(), api.World{}, n, n, block(asked+1, blank()))
	wantEvents(t, "nothing is wanted", always(), api.World{Blocks: pages(3), Delays: []int{1, 2}}, n, n)
}

// TestRecordBlocksInOrder: each block that is wanted is the next one, with the next delay.
func TestRecordBlocksInOrder(t *testing.T) { // P5.2, P5.3
	// Six instructions for each block: it is wanted by the second one of them.
	words := image(li(1, 3), tell(1, api.Disk), nop(), nop(), nop(), jmp(-5))
	w := api.World{Blocks: [][]int{page(10), page(20), page(30)}, Delays: []int{2, 0, 1, 3}}
	_, m := wantEvents(t, "blocks", words, w, 29, 29,
		block(4, page(10)), block(8, page(20)), block(15, page(30)), block(23, blank()), block(26, blank()))
	if !slices.Equal(m.Mem[48:64], blank()) {
		t.Errorf("%v", m.Mem)
	}
}

// TestRecordOneIsWanted: while a block is wanted no other one is to come, whatever is asked.
func TestRecordOneIsWanted(t *testing.T) { // P5.2
	words := image(li(1, 3), tell(1, api.Disk), li(1, 4), tell(1, api.Disk), tell(1, api.Disk), nop(), nop(), tell(1, api.Disk), nop(), nop())
	w := api.World{Blocks: [][]int{page(10), page(20), page(30)}, Delays: []int{4, 0, 0}}
	_, m := wantEvents(t, "one is wanted", words, w, 99, 11, block(6, page(10)), block(8, page(20)))
	if !slices.Equal(m.Mem[48:80], append(page(10), page(20)...)) {
		t.Errorf("%v", m.Mem)
	}
}

// TestRecordWantsAsOneComes: the instruction ahead of which a block comes may want the next one, of the same page or not.
func TestRecordWantsAsOneComes(t *testing.T) { // P5.2
	words := image(li(1, 3), tell(1, api.Disk), tell(1, api.Disk), tell(1, api.Disk), li(1, 4), tell(1, api.Disk), nop(), nop(), nop())
	w := api.World{Blocks: [][]int{page(10), page(20), page(30), page(40)}, Delays: []int{0, 0, 1, 0}}
	_, m := wantEvents(t, "as one comes", words, w, 99, 10,
		block(2, page(10)), block(3, page(20)), block(5, page(30)), block(6, page(40)))
	if !slices.Equal(m.Mem[48:80], append(page(30), page(40)...)) {
		t.Errorf("%v", m.Mem)
	}
}

// TestRecordAllAtOnce: an interrupt, a block and a word at one instruction stand in the order of their kinds.
func TestRecordAllAtOnce(t *testing.T) { // P5.3
	words := image(li(1, 5), tell(1, api.Disk), ask(1, api.Key))
	w := api.World{Irqs: []int{2}, Values: []int{-7}, Blocks: [][]int{page(1)}}
	wantEvents(t, "at once", words, w, 99, 4, irq(2), block(2, page(1)), value(2, -7))
}

// TestRecordRefuses: each reason, and which one comes first.
func TestRecordRefuses(t *testing.T) { // P5.3
	tooLong := make([]int, api.Words+1)
	badWorld := api.World{Blocks: [][]int{nil}}
	for what, c := range map[string]struct {
		words []int
		w     api.World
		n     int
		want  api.Errno
	}{
		"the image is too long":    {tooLong, api.World{}, 5, api.ErrSize},
		"that is first":            {tooLong, api.World{Irqs: []int{-1}}, -1, api.ErrSize},
		"no word in the image":     {[]int{0, noWords[0]}, badWorld, -1, api.ErrRange},
		"no word at its end":       {append(make([]int, api.Words-1), noWords[1]), api.World{}, 5, api.ErrRange},
		"the world, ahead of n":    {nil, badWorld, -1, api.ErrSize},
		"the world's range":        {nil, api.World{Irqs: []int{-1}}, 5, api.ErrRange},
		"the world, ahead of asks": {asks(), badWorld, api.MaxCount, api.ErrSize},
	} {
		wantNoTape(t, what, c.words, c.w, c.n, c.want)
	}
	for _, n := range noCounts {
		wantNoTape(t, "n", always(), api.World{}, n, api.ErrRange)
		wantNoTape(t, "n, of one that asks", asks(), api.World{}, n, api.ErrRange)
	}
}

// TestRecordCountsEvents: as many as may be are told; one more is refused.
func TestRecordCountsEvents(t *testing.T) { // P5.3
	var want []api.Event
	for i := range api.MaxEvents {
		want = append(want, value(2*i, 0))
	}
	for _, n := range []int{2*api.MaxEvents - 1, 2 * api.MaxEvents} {
		wantEvents(t, "words alone", asks(), api.World{}, n, n, want...)
	}
	wantNoTape(t, "one word more", asks(), api.World{}, 2*api.MaxEvents+1, api.ErrSize)
	wantNoTape(t, "many more", asks(), api.World{}, api.MaxCount, api.ErrSize)
	// With an interrupt at the same count, and later on.
	wantEvents(t, "an interrupt among them", asks(), api.World{Irqs: []int{0}}, 2*api.MaxEvents-2, 2*api.MaxEvents-2, append([]api.Event{irq(0)}, want[:api.MaxEvents-1]...)...)
	wantNoTape(t, "an interrupt more", asks(), api.World{Irqs: []int{0}}, 2*api.MaxEvents-1, api.ErrSize)
	wantNoTape(t, "an interrupt behind all of them", asks(), api.World{Irqs: []int{2*api.MaxEvents - 1}}, 2*api.MaxEvents, api.ErrSize)
	blocks := image(li(1, 5), tell(1, api.Disk), jmp(-1))
	wantNoTape(t, "blocks", blocks, api.World{Irqs: counts(0, 10)}, api.MaxCount, api.ErrSize)
}

// TestRecordLongTape: no promise bounds the bytes of a tape that is recorded, but Check refuses too many.
func TestRecordLongTape(t *testing.T) { // P5.3, P5.4
	blocks := image(li(1, 5), tell(1, api.Disk), jmp(-1))
	wild := slices.Repeat([]int{-api.MaxWord, api.MaxWord}, api.PageWords/2)
	w := api.World{Blocks: slices.Repeat([][]int{wild}, api.MaxEvents)}
	tape, _ := recorded(t, "long", blocks, w, 1501)
	if len(tape.Events) <= api.MaxBytes {
		t.Fatalf("only %d bytes", len(tape.Events))
	}
	wantTapeRefused(t, "long", tape, api.ErrSize)
}

// drawnImage: a guest that does a bit of all, and comes back to its beginning.
func drawnImage(d *die) []int {
	words := image(ei(1))
	for range 10 + d.below(40) {
		i := api.Instr{Op: 1 + d.below(15), A: d.below(4), B: d.below(4)}
		switch i.Op {
		case api.Add, api.Sub:
			i.N = d.below(4)
		case api.Ld, api.St:
			i.B, i.N = 7, 80+d.below(170)
		case api.Jz, api.Jn, api.Jmp:
			i.N = d.below(8) - 2
		case api.In:
			i.N = d.below(3)
		case api.Out:
			i.A, i.N = 5+d.below(2), 3+d.below(2)
		case api.Ei:
			i.N = d.below(2)
		case api.Map:
			i = li(5+d.below(2), d.below(api.Pages))
		default:
			i.N = d.below(30) - 10
		}
		words = append(words, image(i)...)
	}
	return append(words, image(jmp(-len(words)))...)
}

// drawnWorld: with delays that are often 0, so that blocks come as the next ones are wanted.
func drawnWorld(d *die) api.World {
	var w api.World
	for range d.below(30) {
		w.Irqs = append(w.Irqs, d.below(300))
	}
	for range d.below(20) {
		w.Values = append(w.Values, d.below(99)-40)
	}
	for range d.below(12) {
		b := make([]int, api.PageWords)
		copy(b, drawnImage(d)[:d.below(11)])
		w.Blocks = append(w.Blocks, b)
		w.Delays = append(w.Delays, max(0, d.below(9)-4))
	}
	return w
}

// model of a recording, step by step, by cpu's Step alone: that In asks is seen by two words that it could be told.
func model(words []int, w api.World, n int) (api.Machine, []api.Event) {
	m, _ := cpu.New(words)
	var l []api.Event
	values, blocks, comes := 0, 0, -1
	for m.End == api.Going && m.Count < n {
		at := m.Count
		isIrq := false
		for _, c := range w.Irqs {
			isIrq = isIrq || c == at
		}
		if isIrq {
			l = append(l, irq(at))
		}
		var brought []int
		if comes == at {
			brought = blank()
			if blocks < len(w.Blocks) {
				copy(brought, w.Blocks[blocks])
			}
			blocks++
			l = append(l, block(at, brought))
		}
		one, _, _ := cpu.Step(m, isIrq, brought, 1)
		next, _, _ := cpu.Step(m, isIrq, brought, 2)
		if !slices.Equal(one.Regs, next.Regs) {
			word := 0
			if values < len(w.Values) {
				word = w.Values[values]
			}
			values++
			l = append(l, value(at, word))
			next, _, _ = cpu.Step(m, isIrq, brought, word)
		}
		// What was wanted has come, or it is wanted still.
		if next.Want >= 0 && (m.Want < 0 || brought != nil) {
			comes = next.Count
			if blocks < len(w.Delays) {
				comes += w.Delays[blocks]
			}
		}
		m = next
	}
	return m, l
}

// TestRecordAgainstModel: drawn guests in drawn worlds.
func TestRecordAgainstModel(t *testing.T) { // P5.2, P5.3
	d := die(51)
	seen := map[int]int{}
	for range 400 {
		words, w, n := drawnImage(&d), drawnWorld(&d), d.below(350)
		want, events := model(words, w, n)
		tape, m, e := run.Record(words, w, n)
		if e != api.OK || !sameGuest(m, want) || tape.Count != want.Count || !bytes.Equal(tape.Events, encoded(events...)) {
			l, _ := evlog.Decode(tape.Events)
			t.Fatalf("%v in %v, to %d: %v, %v, %v, %v; want %v, %v", words, w, n, tape.Count, l, m, e, want, events)
		}
		for _, x := range events {
			seen[x.Kind]++
		}
	}
	for kind := api.Irq; kind <= api.Value; kind++ {
		if seen[kind] < 100 {
			t.Errorf("only %d events of kind %d", seen[kind], kind)
		}
	}
}
