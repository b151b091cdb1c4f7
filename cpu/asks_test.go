package cpu_test

import (
	"slices"
	"testing"

	"hourglass/api"
	"hourglass/cpu"
)

// wantAsks: would a step ask the world? If it does, and only then, the guest hangs on the word that is told.
func wantAsks(t *testing.T, what string, m api.Machine, w world, want bool) {
	t.Helper()
	was := cpu.Copy(m)
	if got := cpu.Asks(m, w.irq, w.block); got != want {
		t.Errorf("%s: %v; want %v", what, got, want)
	}
	if !same(m, was) {
		t.Errorf("%s: what was handed in is changed: %v", what, m)
	}
	one, _, e := cpu.Step(m, w.irq, w.block, 1)
	two, _, _ := cpu.Step(m, w.irq, w.block, 2)
	if e == api.OK && same(one, two) == want {
		t.Errorf("%s: steps tell otherwise", what)
	}
}

func TestAsks(t *testing.T) { // P2.7
	for op := api.Halt; op <= api.Nop; op++ {
		for n := range 6 {
			i := api.Instr{Op: op, A: 3, N: n}
			if cpu.Check(i) != api.OK {
				continue
			}
			m := going(t, i)
			wantAsks(t, "an instruction", m, world{}, op == api.In && n <= api.Key)
			m.End = api.Halted
			wantAsks(t, "it has ended", m, world{}, false)
		}
	}
	for _, pc := range []int{-1, api.Words, start + 1} {
		m := going(t, api.Instr{Op: api.In})
		m.Pc = pc
		m.Mem[start+1] = api.MaxWord
		wantAsks(t, "no instruction", m, world{}, false)
	}
}

// TestAsksAsItIsThen: an interrupt or a block that comes ahead may make the instruction another one.
func TestAsksAsItIsThen(t *testing.T) { // P2.7
	asking, other := api.Instr{Op: api.In, A: 3, N: api.Key}, api.Instr{Op: api.Nop}
	for _, c := range []struct {
		here, there api.Instr
		asks        bool
	}{{asking, other, true}, {other, asking, false}} {
		m := going(t, c.here)
		m.Mem[api.Vector] = word(t, c.there)
		wantAsks(t, "no interrupt", m, world{}, c.asks)
		wantAsks(t, "an interrupt that is let in", m, world{irq: true}, !c.asks)
		m.Wait = true
		wantAsks(t, "one that waited", m, world{}, !c.asks)
		m.Wait, m.Ints = false, false
		wantAsks(t, "one that is not let in", m, world{irq: true}, c.asks)
		m.Want = start / api.PageWords
		block := slices.Repeat([]int{word(t, c.there)}, api.PageWords)
		wantAsks(t, "a block", m, world{block: block}, !c.asks)
		m.Want = -1
		wantAsks(t, "a block that is not wanted", m, world{block: block}, c.asks)
	}
}

// TestAsksNothingIfRefused: what Step refuses asks nothing.
func TestAsksNothingIfRefused(t *testing.T) { // P2.7
	m := going(t, api.Instr{Op: api.In})
	wantAsks(t, "a short block", m, world{block: []int{1}}, false)
	wantAsks(t, "no word in a block", m, world{block: filled(api.PageWords, api.MaxWord)}, false)
	for what, m := range mayNotBe() {
		wantAsks(t, what, m, world{}, false)
	}
	m.Count = api.MaxWord
	wantAsks(t, "the last count", m, world{}, false)
}
