package cpu_test

import (
	"math"
	"reflect"
	"slices"
	"testing"

	"hourglass/api"
	"hourglass/cpu"
)

// plain: the same guest without a nil list, as a list without elements may be nil or not.
func plain(m api.Machine) api.Machine {
	m.Regs, m.Mem, m.Out = append([]int{}, m.Regs...), append([]int{}, m.Mem...), append([]int{}, m.Out...)
	return m
}

func same(m, n api.Machine) bool { return reflect.DeepEqual(plain(m), plain(n)) }

func isZero(m api.Machine) bool { return same(m, api.Machine{}) }

// filled: so many words, each of them another one.
func filled(n, first int) []int {
	l := make([]int, n)
	for i := range l {
		l[i] = first + i
	}
	return l
}

// busy: a guest that may be, no field of which is that of a new one.
func busy() api.Machine {
	return api.Machine{
		Regs: filled(api.Regs, 1000), Pc: 33, Back: 44, Ints: true, Wait: true, Table: 7, Count: 55,
		End: api.Halted, Mem: filled(api.Words, 2000), Out: filled(5, 3000), Ready: 1, Want: 9,
	}
}

// but: a busy guest with one thing changed.
func but(change func(m *api.Machine)) api.Machine {
	m := busy()
	change(&m)
	return m
}

func TestCheckMachineTakesWhatMayBe(t *testing.T) { // P2.4
	fresh, _ := cpu.New(nil)
	l := map[string]api.Machine{
		"a new one":              fresh,
		"a busy one":             busy(),
		"told nothing":           but(func(m *api.Machine) { m.Out = nil }),
		"told nothing, not nil":  but(func(m *api.Machine) { m.Out = []int{} }),
		"told the most":          but(func(m *api.Machine) { m.Out = filled(api.MaxOut, 0) }),
		"no table":               but(func(m *api.Machine) { m.Table = -1 }),
		"table in page 0":        but(func(m *api.Machine) { m.Table = 0 }),
		"table in the last page": but(func(m *api.Machine) { m.Table = api.Pages - 1 }),
		"count 0":                but(func(m *api.Machine) { m.Count = 0 }),
		"the last count":         but(func(m *api.Machine) { m.Count = api.MaxWord }),
		"not ready":              but(func(m *api.Machine) { m.Ready = 0 }),
		"wants nothing":          but(func(m *api.Machine) { m.Want = -1 }),
		"wants page 0":           but(func(m *api.Machine) { m.Want = 0 }),
		"wants the last page":    but(func(m *api.Machine) { m.Want = api.Pages - 1 }),
	}
	for _, end := range []int{api.Going, api.Halted, api.BadCode, api.BadAt, api.BadPage} {
		l["end "+string(rune('0'+end))] = but(func(m *api.Machine) { m.End = end })
	}
	for what, w := range map[string]int{"least": -api.MaxWord, "most": api.MaxWord, "zero": 0} {
		for where, put := range wordPlaces {
			l[where+": "+what] = but(func(m *api.Machine) { put(m, w) })
		}
	}
	for what, m := range l {
		if e := cpu.CheckMachine(m); e != api.OK {
			t.Errorf("%s: %v; want OK", what, e)
		}
	}
}

// wordPlaces: where a guest has words.
var wordPlaces = map[string]func(m *api.Machine, w int){
	"first register":   func(m *api.Machine, w int) { m.Regs[0] = w },
	"last register":    func(m *api.Machine, w int) { m.Regs[api.Regs-1] = w },
	"first of memory":  func(m *api.Machine, w int) { m.Mem[0] = w },
	"last of memory":   func(m *api.Machine, w int) { m.Mem[api.Words-1] = w },
	"first told":       func(m *api.Machine, w int) { m.Out[0] = w },
	"last told":        func(m *api.Machine, w int) { m.Out[len(m.Out)-1] = w },
	"Pc":               func(m *api.Machine, w int) { m.Pc = w },
	"Back":             func(m *api.Machine, w int) { m.Back = w },
	"middle of memory": func(m *api.Machine, w int) { m.Mem[100] = w },
}

// mayNotBe: guests each of which breaks one rule of P2.4.
func mayNotBe() map[string]api.Machine {
	l := map[string]api.Machine{
		"nothing":             {},
		"no registers":        but(func(m *api.Machine) { m.Regs = nil }),
		"a register too few":  but(func(m *api.Machine) { m.Regs = filled(api.Regs-1, 0) }),
		"a register too many": but(func(m *api.Machine) { m.Regs = filled(api.Regs+1, 0) }),
		"no memory":           but(func(m *api.Machine) { m.Mem = nil }),
		"a word too few":      but(func(m *api.Machine) { m.Mem = filled(api.Words-1, 0) }),
		"a word too many":     but(func(m *api.Machine) { m.Mem = filled(api.Words+1, 0) }),
		"told too much":       but(func(m *api.Machine) { m.Out = filled(api.MaxOut+1, 0) }),
	}
	for where, put := range wordPlaces {
		for _, w := range noWords {
			l[where+" is no word"+sign(w)] = but(func(m *api.Machine) { put(m, w) })
		}
	}
	for _, n := range []int{-2, api.Pages, math.MinInt, math.MaxInt} {
		l["Table"+sign(n)] = but(func(m *api.Machine) { m.Table = n })
		l["Want"+sign(n)] = but(func(m *api.Machine) { m.Want = n })
	}
	for _, n := range []int{-1, api.MaxWord + 1, math.MinInt, math.MaxInt} {
		l["Count"+sign(n)] = but(func(m *api.Machine) { m.Count = n })
	}
	for _, n := range []int{-1, api.BadPage + 1, math.MinInt, math.MaxInt} {
		l["End"+sign(n)] = but(func(m *api.Machine) { m.End = n })
	}
	for _, n := range []int{-1, 2, math.MinInt, math.MaxInt} {
		l["Ready"+sign(n)] = but(func(m *api.Machine) { m.Ready = n })
	}
	return l
}

// sign of a number that is too great or too small, near or far, as a text.
func sign(n int) string {
	switch {
	case n == math.MinInt:
		return ", the least number"
	case n == math.MaxInt:
		return ", the greatest number"
	case n < 0:
		return ", too small"
	}
	return ", too great"
}

func TestCheckMachineRefusesWhatMayNotBe(t *testing.T) { // P2.4
	for what, m := range mayNotBe() {
		if e := cpu.CheckMachine(m); e != api.ErrState {
			t.Errorf("%s: %v; want ErrState", what, e)
		}
	}
}

func TestNew(t *testing.T) { // P2.5
	for what, image := range map[string][]int{
		"nil":           nil,
		"empty":         {},
		"one":           {7},
		"some":          filled(20, -10),
		"all":           filled(api.Words, 1),
		"edges of word": {api.MaxWord, -api.MaxWord},
	} {
		want := api.Machine{Regs: make([]int, api.Regs), Mem: make([]int, api.Words), Table: -1, Want: -1}
		copy(want.Mem, image)
		m, e := cpu.New(image)
		if e != api.OK || !same(m, want) {
			t.Errorf("%s: %v, %v", what, m, e)
		}
		if e := cpu.CheckMachine(m); e != api.OK {
			t.Errorf("%s: what is answered may not be: %v", what, e)
		}
	}
}

func TestNewRefuses(t *testing.T) { // P2.5
	tooLong := filled(api.Words+1, 0)
	tooLong[3] = math.MaxInt
	for what, c := range map[string]struct {
		image []int
		want  api.Errno
	}{
		"a word too many":          {make([]int, api.Words+1), api.ErrSize},
		"far too many":             {make([]int, 1<<16), api.ErrSize},
		"too many, one is no word": {tooLong, api.ErrSize},
		"the only one":             {[]int{math.MinInt}, api.ErrRange},
		"the first one":            {append([]int{api.MaxWord + 1}, filled(9, 0)...), api.ErrRange},
		"the last one":             {append(filled(api.Words-1, 0), -api.MaxWord-1), api.ErrRange},
	} {
		m, e := cpu.New(c.image)
		if e != c.want || !isZero(m) {
			t.Errorf("%s: %v, %v; want nothing, %v", what, m, e, c.want)
		}
	}
}

// TestCopy: the same guest, whether it may be or not.
func TestCopy(t *testing.T) { // P2.5
	l := mayNotBe()
	l["busy"] = busy()
	l["new"], _ = cpu.New(filled(30, 1))
	l["lists of other lengths"] = api.Machine{Regs: filled(3, 1), Mem: filled(700, 2), Out: filled(999, 3), Ints: true}
	for what, m := range l {
		if got := cpu.Copy(m); !same(got, m) {
			t.Errorf("%s: %v; want %v", what, got, m)
		}
	}
}

// TestMachineMemory: New and Copy keep nothing that was handed in, and share nothing, spare room too.
func TestMachineMemory(t *testing.T) { // P2.5
	image := withRoom(filled(40, 1))
	m, _ := cpu.New(image)
	n, _ := cpu.New(image)
	want := plain(n)
	if !scribble(m) {
		t.Error("New: two lists of the answer share memory")
	}
	if !same(n, want) || !equalWhole(image, withRoom(filled(40, 1))) {
		t.Error("New: the answer shares memory with another one, or with what was handed in")
	}
	r := roomy()
	m, n = cpu.Copy(r), cpu.Copy(r)
	if !scribble(m) {
		t.Error("Copy: two lists of the answer share memory")
	}
	if !unchanged(r, roomy()) || !same(n, roomy()) {
		t.Error("Copy: the answer shares memory with another one, or with what was handed in")
	}
	one := filled(api.Words, 0)
	m = cpu.Copy(api.Machine{Regs: one[:api.Regs], Mem: one, Out: one[:9]})
	if !scribble(m) || !slices.Equal(one, filled(api.Words, 0)) {
		t.Error("Copy: lists that were handed in as one are one in the answer")
	}
}

// withRoom: the same words, with spare room that is not 0.
func withRoom(l []int) []int {
	return append(slices.Clone(l), 91, 92, 93)[:len(l)]
}

// roomy: a busy guest each list of which has spare room that is not 0.
func roomy() api.Machine {
	m := busy()
	m.Regs, m.Mem, m.Out = withRoom(m.Regs), withRoom(m.Mem), withRoom(m.Out)
	return m
}

func whole(l []int) []int { return l[:cap(l)] }

func equalWhole(l, k []int) bool {
	n := len(l) + 3 // what withRoom filled
	return cap(l) >= n && cap(k) >= n && slices.Equal(l[:n], k[:n])
}

// unchanged: a guest is the same as another one, and so is its spare room.
func unchanged(m, n api.Machine) bool {
	return same(m, n) && equalWhole(m.Regs, n.Regs) && equalWhole(m.Mem, n.Mem) && equalWhole(m.Out, n.Out)
}

// scribble writes a number of its own into each list, spare room too, and tells whether each one keeps it.
func scribble(m api.Machine) bool {
	l := [][]int{whole(m.Regs), whole(m.Mem), whole(m.Out)}
	for i, words := range l {
		for k := range words {
			words[k] = -1000 - i
		}
	}
	for i, words := range l {
		for _, w := range words {
			if w != -1000-i {
				return false
			}
		}
	}
	return true
}
