package stub_test

import (
	"fmt"
	"slices"
	"strings"
	"testing"

	"hourglass/api"
)

// noNumbers: what tells no number, or one that is too great for all commands.
var noNumbers = []string{
	"", " ", "-", "-1", "-0", "+1", "+0", "00", "01", "007", "0x1", "1x", "x", " 1", "1 ", "1.", "1e1", "1_0", "a", "f", "\xff", "\u0661", ",", "1,", "1,1,", "1,1,1",
	"100001", "100010", "999999", "1000000", "9223372036854775807", "9223372036854775800", "18446744073709551616", "18446744073709551617", strings.Repeat("9", 190),
}

// memory of a guest that does not write, at any place.
func memory(t *testing.T) (api.Tape, []int) {
	t.Helper()
	words := image(nop(), jmp(-1))
	for at := len(words); at < api.Words; at++ {
		words = append(words, (at-100)*1000)
	}
	return recorded(t, words, api.World{}, 5), words
}

// listed as they are told.
func listed(words []int) string {
	return strings.Trim(strings.ReplaceAll(fmt.Sprint(words), " ", ","), "[]")
}

// TestMemory: from 1 to 40 words, wherever there are as many.
func TestMemory(t *testing.T) { // P7.3, P7.5
	tape, words := memory(t)
	for _, at := range []int{0, 1, 9, 10, 15, 16, 99, 100, 215, 216, 217, 254, 255, 256, 257, 1000, 99999, 100000} {
		for n := range 44 {
			want := "E02"
			if n >= 1 && n <= 40 && at+n <= api.Words {
				want = listed(words[at : at+n])
			}
			wantTold(t, tape, api.Session{At: at % 6}, fmt.Sprintf("m%d,%d", at, n), want)
		}
	}
	wantTold(t, tape, api.Session{}, "m99,3", "-1000,0,1000")
	wantTold(t, tape, api.Session{}, "m255,1", "155000")
	for _, n := range []string{"100", "255", "256", "99999", "100000"} {
		wantTold(t, tape, api.Session{}, "m0,"+n, "E02")
	}
}

// TestMemoryThen: as it is at the place.
func TestMemoryThen(t *testing.T) { // P7.5
	for at, want := range []string{"0,0", "0,0", "5,0", "5,0", "5,0", "6,0", "6,0", "6,0", "7,0", "7,0", "7,0"} {
		wantTold(t, counting(t), api.Session{At: at}, "m100,2", want)
	}
	tape := recorded(t, image(li(1, 1), addi(1, 1, -2), st(1, 7, 16), tell(1, api.Console)), api.World{}, 5)
	wantTold(t, tape, api.Session{At: 5}, "m15,3", "0,-1,0")
}

// TestMemoryAsItLies: with a table, too, it is words of memory that are told.
func TestMemoryAsItLies(t *testing.T) { // P7.5
	tape := recorded(t, paged(st(2, 7, 18), nop(), halt()), api.World{}, 20)
	for _, s := range []api.Session{{At: 4}, {At: 6}} {
		wantTold(t, tape, s, "m80,4", "0,0,9,0")
		wantTold(t, tape, s, "m16,4", "0,0,0,0")
		wantTold(t, tape, s, "m255,1", "0")
	}
}

func TestMemoryWronglyTold(t *testing.T) { // P7.3, P7.5
	tape, _ := memory(t)
	s := api.Session{At: 2, Breaks: []int{4}, Watches: []int{5}}
	for _, no := range noNumbers {
		wantTold(t, tape, s, "m"+no, "E02")
		wantTold(t, tape, s, "m"+no+",", "E02")
		wantTold(t, tape, s, "m"+no+",1", "E02")
		wantTold(t, tape, s, "m1,"+no, "E02")
		wantTold(t, tape, s, "m,"+no, "E02")
	}
	for _, rest := range []string{"1", "1;1", "1 1", "1:1", "emory", "m1,1", "?", "G", "Z0,1", "1,1,1", "1,,1", ",1,1"} {
		wantTold(t, tape, s, "m"+rest, "E02")
	}
}

// each of the two lists that commands change.
var each = []struct {
	what string
	of   func(*api.Session) *[]int
}{
	{"0,", func(s *api.Session) *[]int { return &s.Breaks }},
	{"2,", func(s *api.Session) *[]int { return &s.Watches }},
}

// wantSet: with these stops, and with the other list as it is, a command is answered so, and the stops are these then.
func wantSet(t *testing.T, stops []int, command string, place any, want string, then []int) {
	t.Helper()
	for _, list := range each {
		s := api.Session{At: 3, Breaks: []int{77, 88}, Watches: []int{66, 99}}
		r := s
		*list.of(&s), *list.of(&r) = stops, then
		wantAnswer(t, blank(), s, fmt.Sprint(command, list.what, place), want, r)
	}
}

func TestSetStops(t *testing.T) { // P7.5
	for _, c := range []struct {
		stops   []int
		command string
		place   int
		then    []int
	}{
		{nil, "Z", 5, []int{5}},
		{nil, "Z", 0, []int{0}},
		{nil, "Z", 255, []int{255}},
		{[]int{5}, "Z", 5, []int{5}},
		{[]int{5}, "Z", 4, []int{4, 5}},
		{[]int{5}, "Z", 6, []int{5, 6}},
		{[]int{2, 9, 30}, "Z", 100, []int{2, 9, 30, 100}},
		{[]int{2, 9, 30}, "Z", 10, []int{2, 9, 10, 30}},
		{[]int{2, 9, 30}, "Z", 0, []int{0, 2, 9, 30}},
		{[]int{2, 9, 30}, "Z", 30, []int{2, 9, 30}},
		{nil, "z", 5, nil},
		{[]int{5}, "z", 5, nil},
		{[]int{5}, "z", 4, []int{5}},
		{[]int{5}, "z", 6, []int{5}},
		{[]int{2, 9, 30}, "z", 2, []int{9, 30}},
		{[]int{2, 9, 30}, "z", 9, []int{2, 30}},
		{[]int{2, 9, 30}, "z", 30, []int{2, 9}},
		{[]int{2, 9, 30}, "z", 255, []int{2, 9, 30}},
		{[]int{0, 255}, "z", 0, []int{255}},
		{[]int{0, 255}, "z", 255, []int{0}},
		{upTo(19), "Z", 255, append(upTo(19), 255)},
		{upTo(20), "z", 7, append(upTo(7), upTo(20)[8:]...)},
	} {
		wantSet(t, c.stops, c.command, c.place, "OK", c.then)
	}
}

// TestFullStops: more than 20 may not be; what is one already does not make them more.
func TestFullStops(t *testing.T) { // P7.5
	full := upTo(41)[21:]
	for place := range api.Words {
		if slices.Contains(full, place) {
			wantSet(t, full, "Z", place, "OK", full)
			continue
		}
		wantSet(t, full, "Z", place, "E03", full)
		wantSet(t, full, "z", place, "OK", full)
	}
	wantSet(t, full, "Z", 256, "E02", full)
	wantSet(t, full, "Z", "07", "E02", full)
	wantSet(t, full[1:], "Z", 255, "OK", append(slices.Clone(full[1:]), 255))
}

// TestWrongStops: what is no number, and no word's place.
func TestWrongStops(t *testing.T) { // P7.3, P7.5
	for _, stops := range [][]int{nil, {1, 5}, upTo(20)} {
		for _, no := range append([]string{"256", "257", "1000", "99999", "100000", "m1", "OK"}, noNumbers...) {
			wantSet(t, stops, "Z", no, "E02", stops)
			wantSet(t, stops, "z", no, "E02", stops)
		}
	}
}

// TestAllStops: each word may be one of them, and then it is where one stops.
func TestAllStops(t *testing.T) { // P7.5
	for place := range api.Words {
		wantSet(t, nil, "Z", place, "OK", []int{place})
		wantSet(t, []int{place}, "z", place, "OK", nil)
	}
}
