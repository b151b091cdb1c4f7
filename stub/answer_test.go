package stub_test

import (
	"strings"
	"testing"

	"hourglass/api"
	"hourglass/stub"
)

// TestRefusedInOrder: a setup, a tape, a session, a packet that is too long: the first one of these that is wrong is told.
func TestRefusedInOrder(t *testing.T) { // P7.2
	good := counting(t)
	late := encoded(api.Event{At: 10, Kind: api.Irq})
	long := strings.Repeat("$", api.MaxPacket+1)
	for _, u := range []api.Setup{{Frames: -1, Every: 1, Keep: 1}, {Frames: 201, Every: 1, Keep: 1}, {Frames: 64, Keep: 1}, {Frames: 64, Every: 3001, Keep: 1}, {Frames: 64, Every: 1}, {Frames: 64, Every: 1, Keep: 9}} {
		for _, tape := range []api.Tape{good, {}} {
			for _, s := range []api.Session{{}, {At: -1}} {
				wantRefused(t, "a setup", u, tape, s, "$?#3f", api.ErrRange)
				wantRefused(t, "a setup", u, tape, s, long, api.ErrRange)
			}
		}
	}
	for what, c := range map[string]struct {
		tape api.Tape
		want api.Errno
	}{
		"no events at all":      {api.Tape{Count: 5}, api.ErrShort},
		"the image is too long": {api.Tape{Image: make([]int, api.Words+1), Events: encoded(), Count: 5}, api.ErrSize},
		"no word":               {api.Tape{Image: []int{api.MaxWord + 1}, Events: encoded(), Count: 5}, api.ErrRange},
		"no count":              {api.Tape{Events: encoded(), Count: -1}, api.ErrRange},
		"too many instructions": {api.Tape{Events: encoded(), Count: api.MaxCount + 1}, api.ErrRange},
		"no sum":                {api.Tape{Events: []byte{1, 2, 3, 4, 5, 6}, Count: 5}, api.ErrSum},
		"behind its count":      {api.Tape{Events: late, Count: 10}, api.ErrOrder},
	} {
		for _, s := range []api.Session{{}, {At: -1}, {Breaks: []int{2, 1}}} {
			for _, p := range []string{"$?#3f", "", "what", long} {
				wantRefused(t, what, roomy, c.tape, s, p, c.want)
				wantRefused(t, what+", no room", api.Setup{Every: 1, Keep: 1}, c.tape, s, p, c.want)
			}
		}
	}
	wantRefused(t, "a session", roomy, good, api.Session{At: 11}, long, api.ErrState)
}

// TestLongPackets: what is too long is refused, be it a packet or not.
func TestLongPackets(t *testing.T) { // P7.2
	s := api.Session{At: 3, Breaks: []int{1}, Watches: []int{2}}
	for _, p := range []string{packet(strings.Repeat("q", 197)), strings.Repeat("$", 201), strings.Repeat("q", 1<<20)} {
		for _, u := range []api.Setup{roomy, {Every: 1, Keep: 1}} {
			wantRefused(t, "too long", u, counting(t), s, p, api.ErrSize)
		}
	}
	wantTold(t, counting(t), s, strings.Repeat("q", 196), "")
	wantTold(t, counting(t), s, "M"+strings.Repeat("q", 195), "E01")
}

// TestNoPackets are answered `-`, and the session stays.
func TestNoPackets(t *testing.T) { // P7.2
	tape := counting(t)
	for _, s := range []api.Session{{}, {At: 10, Breaks: []int{1, 3}}, {At: 4, Breaks: upTo(20), Watches: []int{0, 255}}} {
		for _, p := range []string{
			"", "$", "?", "s", "$s", "s#73", "$s#", "$s#7", "$s#72", "$s#37", "$s#730", "+$s#73", "$s#73+", "$$s#97", "$s##73", "$#s#96",
			"$Z0,9#00", "$c#36", "-", "+", "\x03", strings.Repeat("$", api.MaxPacket), strings.Repeat("q", api.MaxPacket),
		} {
			got, told, e := stub.Answer(roomy, tape, s, p)
			if e != api.OK || told != "-" || !sameSession(got, s) {
				t.Errorf("%q in %v: %v, %q, %v; want the same, -, OK", p, s, got, told, e)
			}
		}
	}
}

// TestUnknown: all else that is a packet is answered nothing.
func TestUnknown(t *testing.T) { // P7.5
	s := api.Session{At: 4, Breaks: []int{1, 3}, Watches: []int{100}}
	for _, command := range []string{
		"", " ", "??", "? ", " ?", "S", "ss", "s1", "s ", "b", "B", "BS", "bs1", "bss", "sb", "C", "c5", "cc", "bC", "bcc", "bc0", "b c", "cb", "gg", "g0", "g ",
		"z", "Z", "z0", "Z0", "Z2", "Z0 ,5", "Z0;5", " Z0,5", "Z1,5", "z1,5", "Z3,5", "Z4,5", "Z00,5", "Z,5", "Z02,5", "z 0,5", "Z-0,5", ",5", ",", "0,5", "ZZ0,5", "zZ2,5",
		"what", "x", "p", "p0", "H", "qSupported", "vCont?", "D", "k", "T0:0", "OK", "E01", "0", "\x00", "\xff\xfe", "+", "-", "1", "\u00e9", "_M", " G",
	} {
		wantTold(t, counting(t), s, command, "")
	}
}

// TestBarred: what would change the guest.
func TestBarred(t *testing.T) { // P7.5
	s := api.Session{At: 4, Breaks: []int{1, 3}}
	for _, letter := range []string{"G", "M", "P", "X"} {
		for _, rest := range []string{"", "0", "0,1", "100,1:5", "0=5", " ", ",", "what", letter, "?", "\xff", "m0,1", "Z0,5"} {
			wantTold(t, counting(t), s, letter+rest, "E01")
		}
	}
}

// TestAllLetters: of one letter there are few commands.
func TestAllLetters(t *testing.T) { // P7.3, P7.4, P7.5
	s := api.Session{At: 4}
	for c := range 256 {
		command, want, then := string([]byte{byte(c)}), "", s
		switch command {
		case "$", "#":
			continue
		case "?":
			want = "T4:0"
		case "s":
			want, then.At = "T5:0", 5
		case "c":
			want, then.At = "T10:0", 10
		case "g":
			want = "0,6,0,0,0,0,0,0,1"
		case "m":
			want = "E02"
		case "G", "M", "P", "X":
			want = "E01"
		}
		wantAnswer(t, counting(t), s, command, want, then)
	}
}

// TestFewFrames: ErrRoom is told alone, or all that is told is right; what the guest does not need to be asked for has room always.
func TestFewFrames(t *testing.T) { // P7.2
	words := image(li(1, 5), st(1, 7, 40), st(1, 7, 60), st(1, 7, 80), addi(1, 1, 1), jmp(-4))
	tape := recorded(t, words, api.World{}, 40)
	s := api.Session{At: 20, Breaks: []int{2}, Watches: []int{80}}
	told, full := 0, 0
	for frames := range 64 {
		u := api.Setup{Frames: frames, Every: 3, Keep: 2}
		for _, command := range []string{"?", "s", "bs", "c", "bc", "g", "m38,5", "Z0,9", "z2,80", "what", "M"} {
			want, wantP, _ := stub.Answer(roomy, tape, s, packet(command))
			got, p, e := stub.Answer(u, tape, s, packet(command))
			if e == api.ErrRoom {
				full++
				wantRefused(t, command, u, tape, s, packet(command), api.ErrRoom)
				continue
			}
			told++
			if e != api.OK || p != wantP || !sameSession(got, want) {
				t.Errorf("%q with %d frames: %v, %q, %v; want %v, %q, OK", command, frames, got, p, e, want, wantP)
			}
		}
	}
	if told < 400 || full < 6 {
		t.Errorf("%d times told, %d times without room", told, full)
	}
}

// TestEnoughFrames: with 16 * (Keep + 2) of them there is room, though the guest writes to all its pages.
func TestEnoughFrames(t *testing.T) { // P7.2
	words := image(addi(3, 3, 1), addi(1, 1, 16), addi(2, 1, -api.Words), api.Instr{Op: api.Jn, A: 2, N: 2}, addi(1, 2, 16),
		st(3, 1, 0), st(3, 7, 15), jmp(-7))
	for at := len(words); at < api.Words; at++ {
		words = append(words, -at)
	}
	tape := recorded(t, words, api.World{}, 1300)
	s := api.Session{At: 1200, Breaks: []int{4}, Watches: []int{16}}
	for _, command := range []string{"?", "s", "bs", "c", "bc", "g", "m0,40"} {
		want, wantP, _ := stub.Answer(api.Setup{Frames: 200, Every: 9, Keep: 1}, tape, s, packet(command))
		for keep := 1; keep <= api.MaxPoints; keep += 1 + keep/3 {
			for _, every := range []int{1, 13, 130, 1300} {
				u := api.Setup{Frames: 16 * (keep + 2), Every: every, Keep: keep}
				got, p, e := stub.Answer(u, tape, s, packet(command))
				if e != api.OK || p != wantP || !sameSession(got, want) {
					t.Errorf("%q with %v: %v, %q, %v; want %v, %q, OK", command, u, got, p, e, want, wantP)
				}
			}
		}
	}
}
