package stub_test

import (
	"fmt"
	"strings"
	"testing"

	"hourglass/api"
	"hourglass/stub"
)

// wantFrame: this is the packet of a text, and the text is that of the packet, if that is not too long.
func wantFrame(t *testing.T, text, want string) {
	t.Helper()
	if p, e := stub.Frame(text); p != want || e != api.OK {
		t.Errorf("Frame %.99q: %.99q, %v; want %.99q, OK", text, p, e, want)
	}
	if len(want) > api.MaxPacket {
		wantNoText(t, want, api.ErrSize)
		return
	}
	if s, e := stub.Open(want); s != text || e != api.OK {
		t.Errorf("Open %q: %q, %v; want %q, OK", want, s, e, text)
	}
}

// wantNoText: Open refuses so, and tells nothing else.
func wantNoText(t *testing.T, p string, want api.Errno) {
	t.Helper()
	if s, e := stub.Open(p); s != "" || e != want {
		t.Errorf("Open %.250q: %q, %v; want nothing, %v", p, s, e, want)
	}
}

// wantNoPacket: Frame refuses so, and tells nothing else.
func wantNoPacket(t *testing.T, text string, want api.Errno) {
	t.Helper()
	if p, e := stub.Frame(text); p != "" || e != want {
		t.Errorf("Frame %.99q: %.99q, %v; want nothing, %v", text, p, e, want)
	}
}

func TestPackets(t *testing.T) { // P7.1
	for text, want := range map[string]string{
		"":                "$#00",
		"?":               "$?#3f",
		"g":               "$g#67",
		"c":               "$c#63",
		"bs":              "$bs#d5",
		"OK":              "$OK#9a",
		"E01":             "$E01#a6",
		"\x00":            "$\x00#00",
		"\x0a":            "$\x0a#0a",
		"\xff":            "$\xff#ff",
		"\xff\x01":        "$\xff\x01#00",
		"\xff\xff\xff":    "$\xff\xff\xff#fd",
		"m0,4":            "$m0,4#fd",
		" a b\n":          "$ a b\n#0d",
		"\u00e9\u20ac":    "$\u00e9\u20ac#7c",
		"T3:0":            "$T3:0#f1",
		"+-*}{":           "$+-*}{#7a",
		"0123456789abcde": "$0123456789abcde#fc",
	} {
		wantFrame(t, text, want)
	}
	for sum := range 256 {
		text := string([]byte{byte(128 + sum/2), byte(128 + sum - sum/2)})
		wantFrame(t, text, fmt.Sprintf("$%s#%02x", text, sum))
	}
}

func TestFrameSizes(t *testing.T) { // P7.1
	for _, n := range []int{1, 195, 196, 197, 198, 200, 201, 59999, 60000} {
		text := strings.Repeat("z", n)
		wantFrame(t, text, packet(text))
	}
	for _, n := range []int{60001, 60002, 1 << 20} {
		wantNoPacket(t, strings.Repeat("z", n), api.ErrSize)
		wantNoPacket(t, strings.Repeat("#", n), api.ErrSize)
	}
	// Sizes are those of bytes: each of these letters has two.
	wantFrame(t, strings.Repeat("\u00e9", 30000), packet(strings.Repeat("\u00e9", 30000)))
	wantNoPacket(t, strings.Repeat("\u00e9", 30000)+"z", api.ErrSize)
}

func TestFrameForms(t *testing.T) { // P7.1
	for _, text := range []string{"$", "#", "$#", "a$", "$a", "a#b", "a$b", "$?#3f", "\xff#", strings.Repeat("z", 59999) + "$"} {
		wantNoPacket(t, text, api.ErrForm)
	}
}

func TestOpenForms(t *testing.T) { // P7.1
	for _, p := range []string{
		"", "$", "#", "?", "+", "-", "$#", "$#0", "#00", "$00", "00", "3f", "?#3f", "$?3f", "$?#", "$?#3", "$?#f",
		"$?#3f0", "$?#03f", "$?#3f ", " $?#3f", "+$?#3f", "$?#3f#", "$?#3f$", "$?#3f$?#3f", "$$?#63", "$?$#63", "$?##62", "$#?#62", "$#?#3f",
		"$$#24", "$##23", "$$#00", "$##00", "#?$3f", "#?#3f", "$?$3f", "\x00$?#3f",
	} {
		wantNoText(t, p, api.ErrForm)
	}
}

// TestOpenSums: of all that may stand in two bytes only the digits of the sum are right. Other digits are wrong, and what is no digit is, too.
func TestOpenSums(t *testing.T) { // P7.1
	for _, text := range []string{"?", "", "bs", "jk", "\xab"} {
		right := packet(text)
		begin := right[:len(right)-2]
		for n := range 1 << 16 {
			p := begin + string([]byte{byte(n >> 8), byte(n)})
			if p != right {
				wantNoText(t, p, api.ErrSum)
			}
		}
	}
	for _, p := range []string{"$?#3e", "$?#f3", "$?#3F", "$?#zz", "$#01", "$bs#D5", "$bs#dS", "$g#68", "$G#67"} {
		wantNoText(t, p, api.ErrSum)
	}
}

func TestOpenSizes(t *testing.T) { // P7.1
	for _, n := range []int{198, 199, 200} {
		text := strings.Repeat("q", n-4)
		wantFrame(t, text, packet(text))
		wantNoText(t, strings.Repeat("q", n), api.ErrForm)
	}
	for _, n := range []int{201, 202, 60000, 1 << 20} {
		text := strings.Repeat("q", n-4)
		wantNoText(t, packet(text), api.ErrSize)
		wantNoText(t, "$"+text+"#zz", api.ErrSize)
		wantNoText(t, strings.Repeat("$", n), api.ErrSize)
	}
}

// TestDrawnPackets: of few letters, so that packets are among them.
func TestDrawnPackets(t *testing.T) { // P7.1
	const letters = "$#$#?s0123456789abcdefF"
	d := die(71)
	var opened, wrong int
	for range 60000 {
		b := []byte("$")
		for range d.below(4) {
			b = append(b, letters[d.below(len(letters))])
		}
		p := string(b) + fmt.Sprintf("#%02x", d.below(256))
		switch d.below(4) {
		case 0:
			p = string(b) + fmt.Sprintf("%02x", d.below(256))
		case 1:
			p = packet(string(b[1:]))
		}
		text, e := stub.Open(p)
		mark := strings.LastIndexByte(p, '#')
		want := api.OK
		switch {
		case mark != len(p)-3 || strings.ContainsAny(p[1:mark], "$#"):
			want = api.ErrForm
		case packet(p[1:mark]) != p:
			want = api.ErrSum
			wrong++
		default:
			opened++
		}
		if e != want || want == api.OK && text != p[1:mark] || want != api.OK && text != "" {
			t.Errorf("%q: %q, %v; want %v", p, text, e, want)
		}
	}
	if opened < 5000 || wrong < 5000 {
		t.Errorf("only %d packets, and %d with wrong digits", opened, wrong)
	}
}
