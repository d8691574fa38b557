package tests

import (
	"fmt"
	"math"
	"math/rand"
	"strings"
	"testing"

	"loop.example/g01134/impl"
)

// Promise 21.

// numbersToTry are numbers around those that deeds may have.
var numbersToTry = []int64{math.MinInt64, -1000, -1, 0, 1, 9, 10, 99, 100, 999, 1000, math.MaxInt64}

// deedsToTry returns deeds of all kinds, valid ones and others.
func deedsToTry() []impl.Deed {
	var list []impl.Deed
	for _, kind := range []int64{math.MinInt64, -1, 0, 1, 2, 3, 4, 5, 6, 7, 8, 9, math.MaxInt64} {
		for _, a := range numbersToTry {
			for _, b := range numbersToTry {
				list = append(list, impl.Deed{Kind: kind, A: a, B: b})
			}
		}
	}
	return list
}

func TestDeedTexts(t *testing.T) {
	valid := 0
	for _, d := range deedsToTry() {
		text := ""
		if isDeed(d) {
			text = deedText(d)
			valid++
		}
		if got := impl.ValidDeed(d); got != (text != "") {
			t.Errorf("%v is valid: %v", d, got)
		}
		if got := impl.DeedText(d); got != text {
			t.Errorf("%v has the text %q, not %q", d, got, text)
		}
		if text == "" {
			continue
		}
		if got, code := impl.ReadDeed(text); got != d || code != impl.OK {
			t.Errorf("%q is read as %v, %d", text, got, code)
		}
	}
	if valid != 2*49+6*7 {
		t.Errorf("%d valid deeds", valid)
	}
}

// TestEachDeedText has a text of each kind.
func TestEachDeedText(t *testing.T) {
	for text, want := range map[string]impl.Deed{
		"move 0 999":  {Kind: impl.DdMove, A: 0, B: 999},
		"move 999 0":  {Kind: impl.DdMove, A: 999},
		"send 3":      {Kind: impl.DdSend, A: 3},
		"tell 2 1":    {Kind: impl.DdTell, A: 2, B: 1},
		"save 0":      {Kind: impl.DdSave},
		"crash 10":    {Kind: impl.DdCrash, A: 10},
		"deliver 999": {Kind: impl.DdDeliver, A: 999},
		"copy 7":      {Kind: impl.DdCopy, A: 7},
		"drop 11":     {Kind: impl.DdDrop, A: 11},
	} {
		d, code := impl.ReadDeed(text)
		if d != want || code != impl.OK || impl.DeedText(want) != text || !impl.ValidDeed(want) {
			t.Errorf("%q: %v, %d, and %q", text, d, code, impl.DeedText(want))
		}
	}
}

// noDeeds returns texts that no deed has.
func noDeeds() []string {
	return []string{"", " ", "\n", "0", " 0", "move", "move ", "move 0", "move 0 ", "move 0 1 ", "move 0  1", "move  0 1", " move 0 1", "move 0 1 2", "move 0 1 0", "move\t0 1", "move 0 1\n", "\nmove 0 1",
		"Move 0 1", "MOVE 0 1", "moved 0 1", "mov 0 1", "move0 1", "move 01 1", "move 0 01", "move 00 1", "move -1 1", "move 0 -1", "move -0 1", "move +0 1", "move 0 +1", "move 1000 1", "move 0 1000", "move a 1", "move 0 x",
		"move 0,1", "move 0x1 1", "move 0 1_0", "move 0 1e1", "move 0 1.0", "move 99999999999999999999 1", "move 0 18446744073709551617", "tell", "tell 0", "tell 0 1 0", "tell 00 1", "tell 0 1000", "tell -1 0",
		"send", "send ", "send 0 0", "send 0 1", "send 00", "send 1000", "send -1", "send 0 ", "send  0", "send 0\r", "save", "save 0 0", "save 0 1", "save 01", "save 1000", "save\u00a00", "crash", "crash 0 0", "crash 1000", "crash 0\x00",
		"deliver", "deliver 0 0", "deliver 1000", "deliver -1", "copy", "copy 0 0", "copy 1000", "copy \uff10", "drop", "drop 0 0", "drop 1000", "drop 0.", "token 0", "verdicts", "wait 0", "what", "ok", "1 0 1", "\x00 0", "\xff 0",
		strings.Repeat("save ", 100), "save " + strings.Repeat("0", 100), strings.Repeat("x", 100000), strings.Repeat(" 0", 100000), strings.Repeat("\n", 100000)}
}

func TestReadDeedSyntax(t *testing.T) {
	for _, text := range noDeeds() {
		d, code := impl.ReadDeed(text)
		wantNone(t, fmt.Sprintf("%.50q", text), d, code, impl.ErrSyntax)
	}
}

// TestReadDeedChanged changes a byte of texts of deeds.
func TestReadDeedChanged(t *testing.T) {
	for _, d := range []impl.Deed{{Kind: 1, A: 10, B: 999}, {Kind: 2, A: 1}, {Kind: 3, A: 2}, {Kind: 4}, {Kind: 5, A: 100}, {Kind: 6, A: 9}, {Kind: 7, A: 11}, {Kind: 8, A: 3}} {
		text := deedText(d)
		for i := range len(text) + 1 {
			texts := []string{text[:i], text[i:]}
			for _, b := range " 0129-+\nadevo\x00" {
				texts = append(texts, text[:i]+string(b)+text[i:])
				if i < len(text) {
					texts = append(texts, text[:i]+text[i+1:], text[:i]+string(b)+text[i+1:])
				}
			}
			for _, changed := range texts {
				want, ok := deedIn(changed)
				got, code := impl.ReadDeed(changed)
				if got != want || (code == impl.OK) != ok || !ok && code != impl.ErrSyntax {
					t.Errorf("%q: got %v, %d, want %v, %v", changed, got, code, want, ok)
				}
			}
		}
	}
}

func wantScript(t *testing.T, r impl.Row, text, want string) {
	t.Helper()
	if got, code := impl.RunRow(r, text); got != want || code != impl.OK {
		t.Errorf("%.300q: got %.300q, %d, want %.300q", text, got, code, want)
	}
}

// TestScript has a script with all that a line can be.
func TestScript(t *testing.T) {
	r := rowOver(t, example2, "a", 2)
	want := ""
	var lines []string
	for _, c := range [][2]string{
		{"verdicts", "0 0"}, {"token 0", "0 0 0 0"}, {"token 1", "0 0 0 0"}, {"token 2", "what"}, {"", "what"},
		{"move 0 1", "ok"}, {"token 0", "1 0 1 0"}, {"send 0", "error state"}, {"tell 0 1", "error state"}, {"move 0 0", "error range"}, {"move 2 1", "error range"},
		{"move 0 999", "ok"}, {"move 0 1", "error state"}, {"send 0", "error state"}, {"save 0", "ok"}, {"send 0", "ok"}, {"token 1", "0 0 0 0"},
		{"copy 0", "ok"}, {"token 1", "2 0 2 0"}, {"move 1 999", "ok"}, {"deliver 0", "ok"}, {"token 1", "3 1 1 0"}, {"deliver 0", "error range"},
		{"crash 1", "ok"}, {"token 1", "0 0 0 0"}, {"send 0", "ok"}, {"drop 0", "ok"}, {"drop 0", "error range"}, {"copy 0", "error range"},
		{"send 0", "ok"}, {"deliver 0", "ok"}, {"move 1 1", "ok"}, {"save 1", "ok"}, {"crash 1", "ok"}, {"token 1", "3 1 1 0"}, {"send 1", "ok"}, {"deliver 0", "ok"},
		{"move 0 1", "ok"}, {"token 0", "3 1 1 1"}, {"verdicts", "1 0"}, {"tell 0 1", "error state"}, {"save 0", "ok"}, {"tell 0 0", "error range"}, {"tell 0 2", "error range"}, {"tell 1 0", "error state"},
		{"tell 0 1", "ok"}, {"deliver 1", "error range"}, {"deliver 0", "ok"}, {"verdicts", "1 1"}, {"token 1", "3 1 1 1"}, {"crash 1", "ok"}, {"verdicts", "1 0"}, {"crash 0", "ok"}, {"verdicts", "1 0"}, {"end", "what"},
	} {
		lines = append(lines, c[0])
		want += c[1] + "\n"
	}
	wantScript(t, r, strings.Join(lines, "\n"), want)
	wantScript(t, r, strings.Join(lines, "\n")+"\n", want)
	wantScript(t, r, "move 0 1\ntoken 0\nsend 0\nverdicts\ntell 0 1\nmove 0 0\ndrop 0\nx\n", "ok\n1 0 1 0\nerror state\n0 0\nerror state\nerror range\nerror range\nwhat\n")
}

// TestScriptLines has lines that are no deeds, and texts with few or no lines.
func TestScriptLines(t *testing.T) {
	r := rowOver(t, example2, "a", 1, 2)
	for _, line := range []string{"token", "token ", "token 3", "token -1", "token 00", "token +0", "token 0 ", "token  0", " token 0", "token 0 0", "token 0\r", "token\t0", "Token 0", "token0", "token 999", "token 18446744073709551616", "token x",
		"verdicts ", " verdicts", "verdict", "verdicts 0", "Verdicts", "verdicts\r", "verdicts\x00", "ok", "0"} {
		wantScript(t, r, line, "what\n")
		wantScript(t, r, line+"\nverdicts", "what\n0 0 0\n")
	}
	for _, line := range noDeeds() {
		if line != "verdicts" && line != "token 0" && !strings.Contains(line, "\n") && line != "" && len(line) < 1000 {
			wantScript(t, r, line, "what\n")
		}
	}
	for text, want := range map[string]string{
		"": "", "\n": "what\n", "\n\n": "what\nwhat\n", "\nverdicts": "what\n0 0 0\n", "verdicts\n\n": "0 0 0\nwhat\n", "token 0": "0 0 0 0\n", "token 0\n": "0 0 0 0\n",
		"save 0\n\nsave 3\r\nsave 3": "ok\nwhat\nwhat\nerror range\n",
	} {
		wantScript(t, r, text, want)
	}
	wantScript(t, rowOver(t, atOnce, ""), "verdicts\nmove 0 1\nverdicts\ntoken 0\ntell 0 0\ntoken 1\nsend 0\n", "0\nok\n1\n0 0 0 1\nerror range\nwhat\nerror state\n")
	wantScript(t, rowOver(t, example2, "aaa", 1, 2, 3), "verdicts\ntoken 3\ntoken 4\nmove 3 1", "0 0 0 0\n0 0 0 0\nwhat\nerror state\n")
}

// TestScriptLimits has texts with as many bytes and lines as there may be, and more.
func TestScriptLimits(t *testing.T) {
	r := rowOver(t, example2, "a", 1, 2)
	saves := strings.Repeat("save 0\n", 120)
	wantScript(t, r, saves, strings.Repeat("ok\n", 120))
	wantScript(t, r, saves[:len(saves)-1], strings.Repeat("ok\n", 120))
	wantScript(t, r, strings.Repeat("\n", 120), strings.Repeat("what\n", 120))
	wantScript(t, r, strings.Repeat("\n", 119)+"save 0", strings.Repeat("what\n", 119)+"ok\n")
	wantScript(t, r, strings.Repeat("x", 20000), "what\n")
	wantScript(t, r, "save 0\n"+strings.Repeat("x", 19993), "ok\nwhat\n")
	wantScript(t, r, strings.Repeat("x", 19992)+"\nsave 0\n", "what\nok\n")
	sends := strings.Repeat("send 1\n", 13)
	wantScript(t, r, sends+"send 0\nsend 3\ntell 0 1\ntell 0 0\ndrop 12\ndrop 11\nsend 2", strings.Repeat("ok\n", 12)+"error limit\nerror state\nerror range\nerror state\nerror range\nerror range\nok\nok\n")
	for name, text := range map[string]string{
		"121 lines": saves + "save 0", "121 lines, and a newline": saves + "save 0\n", "an empty line more": saves + "\n", "121 empty lines": strings.Repeat("\n", 121), "120 empty lines and one": strings.Repeat("\n", 120) + "x",
		"20001 bytes": strings.Repeat("x", 20001), "20001 bytes with newlines": strings.Repeat("x", 20000) + "\n", "many of both": strings.Repeat("save 0\n", 10000),
	} {
		out, code := impl.RunRow(r, text)
		wantNone(t, name, out, code, impl.ErrRange)
		out, code = impl.RunRow(impl.Row{}, text)
		wantNone(t, "no row", out, code, impl.ErrInvalid)
	}
	for i, odd := range oddRows() {
		out, code := impl.RunRow(odd, "verdicts\n")
		wantNone(t, fmt.Sprint("odd row ", i), out, code, impl.ErrInvalid)
	}
}

// TestRandomScripts compares answers to random lines.
func TestRandomScripts(t *testing.T) {
	rng := rand.New(rand.NewSource(83))
	others := append(noDeeds()[:60], "token 9", "token 3", "verdicts ")
	seen := map[string]int{}
	for _, r := range append(rowsToTry(t), randomRows(84, 300, 4)...) {
		random, lines := bandOf(r), []string{}
		for range rng.Intn(121) {
			line := fmt.Sprint("token ", rng.Intn(len(r.Cuts)+1))
			switch rng.Intn(10) {
			case 0:
				line = "verdicts"
			case 1, 2, 3:
			case 4:
				line = strings.Trim(others[rng.Intn(len(others))], "\n")
			default:
				d := random.randomDeed(rng)
				random.do(d)
				line = deedText(d)
			}
			lines = append(lines, line)
		}
		want := bandOf(r).answers(lines)
		for _, answer := range strings.Split(want, "\n") {
			seen[answer]++
		}
		text := ""
		for _, line := range lines {
			text += line + "\n"
		}
		wantScript(t, r, text, want)
	}
	for _, answer := range []string{"ok", "what", "error range", "error state", "0 0", "1 1", "2 2", "3 3"} {
		if seen[answer] < 5 {
			t.Errorf("%q is answered %d times", answer, seen[answer])
		}
	}
}
