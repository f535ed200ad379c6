package tests

import (
	"fmt"
	"math/rand"
	"regexp"
	"slices"
	"strconv"
	"strings"
	"testing"

	"loop.example/g00466/impl"
)

var plainNumber = regexp.MustCompile(`^(0|[1-9][0-9]{0,8}|1000000000)$`)

var plainLine = regexp.MustCompile(`^[ -~]{0,600}$`)

// plainForms are the lines that there are: words, and how many numbers stand behind them.
var plainForms = map[string]int{"tunnel": 1, "route": 3, "start": 1, "carry": 1, "lose": 1, "twice": 1, "tick": 1, "send": 2, "turn": 2, "roam": 2, "take": 2, "calm": 1}

var plainKinds = map[string]int{"start": 1, "carry": 2, "lose": 3, "twice": 4, "tick": 5, "send": 6, "turn": 7, "roam": 8, "take": 10}

func plainScriptEvent(word string, numbers []int) impl.Event {
	e := impl.Event{Kind: plainKinds[word]}
	switch {
	case len(numbers) == 2:
		e.At, e.Num = numbers[0], numbers[1]
	case word == "start":
		e.At = numbers[0]
	default:
		e.Num = numbers[0]
	}
	return e
}

// plainScriptLine adds what a line tells, and answers whether it may stand there, of words ahead of it as told.
func plainScriptLine(s *impl.Script, ahead []string, word string, numbers []int) bool {
	isAhead := func(words ...string) bool {
		return slices.ContainsFunc(ahead, func(w string) bool { return slices.Contains(words, w) })
	}
	if isAhead("calm") || isAhead("tunnel") == (word == "tunnel") {
		return false
	}
	switch word {
	case "tunnel":
		s.Mode = numbers[0]
		return s.Mode == 1 || s.Mode == 2
	case "route":
		s.Routes = append(s.Routes, routeOf(numbers[0], numbers[1], numbers[2]))
		return len(s.Events) == 0 && plainRoutesOk(s.Routes)
	case "calm":
		s.Calm = numbers[0]
		return true
	}
	s.Events = append(s.Events, plainScriptEvent(word, numbers))
	return len(s.Events) <= 50
}

func plainReadScript(text string) (impl.Script, int) {
	if len(text) > 2500 {
		return impl.Script{}, -1
	}
	var s impl.Script
	var ahead []string
	for i, line := range strings.Split(text, "\n") {
		parts := slices.DeleteFunc(strings.Split(line, " "), func(p string) bool { return p == "" })
		if !plainLine.MatchString(line) || len(parts) > 10 {
			return impl.Script{}, i + 1
		}
		if len(parts) == 0 || strings.HasPrefix(parts[0], "#") {
			continue
		}
		var numbers []int
		for _, p := range parts[1:] {
			if !plainNumber.MatchString(p) {
				return impl.Script{}, i + 1
			}
			n, _ := strconv.Atoi(p)
			numbers = append(numbers, n)
		}
		count, isWord := plainForms[parts[0]]
		if !isWord || count != len(numbers) || !plainScriptLine(&s, ahead, parts[0], numbers) {
			return impl.Script{}, i + 1
		}
		ahead = append(ahead, parts[0])
	}
	if len(ahead) == 0 {
		return impl.Script{}, 1
	}
	return s, 0
}

func plainConsole(text string) string {
	s, fault := plainReadScript(text)
	if fault != 0 {
		return fmt.Sprintf("fault %d\n", fault)
	}
	w := impl.WorldNew(s.Mode, s.Routes)
	told := ""
	for i, e := range s.Events {
		w = plainStepWorld(w, e)
		if i > 0 {
			told += " "
		}
		told += fmt.Sprint(lastCode(w))
	}
	if told != "" {
		told += "\n"
	}
	return told + plainShowWorld(plainCalm(w, s.Calm))
}

func sameScript(s, r impl.Script) bool {
	return s.Mode == r.Mode && s.Calm == r.Calm && slices.Equal(s.Routes, r.Routes) && slices.Equal(s.Events, r.Events)
}

// checkScript holds what is read against the plain way, and answers the line at fault.
func checkScript(t *testing.T, text string) int {
	t.Helper()
	want, wantFault := plainReadScript(text)
	got, fault := impl.ReadScript(text)
	if !sameScript(got, want) || fault != wantFault {
		t.Fatalf("ReadScript(%q of %d bytes) = %s, %d; want %s, %d", brief(text), len(text), brief(got), fault, brief(want), wantFault)
	}
	return fault
}

// checkFault holds a script to the line at fault, which the console tells alone.
func checkFault(t *testing.T, fault int, text string) {
	t.Helper()
	if got := checkScript(t, text); got != fault {
		t.Fatalf("in %q the fault is %d; want %d", brief(text), got, fault)
	}
	if got := impl.Console(text); fault != 0 && got != fmt.Sprintf("fault %d\n", fault) {
		t.Fatalf("Console(%q) = %q", brief(text), brief(got))
	}
}

// checkTold holds a script to what it tells.
func checkTold(t *testing.T, text string, want impl.Script) {
	t.Helper()
	checkFault(t, 0, text)
	if got, _ := impl.ReadScript(text); !sameScript(got, want) {
		t.Fatalf("ReadScript(%q) = %v; want %v", text, got, want)
	}
}

func checkConsole(t *testing.T, text string) string {
	t.Helper()
	want := plainConsole(text)
	got := impl.Console(text)
	if got != want {
		t.Fatalf("Console(%q) = %q; want %q", text, got, want)
	}
	return got
}

func TestP33ReadScript(t *testing.T) {
	if impl.MaxScript != 2500 {
		t.Errorf("MaxScript is %d", impl.MaxScript)
	}
	checkTold(t, "tunnel 1", impl.Script{Mode: 1})
	checkTold(t, "tunnel 2\n", impl.Script{Mode: 2})
	checkTold(t, "tunnel 2\ncalm 0\n", impl.Script{Mode: 2})
	checkTold(t, "tunnel 1\ncalm 1000000000", impl.Script{Mode: 1, Calm: 1000000000})
	checkTold(t, "tunnel 1\nroute 16 4 2\nroute 0 0 9\ncalm 7", impl.Script{Mode: 1, Routes: []impl.Route{routeOf(16, 4, 2), routeOf(0, 0, 9)}, Calm: 7})
	checkTold(t, "tunnel 1\nstart 0\nstart 5\ncarry 3\nlose 4\ntwice 5\ntick 6\nsend 1 20\nturn 2 7\nroam 3 8\ntake 4 9\ncalm 30\n", impl.Script{Mode: 1, Calm: 30, Events: []impl.Event{
		{Kind: impl.EvStart}, {Kind: impl.EvStart, At: 5}, {Kind: impl.EvCarry, Num: 3}, {Kind: impl.EvLose, Num: 4}, {Kind: impl.EvTwice, Num: 5}, {Kind: impl.EvTick, Num: 6},
		{Kind: impl.EvSend, At: 1, Num: 20}, {Kind: impl.EvTurn, At: 2, Num: 7}, {Kind: impl.EvRoam, At: 3, Num: 8}, {Kind: impl.EvTake, At: 4, Num: 9}}})
	checkTold(t, "tunnel 2\nsend 1000000000 1000000000", impl.Script{Mode: 2, Events: []impl.Event{{Kind: impl.EvSend, At: 1000000000, Num: 1000000000}}})
}

// Lines of nothing, of blanks and of remarks are passed over wherever they stand; blanks stand anywhere.
func TestP33PassedOver(t *testing.T) {
	want := impl.Script{Mode: 1, Routes: []impl.Route{routeOf(16, 4, 2)}, Events: []impl.Event{{Kind: impl.EvTick, Num: 3}}, Calm: 2}
	lines := []string{"tunnel 1", "route 16 4 2", "tick 3", "calm 2"}
	for _, over := range []string{"", " ", "      ", "#", "#tunnel 1", "# a remark", "   # calm 7", "#####", "# 1 2 3 4 5 6 7 8 9", strings.Repeat(" ", 600), "#" + strings.Repeat("x", 599)} {
		for at := range 5 {
			script := strings.Join(slices.Insert(slices.Clone(lines), at, over), "\n")
			checkTold(t, script, want)
			checkTold(t, script+"\n", want)
			checkTold(t, script+"\n\n", want)
		}
	}
	checkTold(t, "\n\n#\n  tunnel   1  \n\n# x\n route  16 4   2\n\n   tick     3\n\n#\n\n  calm 2 \n\n\n# the end\n\n", want)
	// What looks like a remark behind a line is none.
	for _, line := range []string{"tick 3 # x", "tick 3#", "tick # 3", "x# y"} {
		checkFault(t, 3, "tunnel 1\n\n"+line+"\n")
	}
}

// A remark that PartsOf refuses is at fault, too, and so is any line with other bytes.
func TestP33RefusedLines(t *testing.T) {
	bad := []string{"\t", "\r", "\x00", "\x7f", "\x80", "\xff\xfe", "ä", "日本", "tick 3\r", "tick\t3", "#\r", "# ä", "# \xff", "# 1 2 3 4 5 6 7 8 9 10", "tick 1 2 3 4 5 6 7 8 9 10", "#" + strings.Repeat("x", 600), strings.Repeat(" ", 601), "\u2028", "\xe2\x80", "\xe2", "\xf0\x9f\x98"}
	lines := []string{"tunnel 1", "route 16 4 2", "tick 3", "calm 2"}
	for _, line := range bad {
		for at := range 5 {
			script := strings.Join(slices.Insert(slices.Clone(lines), at, line), "\n")
			checkFault(t, at+1, script)
			checkFault(t, at+1, script+"\n")
		}
	}
	// Bytes that are no UTF-8 end no line, and hide no end of one.
	checkFault(t, 3, "tunnel 1\n#\n\xe2\x80\n\n")
	checkFault(t, 2, "tunnel 1\n\xe2\ntick 3\n\xff")
	checkFault(t, 1, "\xc2\ntunnel 1\n")
}

// At each place: a word that is none, too few parts and too many, and numbers that are none.
func TestP33WrongWords(t *testing.T) {
	heads := []string{"", "tunnel 1\n", "tunnel 1\nroute 16 4 2\n", "tunnel 1\nroute 16 4 2\ntick 1\n", "tunnel 1\nroute 16 4 2\ntick 1\ncalm 2\n"}
	for _, head := range heads {
		line := 1 + strings.Count(head, "\n")
		wrong := []string{"what", "forge 0 1", "forge 0 1 x", "Tunnel 1", "TICK 1", "tunnel1", "tick1", "1", "1 tick", "routes 16 4 2", "star 0", "starts 0", "calmer 2", "tick 1;", "-", "tunnel", "route", "tick", "calm"}
		for word, count := range plainForms {
			right := strings.Repeat(" 1", count)
			wrong = append(wrong, word+right+" 1", word+right[2:], word+right+" x", word+strings.ReplaceAll(right, "1", "01"))
			for _, number := range []string{"-1", "+1", "00", "1.0", "0x1", "x", "1000000001", "9999999999", "99999999999999999999", "1_0", "\"1\""} {
				wrong = append(wrong, word+right[2:]+" "+number, word+" "+number+right[2:])
			}
		}
		for _, w := range wrong {
			checkFault(t, line, head+w)
			checkFault(t, line, head+w+"\n\nwhat\n")
		}
	}
}

func TestP33WrongPlaces(t *testing.T) {
	for _, c := range []struct {
		fault int
		text  string
	}{
		{2, "tunnel 1\ntunnel 1"}, {2, "tunnel 1\ntunnel 2"}, {4, "tunnel 1\nroute 16 4 2\n\ntunnel 1\n"}, {3, "tunnel 1\ntick 1\ntunnel 1"}, {3, "tunnel 1\ncalm 1\ntunnel 1"},
		{1, "route 16 4 2\ntunnel 1"}, {1, "tick 1\ntunnel 1"}, {1, "calm 1\ntunnel 1"}, {1, "start 0"}, {3, "\n\ntick 1"}, {3, "#\n#\ncalm 1\n"}, {2, "# x\nroute 16 4 2\n"},
		{3, "tunnel 1\nstart 0\nroute 16 4 2"}, {5, "tunnel 1\nroute 0 0 1\n\ntick 1\nroute 16 4 2\n"}, {3, "tunnel 1\ncalm 1\nroute 16 4 2"},
		{3, "tunnel 1\ncalm 1\ncalm 1"}, {3, "tunnel 1\ncalm 0\ncalm 0"}, {4, "tunnel 1\ntick 1\ncalm 1\ntick 1"}, {3, "tunnel 1\ncalm 0\nstart 0"}, {4, "tunnel 1\ncalm 1\n\ncalm 2\n"},
		{1, "tunnel 0"}, {1, "tunnel 3"}, {1, "tunnel 1000000000"}, {2, "\ntunnel 3\ntunnel 1\n"},
	} {
		checkFault(t, c.fault, c.text)
	}
	for word, count := range plainForms { // behind a calm, and ahead of a tunnel, nothing stands
		line := word + strings.Repeat(" 0", count)
		checkFault(t, 3, "tunnel 2\ncalm 5\n"+line)
		checkFault(t, 1, line+"\n"+line)
	}
}

// Without a tunnel the fault is 1, when no other line is at fault.
func TestP33NoTunnel(t *testing.T) {
	for _, text := range []string{"", "\n", "\n\n\n", " ", "#", "# tunnel 1", "#\n#\n#\n", "   \n\n # x\n", strings.Repeat("\n", 2500)} {
		checkFault(t, 1, text)
	}
	checkFault(t, 3, "\n\n\x01")
}

// Routes are looked at beside those ahead.
func TestP33Routes(t *testing.T) {
	eight := "tunnel 1\n"
	for n := range 8 {
		eight += fmt.Sprintf("route %d 8 %d\n", n, n)
	}
	checkFault(t, 0, eight)
	checkFault(t, 10, eight+"route 8 8 8\n")
	checkFault(t, 0, eight+"tick 1\n")
	for _, route := range []string{"256 8 1", "0 9 1", "0 0 10", "1 7 1", "16 3 1", "128 0 1", "16 4 2", "16 4 3", "1000000000 8 1", "0 1000000000 1"} {
		checkFault(t, 3, "tunnel 1\nroute 16 4 2\nroute "+route+"\nwhat")
	}
	for _, route := range []string{"255 8 0", "16 5 2", "0 4 2", "0 0 0", "128 1 9"} {
		checkFault(t, 0, "tunnel 1\nroute 16 4 2\nroute "+route+"\n")
	}
}

func TestP33Limits(t *testing.T) {
	fifty := "tunnel 1\n" + strings.Repeat("tick 1\n", 50)
	checkFault(t, 0, fifty)
	checkFault(t, 0, fifty+"calm 1\n#\n")
	checkFault(t, 52, fifty+"tick 1\n")
	checkFault(t, 52, fifty+"tick 1\nwhat\n")
	checkFault(t, 53, fifty+"\nstart 0")
	for _, script := range []string{"tunnel 1\n", "tunnel 1\nwhat\n", fifty} {
		for _, filling := range []string{"\n", "# \n", "#" + strings.Repeat("x", 500) + "\n"} {
			full := script
			for len(full)+len(filling) <= 2500 {
				full += filling
			}
			full += strings.Repeat(" ", 2500-len(full))
			fault := 0
			if strings.Contains(script, "what") {
				fault = 2
			}
			checkFault(t, fault, full)
			checkFault(t, -1, full+"\n")
			checkFault(t, -1, full+" ")
			checkFault(t, -1, full+full)
		}
	}
	for _, text := range []string{strings.Repeat("\n", 2501), strings.Repeat("x", 2501), strings.Repeat("\xff", 2501), strings.Repeat("what\n", 100000)} {
		checkFault(t, -1, text)
	}
}

// A script tells what its events do.
func TestP33Console(t *testing.T) {
	for text, want := range map[string]string{
		"":                            "fault 1\n",
		"what":                        "fault 1\n",
		"tunnel 1\n\nwhat\n":          "fault 3\n",
		strings.Repeat("\n", 2501):    "fault -1\n",
		"tunnel 1":                    "client 1 idle 0\nclient 2 idle 0\ngate 0 open 0 drops 0\ngot 0\n",
		"tunnel 1\ncalm 0":            "client 1 idle 0\nclient 2 idle 0\ngate 0 open 0 drops 0\ngot 0\n",
		"tunnel 2\ncalm 1":            "client 1 open 10\nclient 2 open 11\ngate 2 open 2 drops 0\ngot 0\n",
		"tunnel 1\nstart 0":           "0\nclient 1 hello 0\nclient 2 idle 0\ngate 0 open 0 drops 0\ngot 0\n",
		"tunnel 1\nstart 0\nstart 2":  "0 1\nclient 1 hello 0\nclient 2 idle 0\ngate 0 open 0 drops 0\ngot 0\n",
		"tunnel 1\ncarry 0\nsend 1 3": "9 1\nclient 1 idle 0\nclient 2 idle 0\ngate 0 open 0 drops 0\ngot 0\n",
	} {
		if got := checkConsole(t, text); got != want {
			t.Errorf("Console(%q) = %q; want %q", brief(text), got, want)
		}
	}
	for _, mode := range []string{"1", "2"} {
		script := "tunnel " + mode + "\nroute 16 4 2\nroute 32 3 5\n# both come to an end\nstart 0\nstart 1\n" + strings.Repeat("carry 0\n", 12) + "send 0 20\nsend 1 10\nsend 1 34\n" + strings.Repeat("carry 0\n", 3)
		if got, want := checkConsole(t, script), "0 0 "+strings.Repeat("0 ", 12)+"0 0 0 0 0 0\nclient 1 open 10\nclient 2 open 11\ngate 2 open 2 drops 0\nout 2 10 20 20\nout 5 11 34 34\ngot 3\n"; got != want {
			t.Errorf("of the mode %s it is %q; want %q", mode, got, want)
		}
		checkConsole(t, script+"turn 0 0\nturn 0 1\nroam 1 2\ntake 0 1\ntick 3\ntwice 0\nlose 1\ncalm 3")
	}
	// As often as calm tells, and 30 times at most; clients that fail start anew.
	for _, n := range []string{"0", "1", "2", "29", "30", "31", "1000000000"} {
		checkConsole(t, "tunnel 1\nstart 0\nlose 0\ntick 3\ncalm "+n)
	}
}

func drawScriptLine(draw *rand.Rand, words []string) string {
	word := words[draw.Intn(len(words))]
	line := word
	for range plainForms[word] {
		line += " " + strconv.Itoa(draw.Intn(40))
	}
	return line
}

func drawScript(draw *rand.Rand) string {
	events := []string{"start", "carry", "carry", "carry", "lose", "twice", "tick", "send", "send", "turn", "roam", "take"}
	lines := []string{fmt.Sprintf("tunnel %d", 1+draw.Intn(2))}
	for i := range draw.Intn(4) {
		lines = append(lines, fmt.Sprintf("route %d %d %d", 16*i, 4+draw.Intn(4), draw.Intn(10)))
	}
	if draw.Intn(2) == 0 {
		lines = append(lines, "start 0", "carry 0", "carry 0", "carry 0", "carry 0", "carry 0", "carry 0", "send 0 20", "carry 0")
	}
	for range draw.Intn(40) {
		line := drawScriptLine(draw, events)
		if strings.HasPrefix(line, "carry") && draw.Intn(2) == 0 {
			line = "carry 0"
		}
		lines = append(lines, line)
	}
	if draw.Intn(2) == 0 {
		lines = append(lines, fmt.Sprintf("calm %d", draw.Intn(5)))
	}
	for range draw.Intn(3) {
		lines = slices.Insert(lines, draw.Intn(len(lines)+1), []string{"", "# x", "  "}[draw.Intn(3)])
	}
	return strings.Join(lines, "\n") + []string{"", "\n"}[draw.Intn(2)]
}

func TestP33DrawnScripts(t *testing.T) {
	draw := rand.New(rand.NewSource(86))
	for range 60 {
		text := drawScript(draw)
		checkFault(t, 0, text)
		checkConsole(t, text)
	}
	words := []string{"tunnel", "route", "calm", "tick", "start", "send", "what", "#"}
	faults := map[bool]int{}
	for range 3000 {
		text := drawScript(draw)
		switch lines := strings.SplitAfter(text, "\n"); draw.Intn(4) {
		case 0: // another line somewhere
			lines = slices.Insert(lines, draw.Intn(len(lines)+1), drawScriptLine(draw, words)+"\n")
			text = strings.Join(lines, "")
		case 1: // two lines change places
			i, j := draw.Intn(len(lines)), draw.Intn(len(lines))
			lines[i], lines[j] = lines[j], lines[i]
			text = strings.Join(lines, "")
		case 2: // a byte turned
			at := draw.Intn(len(text))
			text = withByte(text, at, byte(draw.Intn(256)))
		case 3: // cut short
			text = text[:draw.Intn(len(text))]
		}
		faults[checkScript(t, text) == 0]++
	}
	if faults[true] < 500 || faults[false] < 500 {
		t.Errorf("faults are %v", faults)
	}
	for range 2000 {
		checkScript(t, drawText(draw, draw.Intn(40)))
		checkScript(t, "tunnel 1\n"+drawText(draw, draw.Intn(40)))
	}
}

func TestP33AnswersAreNewMemory(t *testing.T) {
	text := "tunnel 1\nroute 16 4 2\nroute 32 3 5\ntick 1\ntick 2\n"
	s, _ := impl.ReadScript(text)
	routes, events := s.Routes[:cap(s.Routes)], s.Events[:cap(s.Events)]
	for i := range routes {
		routes[i] = routeOf(-9, -9, -9)
	}
	for i := range events {
		events[i] = eventOf(-9, -9, -9)
	}
	checkFault(t, 0, text)
}
