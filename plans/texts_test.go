package plans_test

import (
	"fmt"
	"regexp"
	"slices"
	"strconv"
	"strings"
	"testing"

	"pointcode/api"
	"pointcode/plans"
)

// exampleText is the text of the chapter's example, and severalText that of the plan with several links for a pair.
const (
	exampleText = `place 0-0-1 end
place 0-0-2 transfer
place 0-0-3 transfer
place 0-0-4 end
line 0-0-1 0-0-2 0 1
line 0-0-1 0-0-3 0 1
line 0-0-2 0-0-3 0 1
line 0-0-2 0-0-4 0 1
line 0-0-3 0-0-4 0 1
rate 1
room 4
marks 1 2 3
`
	severalText = `place 0-0-1 end
place 0-0-2 transfer
place 0-0-3 transfer
place 0-0-4 end
place 0-1-1 end
line 0-0-1 0-0-2 3 5
line 0-0-1 0-0-3 0 1
line 0-0-1 0-0-3 7 2
line 0-0-1 0-0-3 15 3
line 0-0-2 0-0-3 15 4
line 0-0-3 0-0-4 1 6
line 0-0-3 0-0-4 2 7
rate 1
room 4
marks 1 2 3
`
	shortText = "place 7-255-7 end\nrate 16\nroom 64\nmarks 10 20 64\n"
	wideText  = "place 2-2-2 transfer\nplace 7-255-7 end\nline 2-2-2 7-255-7 15 64\nrate 10\nroom 60\nmarks 1 20 50\n"
)

// point and code are the patterns of a point code and of the code of a link; number is that of other numbers.
const (
	octetPattern = `([0-9]|[1-9][0-9]|1[0-9][0-9]|2[0-4][0-9]|25[0-5])`
	pointPattern = `([0-7])-` + octetPattern + `-([0-7])`
	numberField  = `(0|[1-9][0-9]{0,5})`
)

// forms are the patterns of the lines, in their order.
var forms = []*regexp.Regexp{
	regexp.MustCompile(`\Aplace ` + pointPattern + ` (transfer|end)\z`),
	regexp.MustCompile(`\Aline ` + pointPattern + ` ` + pointPattern + ` ` + octetPattern + ` ` + numberField + `\z`),
	regexp.MustCompile(`\Arate ` + numberField + `\z`),
	regexp.MustCompile(`\Aroom ` + numberField + `\z`),
	regexp.MustCompile(`\Amarks ` + numberField + ` ` + numberField + ` ` + numberField + `\z`),
}

// beginnings and orders are the patterns of the numbers of the forms that lines have in the beginning of a text, and in a whole one.
var (
	beginnings = regexp.MustCompile(`\A0*1*(2|23|234)?\z`)
	orders     = regexp.MustCompile(`\A0*1*234\z`)
)

// formOf returns the number of the form that a line has, and the parts of the pattern.
func formOf(s string) (int, []string) {
	for i, form := range forms {
		if parts := form.FindStringSubmatch(s); parts != nil {
			return i, parts[1:]
		}
	}
	return -1, nil
}

// enter enters what a line of a form says into a plan.
func enter(p *plans.Plan, form int, parts []string) {
	var n []int
	for _, part := range parts {
		k, _ := strconv.Atoi(part)
		n = append(n, k)
	}
	pointOf := func(n []int) api.Point { return api.Point(2048*n[0] + 8*n[1] + n[2]) }
	switch form {
	case 0:
		p.Places = append(p.Places, plans.Place{Code: pointOf(n), Transfer: parts[3] == "transfer"})
	case 1:
		p.Lines = append(p.Lines, line(pointOf(n), pointOf(n[3:]), uint8(n[6]), n[7]))
	case 2:
		p.Rate = n[0]
	case 3:
		p.Room = n[0]
	case 4:
		p.Marks = [3]int(n)
	}
}

// planOf returns the plan and the fault of a text, from the definition.
func planOf(s string) (plans.Plan, plans.Fault) {
	if len(s) > 1048576 {
		return plans.Plan{}, plans.Fault{E: api.ErrLimit}
	}
	var p plans.Plan
	order := ""
	pieces := strings.Split(s, "\n")
	last := len(pieces) - 1
	for i, piece := range pieces[:last] {
		form, parts := formOf(piece)
		order += strconv.Itoa(form)
		if form < 0 || !beginnings.MatchString(order) {
			return plans.Plan{}, plans.Fault{E: api.ErrForm, Line: i + 1}
		}
		enter(&p, form, parts)
	}
	if pieces[last] != "" || !orders.MatchString(order) {
		return plans.Plan{}, plans.Fault{E: api.ErrForm, Line: last + 1}
	}
	if e := errorOf(p); e != api.OK {
		return plans.Plan{}, plans.Fault{E: e}
	}
	return p, plans.Fault{}
}

// checkRead compares what Read returns with what planOf returns, and returns the fault.
func checkRead(t *testing.T, s string) plans.Fault {
	t.Helper()
	want, fault := planOf(s)
	p, f := plans.Read(s)
	if f != fault || !equal(p, want) || cap(p.Places) != len(p.Places) || cap(p.Lines) != len(p.Lines) {
		t.Fatalf("Read of %q is %v, %v, not %v, %v", s, p, f, want, fault)
	}
	if f != (plans.Fault{}) {
		return f
	}
	if back, e := plans.Write(p); back != s || e != api.OK {
		t.Fatalf("Write of Read of %q is %q, %d", s, back, e)
	}
	return f
}

// equal reports whether two plans are equal.
func equal(a, b plans.Plan) bool {
	return slices.Equal(a.Places, b.Places) && slices.Equal(a.Lines, b.Lines) && a.Rate == b.Rate && a.Room == b.Room && a.Marks == b.Marks
}

// P13.6

func TestWriteAndRead(t *testing.T) {
	short := plans.Plan{Places: []plans.Place{{Code: 16383}}, Rate: 16, Room: 64, Marks: [3]int{10, 20, 64}}
	wide := plans.Plan{Places: []plans.Place{{Code: 4114, Transfer: true}, {Code: 16383}}, Lines: []plans.Line{line(4114, 16383, 15, 64)}, Rate: 10, Room: 60, Marks: [3]int{1, 20, 50}}
	for _, x := range []struct {
		p    plans.Plan
		text string
	}{{example(), exampleText}, {several(), severalText}, {short, shortText}, {wide, wideText}} {
		if s, e := plans.Write(x.p); s != x.text || e != api.OK {
			t.Errorf("Write is %q, %d, not %q", s, e, x.text)
		}
		if p, f := plans.Read(x.text); !equal(p, x.p) || f != (plans.Fault{}) {
			t.Errorf("Read of %q is %v, %v", x.text, p, f)
		}
		checkRead(t, x.text)
	}
}

// textOf returns the text of a plan, from the definition.
func textOf(p plans.Plan) string {
	var out strings.Builder
	text := func(p api.Point) string { return fmt.Sprintf("%d-%d-%d", p/2048, p/8%256, p%8) }
	for _, x := range p.Places {
		kind := "end"
		if x.Transfer {
			kind = "transfer"
		}
		fmt.Fprintf(&out, "place %s %s\n", text(x.Code), kind)
	}
	for _, x := range p.Lines {
		fmt.Fprintf(&out, "line %s %s %d %d\n", text(x.Link.A), text(x.Link.B), x.Link.Code, x.Delay)
	}
	fmt.Fprintf(&out, "rate %d\nroom %d\nmarks %d %d %d\n", p.Rate, p.Room, p.Marks[0], p.Marks[1], p.Marks[2])
	return out.String()
}

// TestWriteOfMany writes and reads plans of all sizes. (P13.7)
func TestWriteOfMany(t *testing.T) {
	var r random
	all := []plans.Plan{largest(), smallest(), chain(64), star(64)}
	for k := range 400 {
		all = append(all, r.plan([]int{2, 5, 12, 64}[k%4]))
	}
	for _, p := range all {
		s, e := plans.Write(p)
		if s != textOf(p) || e != api.OK {
			t.Fatalf("Write of %v is %q, %d", p, s, e)
		}
		q, f := plans.Read(s)
		if !equal(p, q) || !plans.Same(p, q) || f != (plans.Fault{}) || cap(q.Places) != len(q.Places) || cap(q.Lines) != len(q.Lines) {
			t.Fatalf("Read of %q is %v, %v", s, q, f)
		}
	}
}

// TestReadErrors reads the parts of a text that are not well formed, each in a line of a text that is otherwise.
func TestReadErrors(t *testing.T) {
	for line, bad := range map[int][]string{
		1: {"", " ", "place", "place ", "place 0-0-1", "place 0-0-1 ", "place  0-0-1 end", "place 0-0-1  end", " place 0-0-1 end", "place 0-0-1 end ", "place 0-0-1 end end",
			"place 0-0-1 End", "Place 0-0-1 end", "place 0-0-1 transfers", "place 0-0-1 both", "place\t0-0-1 end", "place 0-0-1\tend", "place 0-0-1 end\r", "place 1 end", "place 0-0 end",
			"place 0-0-8 end", "place 8-0-0 end", "place 0-256-0 end", "place 0-00-1 end", "place 00-0-1 end", "place 0-0-1-0 end", "place -0-0-1 end", "place 0-0-+1 end", "place end 0-0-1",
			"end 0-0-1 place", "0-0-1 end", "place 0-0-1 end\x00", "\ufeffplace 0-0-1 end", "# remark"},
		6: {"", "line", "line 0-0-1 0-0-3 0", "line 0-0-1 0-0-3", "line 0-0-1 0-0-3 0 1 ", "line 0-0-1 0-0-3 0 1 1", "line  0-0-1 0-0-3 0 1", "line 0-0-1 0-0-3  0 1", "line 0-0-1 0-0-3 0  1",
			"line 0-0-8 0-0-3 0 1", "line 0-0-1 0-300-3 0 1", "line 0-0-1 0-0-3 256 1", "line 0-0-1 0-0-3 999 1", "line 0-0-1 0-0-3 1000000 1", "line 0-0-1 0-0-3 -1 1", "line 0-0-1 0-0-3 0 -1",
			"line 0-0-1 0-0-3 00 1", "line 0-0-1 0-0-3 0 01", "line 0-0-1 0-0-3 0 1000000", "line 0-0-1 0-0-3 0 1.", "line 0-0-1 0-0-3 0 0x1", "line 0-0-1 0-0-3 0 1_0", "line 0-0-1 0-0-3 x 1",
			"line 0 0-0-1 0-0-3 1", "lines 0-0-1 0-0-3 0 1", "place 0-0-9 end", "line 0-0-1 0-0-3 4294967296 1", "line 0-0-1 0-0-3 0 18446744073709551617"},
		10: {"", "rate", "rate ", "rate 1 1", "rate  1", "rate 1 ", "rate 01", "rate 00", "rate -1", "rate +1", "rate 1000000", "rate 0000001", "rate one", "Rate 1", "room 4", "marks 1 2 3", "place 0-0-7 end", "\u0661", "rate \u0661"},
		11: {"", "room", "room 4 4", "room 04", "room 1000000", "room -4", "rate 4", "marks 1 2 3", "line 0-0-1 0-0-2 3 1", "place 0-0-7 end"},
		12: {"", "marks", "marks 1", "marks 1 2", "marks 1 2 3 4", "marks 1  2 3", "marks 01 2 3", "marks 1 02 3", "marks 1 2 03", "marks 1 2 1000000", "marks 1 2 -3", "rate 1", "room 4", "mark 1 2 3", "marks 1,2,3"},
	} {
		for _, b := range bad {
			lines := strings.Split(exampleText, "\n")
			lines[line-1] = b
			s := strings.Join(lines, "\n")
			if p, f := plans.Read(s); f != (plans.Fault{E: api.ErrForm, Line: line}) || !equal(p, plans.Plan{}) {
				t.Errorf("Read with the line %d %q is %v, %v", line, b, p, f)
			}
			checkRead(t, s)
		}
	}
}

// TestReadInvalid reads well formed texts of invalid plans.
func TestReadInvalid(t *testing.T) {
	for _, x := range []struct {
		old, new string
		want     api.Errno
	}{
		{"place 0-0-1 end\n", "", api.ErrNone},
		{"place 0-0-1 end\nplace 0-0-2 transfer\nplace 0-0-3 transfer\nplace 0-0-4 end\n", "", api.ErrArg},
		{"0-0-3 transfer", "0-0-2 transfer", api.ErrArg},
		{"0-0-1 end", "0-0-3 end", api.ErrArg},
		{"line 0-0-1 0-0-2 0 1", "line 0-0-2 0-0-1 0 1", api.ErrArg},
		{"line 0-0-1 0-0-2 0 1", "line 0-0-2 0-0-2 0 1", api.ErrArg},
		{"line 0-0-1 0-0-2 0 1", "line 0-0-0 0-0-2 0 1", api.ErrNone},
		{"line 0-0-1 0-0-2 0 1", "line 0-0-1 0-0-2 16 1", api.ErrArg},
		{"line 0-0-1 0-0-2 0 1", "line 0-0-1 0-0-2 255 1", api.ErrArg},
		{"line 0-0-1 0-0-2 0 1", "line 0-0-1 0-0-2 0 0", api.ErrArg},
		{"line 0-0-1 0-0-2 0 1", "line 0-0-1 0-0-2 0 65", api.ErrArg},
		{"line 0-0-1 0-0-2 0 1", "line 0-0-1 0-0-2 0 999999", api.ErrArg},
		{"line 0-0-1 0-0-2 0 1", "line 0-0-1 0-0-3 0 1", api.ErrArg},
		{"rate 1", "rate 0", api.ErrArg},
		{"rate 1", "rate 17", api.ErrArg},
		{"rate 1", "rate 999999", api.ErrArg},
		{"room 4", "room 0", api.ErrArg},
		{"room 4", "room 2", api.ErrArg},
		{"room 4", "room 65", api.ErrArg},
		{"marks 1", "marks 0", api.ErrArg},
		{"1 2 3", "1 2 5", api.ErrArg},
		{"1 2 3", "3 2 1", api.ErrArg},
	} {
		s := strings.Replace(exampleText, x.old, x.new, 1)
		if p, f := plans.Read(s); f != (plans.Fault{E: x.want}) || !equal(p, plans.Plan{}) {
			t.Errorf("Read with %q for %q is %v, %v, not %d", x.new, x.old, p, f, x.want)
		}
		checkRead(t, s)
	}
}

// TestReadMissing reads the beginnings of texts.
func TestReadMissing(t *testing.T) {
	for _, text := range []string{exampleText, severalText, shortText, wideText} {
		for n := range len(text) {
			want := plans.Fault{E: api.ErrForm, Line: 1 + strings.Count(text[:n], "\n")}
			if p, f := plans.Read(text[:n]); f != want || !equal(p, plans.Plan{}) {
				t.Fatalf("Read of %q is %v, %v", text[:n], p, f)
			}
		}
		for _, more := range []string{"\n", " ", "x", "marks 1 2 3\n", "place 0-0-1 end\n", "\x00"} {
			want := plans.Fault{E: api.ErrForm, Line: 1 + strings.Count(text, "\n")}
			if p, f := plans.Read(text + more); f != want || !equal(p, plans.Plan{}) {
				t.Errorf("Read of %q is %v, %v", text+more, p, f)
			}
		}
	}
}

// TestReadLimit reads texts of about the greatest length.
func TestReadLimit(t *testing.T) {
	const most = 1048576
	large, _ := plans.Write(largest())
	for _, x := range []struct {
		s    string
		want plans.Fault
	}{
		{strings.Repeat("x", most), plans.Fault{E: api.ErrForm, Line: 1}},
		{strings.Repeat("x", most+1), plans.Fault{E: api.ErrLimit}},
		{strings.Repeat("\n", most), plans.Fault{E: api.ErrForm, Line: 1}},
		{strings.Repeat("\n", most+1), plans.Fault{E: api.ErrLimit}},
		{strings.Repeat(" ", most), plans.Fault{E: api.ErrForm, Line: 1}},
		{"rate " + strings.Repeat("1", most-6) + "\n", plans.Fault{E: api.ErrForm, Line: 1}},
		{strings.Repeat("place 0-0-1 end\n", most/16), plans.Fault{E: api.ErrForm, Line: most/16 + 1}},
		{strings.Repeat("place 0-0-1 end\n", most/16-2) + "rate 1\nroom 3\nmarks 1 2 3\n", plans.Fault{E: api.ErrLimit}},
		{strings.Repeat("place 0-0-1 end\n", most/16-2) + "rate 1\nroom 3\nmarks 1 2 3", plans.Fault{E: api.ErrForm, Line: most/16 + 1}},
		{exampleText + strings.Repeat("x", most-len(exampleText)), plans.Fault{E: api.ErrForm, Line: 13}},
		{exampleText + strings.Repeat("x", most-len(exampleText)+1), plans.Fault{E: api.ErrLimit}},
		{strings.Replace(large, "rate", "line 7-255-6 7-255-7 15 1\nrate", 1), plans.Fault{E: api.ErrLimit}},
		{strings.Replace(large, "line", "place 7-255-7 end\nline", 1), plans.Fault{E: api.ErrLimit}},
		{strings.Replace(large, "marks", "place 7-255-7 end\nmarks", 1), plans.Fault{E: api.ErrForm, Line: 64 + 1024 + 3}},
	} {
		if p, f := plans.Read(x.s); f != x.want || !equal(p, plans.Plan{}) {
			t.Errorf("Read of %.40q .. (%d bytes) is %v, not %v", x.s, len(x.s), f, x.want)
		}
	}
}

// TestReadOrders reads all texts of up to seven lines of the five forms.
func TestReadOrders(t *testing.T) {
	words := []string{"place 0-0-%d end\n", "line 0-0-1 0-0-2 %d 1\n", "rate %d\n", "room 1%d\n", "marks %d 11 12\n"}
	for n := range 8 {
		count := 1
		for range n {
			count *= len(words)
		}
		for k := range count {
			s := ""
			for i := 1; i <= n; i++ {
				// The number of the line makes places and links ascend.
				s += strings.Replace(words[k%len(words)], "%d", strconv.Itoa(min(i, 7)), 1)
				k /= len(words)
			}
			checkRead(t, s)
		}
	}
}

// TestReadNumbers reads all short texts, and others, in the place of each number.
func TestReadNumbers(t *testing.T) {
	texts := []string{"0000000", "1234567", "0123456", "99999", "100000", "999999", "1000000", "4294967297", "18446744073709551617", "1e3", "0x10", "0b1", "1_1", "\u0663", "１", "NaN", "256", "255", "3.0"}
	const alphabet = "01259-+ .a"
	for _, a := range alphabet {
		texts = append(texts, string(a))
		for _, b := range alphabet {
			texts = append(texts, string(a)+string(b))
			for _, c := range alphabet {
				texts = append(texts, string(a)+string(b)+string(c))
			}
		}
	}
	texts = append(texts, "")
	for _, s := range texts {
		for _, form := range []string{
			"place 0-0-1 end\nplace 0-0-2 end\nline 0-0-1 0-0-2 # 1\nrate 1\nroom 64\nmarks 1 2 3\n",
			"place 0-0-1 end\nplace 0-0-2 end\nline 0-0-1 0-0-2 0 #\nrate 1\nroom 64\nmarks 1 2 3\n",
			"place 0-0-1 end\nrate #\nroom 64\nmarks 1 2 3\n",
			"place 0-0-1 end\nrate 1\nroom #\nmarks 1 2 3\n",
			"place 0-0-1 end\nrate 1\nroom 64\nmarks # 62 63\n",
			"place 0-0-1 end\nrate 1\nroom 64\nmarks 1 # 64\n",
			"place 0-0-1 end\nrate 1\nroom 64\nmarks 1 2 #\n",
			"place 0-#-1 end\nrate 1\nroom 64\nmarks 1 2 3\n",
			"place 0-0-1 end\nplace 0-1-# end\nline 0-0-1 0-1-# 1 1\nrate 1\nroom 64\nmarks 1 2 3\n",
		} {
			checkRead(t, strings.ReplaceAll(form, "#", s))
		}
	}
}

// TestReadCodes reads all codes of links, and all point codes.
func TestReadCodes(t *testing.T) {
	for code := range 1100 {
		s := strings.Replace(wideText, " 15 64", " "+strconv.Itoa(code)+" 64", 1)
		want := plans.Fault{}
		if code > 15 {
			want.E = api.ErrArg
		}
		if code > 255 {
			want = plans.Fault{E: api.ErrForm, Line: 3}
		}
		if p, f := plans.Read(s); f != want || code <= 15 && p.Lines[0].Link.Code != uint8(code) {
			t.Errorf("Read with the Code %d is %v, %v, not %v", code, p, f, want)
		}
	}
	for code := range api.Point(16384) {
		s := fmt.Sprintf("place %d-%d-%d transfer\nrate 1\nroom 3\nmarks 1 2 3\n", code>>11, code>>3&255, code&7)
		if p, f := plans.Read(s); f != (plans.Fault{}) || len(p.Places) != 1 || p.Places[0] != (plans.Place{Code: code, Transfer: true}) {
			t.Fatalf("Read of %q is %v, %v", s, p, f)
		}
	}
}

// TestReadChanged reads texts in which a byte is replaced, put in or left out.
func TestReadChanged(t *testing.T) {
	const few = "\n\r\t 01239-+.aeflmnoprst\x00\xff"
	for _, text := range []string{wideText, exampleText} {
		for i := range len(text) + 1 {
			for k := range 256 {
				if text == exampleText && !strings.Contains(few, string([]byte{byte(k)})) {
					continue
				}
				b := string([]byte{byte(k)})
				checkRead(t, text[:i]+b+text[i:])
				if i < len(text) {
					checkRead(t, text[:i]+b+text[i+1:])
				}
			}
			for n := i; n <= len(text); n++ {
				checkRead(t, text[:i]+text[n:])
			}
		}
	}
}

// TestReadLines reads texts in which lines or words are left out, doubled or exchanged.
func TestReadLines(t *testing.T) {
	for _, text := range []string{wideText, exampleText, severalText} {
		for _, separator := range []string{"\n", " "} {
			parts := strings.Split(text, separator)
			for i := range parts {
				checkRead(t, strings.Join(slices.Delete(slices.Clone(parts), i, i+1), separator))
				for j := range parts {
					checkRead(t, strings.Join(slices.Insert(slices.Clone(parts), i, parts[j]), separator))
					changed := slices.Clone(parts)
					changed[i], changed[j] = changed[j], changed[i]
					checkRead(t, strings.Join(changed, separator))
				}
			}
		}
	}
}

// TestReadTwice checks that the plans of two calls share no memory (R4).
func TestReadTwice(t *testing.T) {
	p, _ := plans.Read(exampleText)
	q, _ := plans.Read(exampleText)
	clear(p.Places)
	clear(p.Lines)
	if !equal(q, example()) {
		t.Errorf("%v", q)
	}
}

// TestReadStops checks that the first wrong line is told, also if later ones are wrong.
func TestReadStops(t *testing.T) {
	lines := strings.SplitAfter(exampleText, "\n")
	for i := range 12 {
		for j := i; j < 12; j++ {
			changed := slices.Clone(lines)
			changed[i], changed[j] = "x\n", "y\n"
			if p, f := plans.Read(strings.Join(changed, "")); f != (plans.Fault{E: api.ErrForm, Line: i + 1}) || !equal(p, plans.Plan{}) {
				t.Errorf("Read with the wrong lines %d and %d is %v, %v", i+1, j+1, p, f)
			}
		}
	}
}
