package plans

import (
	"math"
	"slices"
	"strconv"
	"strings"

	"pointcode/api"
	"pointcode/labels"
)

// The words of a text.
const (
	placeWord    = "place"
	transferWord = "transfer"
	endWord      = "end"
	lineWord     = "line"
	rateWord     = "rate"
	roomWord     = "room"
	marksWord    = "marks"
)

// What stands between the words of a line, and behind each line.
const (
	space    = " "
	lineFeed = "\n"
)

// mostDigits is the greatest number of digits of a number.
const mostDigits = 6

// Fault is the first error of a text.
type Fault struct {
	E    api.Errno
	Line int
}

// Write returns the text of a plan.
func Write(p Plan) (string, api.Errno) {
	if e := Check(p); e != api.OK {
		return "", e
	}
	var out strings.Builder
	line := func(words ...string) { out.WriteString(strings.Join(words, space) + lineFeed) }
	for _, x := range p.Places {
		line(placeWord, labels.Text(x.Code), kindWord(x.Transfer))
	}
	for _, x := range p.Lines {
		line(lineWord, labels.Text(x.Link.A), labels.Text(x.Link.B), strconv.Itoa(int(x.Link.Code)), strconv.Itoa(x.Delay))
	}
	line(rateWord, strconv.Itoa(p.Rate))
	line(roomWord, strconv.Itoa(p.Room))
	line(marksWord, strconv.Itoa(p.Marks[0]), strconv.Itoa(p.Marks[1]), strconv.Itoa(p.Marks[2]))
	return out.String(), api.OK
}

// kindWord returns the word for a place that transfers or does not.
func kindWord(transfer bool) string {
	if transfer {
		return transferWord
	}
	return endWord
}

// Read returns the plan of a text.
func Read(s string) (Plan, Fault) {
	if len(s) > api.MaxText {
		return Plan{}, Fault{E: api.ErrLimit}
	}
	var r reader
	count := 0
	for line := range strings.Lines(s) {
		count++
		content, ended := strings.CutSuffix(line, lineFeed)
		if !ended || !r.read(content) {
			return Plan{}, Fault{E: api.ErrForm, Line: count}
		}
	}
	if r.part != marks {
		return Plan{}, Fault{E: api.ErrForm, Line: count + 1}
	}
	if e := Check(r.plan); e != api.OK {
		return Plan{}, Fault{E: e}
	}
	r.plan.Places = slices.Clip(r.plan.Places)
	r.plan.Lines = slices.Clip(r.plan.Lines)
	return r.plan, Fault{}
}

// The parts of a text, in their order.
const (
	places = iota
	lines
	rate
	room
	marks
)

// reader reads the lines of a text one after another.
type reader struct {
	plan Plan
	part int // of the last line, and places in front of the first one
}

// read takes in a line, and reports whether it is well formed and follows the last one.
func (r *reader) read(line string) bool {
	words := strings.Split(line, space)
	rest := words[1:]
	switch words[0] {
	case placeWord:
		return r.enter(places) && r.readPlace(rest)
	case lineWord:
		return r.enter(lines) && r.readLine(rest)
	case rateWord:
		return r.enter(rate) && storeNumbers(rest, &r.plan.Rate)
	case roomWord:
		return r.enter(room) && storeNumbers(rest, &r.plan.Room)
	case marksWord:
		m := &r.plan.Marks
		return r.enter(marks) && storeNumbers(rest, &m[0], &m[1], &m[2])
	}
	return false
}

// enter begins a line of a part, and reports whether it may follow the last one: there are any number of places and lines, and one of each other part.
func (r *reader) enter(part int) bool {
	last := r.part
	r.part = part
	switch part {
	case places, lines:
		return last <= part
	case rate:
		return last < part
	}
	return last == part-1
}

// readPlace takes in the words behind the first one of a place.
func (r *reader) readPlace(words []string) bool {
	var x Place
	if len(words) != 2 || !storePoint(words[0], &x.Code) || words[1] != transferWord && words[1] != endWord {
		return false
	}
	x.Transfer = words[1] == transferWord
	r.plan.Places = append(r.plan.Places, x)
	return true
}

// readLine takes in the words behind the first one of a line.
func (r *reader) readLine(words []string) bool {
	var x Line
	code := 0
	if len(words) != 4 || !storePoint(words[0], &x.Link.A) || !storePoint(words[1], &x.Link.B) {
		return false
	}
	if !storeNumbers(words[2:], &code, &x.Delay) || code > math.MaxUint8 {
		return false
	}
	x.Link.Code = uint8(code)
	r.plan.Lines = append(r.plan.Lines, x)
	return true
}

// storePoint stores the point code of a word, and reports whether it is one.
func storePoint(word string, to *api.Point) bool {
	point, e := labels.Parse(word)
	*to = point
	return e == api.OK
}

// storeNumbers stores the numbers of words, and reports whether each word is a number and has a place to be stored.
func storeNumbers(words []string, to ...*int) bool {
	if len(words) != len(to) {
		return false
	}
	for i, word := range words {
		n, is := numberOf(word)
		if !is {
			return false
		}
		*to[i] = n
	}
	return true
}

// numberOf returns the number of a word, and whether it is one.
func numberOf(s string) (int, bool) {
	if len(s) == 0 || len(s) > mostDigits || len(s) > 1 && s[0] == '0' {
		return 0, false
	}
	n := 0
	for i := range len(s) {
		if s[i] < '0' || s[i] > '9' {
			return 0, false
		}
		n = 10*n + int(s[i]-'0')
	}
	return n, true
}
