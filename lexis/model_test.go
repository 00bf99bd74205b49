package lexis_test

import (
	"fmt"
	"math"
	"slices"
	"strconv"
	"strings"
	"unicode/utf8"

	"gridiron/api"
	"gridiron/number"
	"gridiron/refs"
)

const (
	capitals = "ABCDEFGHIJKLMNOPQRSTUVWXYZ"
	smalls   = "abcdefghijklmnopqrstuvwxyz"
	digits   = "0123456789"
	blanks   = " \t\n\r"
)

// everySign are the chapter's signs.
func everySign() []string {
	return strings.Fields("( ) { } ; | ~ ! ^ * / + - & = <> < <= > >= %")
}

// everyError are the errors' texts, by their codes from 1 on.
func everyError() []string {
	return strings.Fields("#NULL! #DIV/0! #VALUE! #REF! #NAME? #NUM! #N/A #CYCLE! #LIMIT!")
}

// everyByteBut are all bytes but some.
func everyByteBut(some string) string {
	var out []byte
	for b := range 256 {
		if !strings.Contains(some, string([]byte{byte(b)})) {
			out = append(out, byte(b))
		}
	}
	return string(out)
}

// The states in which the model is; of stop a token does not go on.
const (
	stop = iota
	inWhole
	atPoint
	inPart
	atPower
	atPowerSign
	inPower
	inText
	atQuote
	inBrackets
	inName
	inQuotes
	atClosed
	inError
	inSign
	states
)

// moves is the state in which a byte brings the model, by the state in which it is.
var moves = func() [states][256]int {
	var out [states][256]int
	put := func(from int, bytes string, to int) {
		for _, b := range []byte(bytes) {
			out[from][b] = to
		}
	}
	put(stop, digits, inWhole)
	put(stop, `"`, inText)
	put(stop, "[", inBrackets)
	put(stop, capitals+smalls+"_", inName)
	put(stop, "#", inError)
	put(stop, "(){};|~!^*/+-&=<>%", inSign)
	put(inWhole, digits, inWhole)
	put(inWhole, ".", atPoint)
	put(inWhole, "Ee", atPower)
	put(atPoint, digits, inPart)
	put(inPart, digits, inPart)
	put(inPart, "Ee", atPower)
	put(atPower, "+-", atPowerSign)
	put(atPower, digits, inPower)
	put(atPowerSign, digits, inPower)
	put(inPower, digits, inPower)
	put(inText, everyByteBut(`"`), inText)
	put(inText, `"`, atQuote)
	put(atQuote, `"`, inText)
	put(inBrackets, everyByteBut("']"), inBrackets)
	put(inBrackets, "'", inQuotes)
	put(inBrackets, "]", atClosed)
	put(inQuotes, everyByteBut("'"), inQuotes)
	put(inQuotes, "'", inBrackets)
	put(inName, capitals+smalls+digits+"_.", inName)
	return out
}()

// machine is told a formula byte by byte.
type machine struct {
	s     string
	state int
	begin int
	out   []api.Lexeme
	at    int
	errno api.Errno
}

// modelTokens are the tokens ahead of what may not be, and the place and the error of that.
func modelTokens(s string) ([]api.Lexeme, int, api.Errno) {
	if len(s) > 8192 {
		return nil, 8192, api.ErrLong
	}
	m := machine{s: s}
	for at := range len(s) {
		if m.goesOn(at) {
			continue
		}
		m.finish(at)
		m.start(at)
		if m.errno != api.OK {
			return m.out, m.at, m.errno
		}
	}
	m.finish(len(s))
	return m.out, m.at, m.errno
}

func (m *machine) fail(at int, errno api.Errno) {
	if m.errno == api.OK {
		m.at, m.errno = at, errno
	}
}

// start begins a token, or goes past a blank.
func (m *machine) start(at int) {
	m.state, m.begin = moves[stop][m.s[at]], at
	if m.state == stop && !strings.Contains(blanks, m.s[at:at+1]) {
		m.fail(at, api.ErrLexByte)
	}
}

// goesOn goes to the state in which a byte brings the token that has begun, if it belongs to that.
func (m *machine) goesOn(at int) bool {
	begins := func(l []string) bool {
		return slices.ContainsFunc(l, func(s string) bool { return strings.HasPrefix(s, m.s[m.begin:at+1]) })
	}
	switch m.state {
	case stop:
		return false
	case inError:
		return begins(everyError())
	case inSign:
		return begins(everySign())
	}
	next := moves[m.state][m.s[at]]
	if next != stop {
		m.state = next
	}
	return next != stop
}

// finish judges the token that has ended ahead of a place.
func (m *machine) finish(at int) {
	written := m.s[m.begin:at]
	x := api.Lexeme{At: m.begin}
	switch m.state {
	case stop:
		return
	case inWhole, inPart, inPower:
		x.Kind = api.LNum
		n, errno := number.Parse(written)
		if errno != api.OK || at < len(m.s) && moves[inName][m.s[at]] == inName {
			m.fail(m.begin, api.ErrLexNum)
		}
		x.Num = n
	case atPoint, atPower, atPowerSign:
		m.fail(m.begin, api.ErrLexNum)
	case atQuote:
		x.Kind = api.LText
		x.Text = strings.Join(strings.Split(written[1:len(written)-1], `""`), `"`)
		if !modelValid(x.Text) {
			m.fail(m.begin, api.ErrLexText)
		}
	case inText:
		m.fail(m.begin, api.ErrLexText)
	case atClosed:
		x.Kind = api.LRef
		ref, _, errno := refs.Parse(written[1 : len(written)-1])
		if errno != api.OK {
			m.fail(m.begin, api.ErrLexRef)
		}
		x.Ref = ref
	case inBrackets, inQuotes:
		m.fail(m.begin, api.ErrLexRef)
	default:
		m.word(&x, written)
	}
	if m.errno == api.OK {
		m.out = append(m.out, x)
	}
	m.state = stop
}

// word judges a token that is its own text.
func (m *machine) word(x *api.Lexeme, written string) {
	switch m.state {
	case inName:
		x.Kind, x.Text = api.LName, written
		if len(written) > 64 {
			m.fail(m.begin, api.ErrLexName)
		}
	case inError:
		x.Kind, x.Err = api.LErr, slices.Index(everyError(), written)+1
		if x.Err == 0 {
			m.fail(m.begin, api.ErrLexErr)
		}
	case inSign:
		x.Kind, x.Text = api.LSign, written
	}
}

// modelValid tells whether a text is UTF-8 of XML's characters.
func modelValid(s string) bool {
	for _, r := range []rune(s) {
		if r < 32 && r != 9 && r != 10 && r != 13 || r == 0xFFFE || r == 0xFFFF {
			return false
		}
	}
	return utf8.ValidString(s)
}

func modelName(s string) bool {
	return s != "" && len(s) <= 64 && strings.Trim(s, capitals+smalls+digits+"_.") == "" && !strings.Contains(digits+".", s[:1])
}

func modelQuote(s string) (string, api.Errno) {
	switch {
	case !modelValid(s):
		return "", api.ErrLexText
	case len(s) > 32768:
		return "", api.ErrLong
	}
	return `"` + strings.Join(strings.Split(s, `"`), `""`) + `"`, api.OK
}

// modelText is the text of a token, by what the chapter says of each kind.
func modelText(x api.Lexeme) (string, api.Errno) {
	text, holds := "", false
	switch noNum, noText, noRef, noErr := x.Num == 0, x.Text == "", x.Ref == (api.Ref{}), x.Err == 0; x.Kind {
	case 1:
		text, _ = number.Text(x.Num)
		holds = noText && noRef && noErr && (x.Num > 0 || math.Float64bits(x.Num) == 0) && !math.IsInf(x.Num, 1)
	case 2:
		if noNum && noRef && noErr {
			return modelQuote(x.Text)
		}
	case 3:
		inner, errno := refs.Text(x.Ref)
		text, holds = fmt.Sprintf("[%s]", inner), noNum && noText && noErr && errno == api.OK
	case 4:
		text, holds = x.Text, noNum && noRef && noErr && modelName(x.Text)
	case 5:
		if holds = noNum && noText && noRef && x.Err >= 1 && x.Err <= 9; holds {
			text = everyError()[x.Err-1]
		}
	case 6:
		text, holds = x.Text, noNum && noRef && noErr && slices.Contains(everySign(), x.Text)
	}
	if !holds {
		return "", api.ErrArg
	}
	return text, api.OK
}

// alike tells whether two tokens are the same, numbers bit for bit.
func alike(a, b api.Lexeme) bool {
	return a == b && math.Float64bits(a.Num) == math.Float64bits(b.Num)
}

func allAlike(a, b []api.Lexeme) bool {
	return slices.EqualFunc(a, b, alike)
}

// without is a token without its place.
func without(x api.Lexeme) api.Lexeme {
	x.At = 0
	return x
}

// told is anything as a text, which is cut if it is long.
func told(x any) string {
	return short(fmt.Sprintf("%+v", x))
}

// short is a text as it is told in a report.
func short(s string) string {
	if len(s) > 400 {
		return strconv.Quote(s[:400]) + ".."
	}
	return strconv.Quote(s)
}
