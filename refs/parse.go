package refs

import (
	"strconv"
	"strings"

	"gridiron/api"
)

// Parse is the reference that a text says, or the place of the first thing in it that can't be so.
func Parse(s string) (ref api.Ref, at int, errno api.Errno) {
	defer func() {
		switch thrown := recover().(type) {
		case nil:
		case refusal:
			ref, at, errno = api.Ref{}, thrown.at, thrown.errno
		default:
			// no text can do this: it would be a fault of the program's own
			panic(thrown)
		}
	}()
	r := reader{text: s}
	return r.ref(), 0, api.OK
}

// refusal is what is thrown when a text is given up; Parse catches it.
type refusal struct {
	at    int
	errno api.Errno
}

// hold gives the text up at a place, if something does not hold.
func hold(holds bool, at int, errno api.Errno) {
	if !holds {
		panic(refusal{at, errno})
	}
}

// reader goes through a text, and gives it up where it says no reference.
type reader struct {
	text string
	at   int // where it is gone on
}

// skip goes past a sign, if it stands there.
func (r *reader) skip(sign string) bool {
	stands := strings.HasPrefix(r.text[r.at:], sign)
	if stands {
		r.at += len(sign)
	}
	return stands
}

// need goes past a sign that must stand there.
func (r *reader) need(sign string) {
	hold(r.skip(sign), r.at, api.ErrAddr)
}

// run is what stands there, as far as characters of a kind go.
func (r *reader) run(kind func(rune) bool) string {
	rest := r.text[r.at:]
	end := strings.IndexFunc(rest, func(c rune) bool { return !kind(c) })
	if end < 0 {
		end = len(rest)
	}
	r.at += end
	return rest[:end]
}

// ref is the reference that all of the text says.
func (r *reader) ref() api.Ref {
	var out api.Ref
	out.Fixed = r.skip("$")
	out.Sheet = r.sheet()
	hold(out.Sheet != "" || !out.Fixed, r.at, api.ErrAddr)
	r.need(".")
	out.A = r.corner()
	if r.skip(":") {
		out.Area = true
		out.To = r.to(out.Sheet)
		r.need(".")
		out.B = r.corner()
	}
	hold(r.at == len(r.text), r.at, api.ErrAddr)
	return out
}

// sheet is the sheet's name that stands there, or nothing, if none begins there.
func (r *reader) sheet() string {
	from := r.at
	name := r.name()
	written := r.text[from:r.at]
	if written == "" {
		return ""
	}
	// a name has one text: with quotes that it needs not, or without those that it needs, it is none
	text, _ := Quote(name)
	hold(text == written, from, api.ErrSheet)
	return strings.Clone(name)
}

// name is what stands there between quotes, or as far as a name without them goes, whether a sheet may have that name or not.
func (r *reader) name() string {
	if !r.skip("'") {
		return r.run(inWord)
	}
	name := r.run(func(c rune) bool { return c != '\'' })
	r.need("'")
	return name
}

// to is the name of the last sheet, which can't stand there, if there is no first one.
func (r *reader) to(first string) string {
	from := r.at
	last := r.sheet()
	hold(last == "" || first != "", from, api.ErrAddr)
	return last
}

func (r *reader) corner() api.Corner {
	var out api.Corner
	out.AbsCol = r.skip("$")
	out.Col = r.column()
	out.AbsRow = r.skip("$")
	out.Row = r.row()
	return out
}

func (r *reader) column() int {
	from := r.at
	n, errno := ParseColumn(r.run(isCapital))
	hold(errno == api.OK, from, api.ErrAddr)
	return n
}

func (r *reader) row() int {
	from := r.at
	digits := r.run(isDigit)
	n, err := strconv.Atoi(digits)
	hold(err == nil && n <= api.MaxRows && digits[0] != '0', from, api.ErrAddr)
	return n - 1
}
