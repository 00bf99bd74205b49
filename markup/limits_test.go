package markup_test

import (
	"strconv"
	"strings"
	"testing"

	"gridiron/api"
	"gridiron/markup"
)

// P6.1: MaxNesting elements within one another, and one more, however that one ends or goes on.
func TestNesting(t *testing.T) {
	const most = 512
	full := strings.Repeat("<a>", most)
	back := strings.Repeat("</a>", most)
	if l, _, errno := markup.Tokens([]byte(full + back)); errno != api.OK || len(l) != 2*most {
		t.Error("as many as there may be:", len(l), errno)
	}
	checkRight(t, full+"x<!-- --><?p?><![CDATA[]]>"+back, full[3:]+"<b/><b/>"+back[4:], full[3:]+strings.Repeat("<b></b>", 1000)+back[4:])
	for _, more := range []string{"<b/>", "<b></b>", "<b", "<b:1", "<b x='&y;' x=''/>", "<é", "<b\xff", "<p:b/>", "</b>"} {
		want := wrongs{full + "¦" + more: api.ErrNesting, full + "x¦" + more + back: api.ErrNesting, full + "</a><a><!-- -->¦" + more + back: api.ErrNesting}
		if more == "</b>" {
			want = wrongs{full + "¦" + more: api.ErrEnd}
		}
		want.check(t)
	}
	wrongs{full + "<¦1": api.ErrMarkup, full + "<¦": api.ErrEnd, full + "<¦\xff": api.ErrEncoding, full + "<!¦x": api.ErrMarkup, full + "¦<!DOCTYPE": api.ErrDoctype}.check(t)
	if l := told(t, full+"x<b/>"); len(l) != most+1 || l[most].Text != "x" {
		t.Error("All at one more:", len(l))
	}
	check(t, full+"x<b/>")
	check(t, full+"<a/>"+back)
}

// attributes are n of them, from a number on, each with a blank ahead.
func attributes(from, n int) string {
	all := ""
	for i := range n {
		all += " x" + strconv.Itoa(from+i) + "=''"
	}
	return all
}

// P6.1: MaxAttrs attributes, declarations among them, and one more.
func TestAttributes(t *testing.T) {
	const most = 128
	for _, declarations := range []int{0, 1, 2, 100, most} {
		for i := range 2 {
			full := strings.ReplaceAll(attributes(0, declarations), "=''", "='u'")
			full = strings.ReplaceAll(full, " x", " xmlns:x")
			if i == 0 {
				full += attributes(0, most-declarations)
			} else {
				full = attributes(0, most-declarations) + full
			}
			l, at, errno := markup.Tokens([]byte("<a" + full + " />"))
			if errno != api.OK || at != 0 || len(l) != 2 || len(l[0].Attrs) != most-declarations {
				t.Errorf("as many as there may be, %d of them declarations: %d, %d", declarations, at, errno)
			}
			wrongs{
				"<a" + full + " ¦y=''/>": api.ErrLong, "<a" + full + " ¦xmlns='u'/>": api.ErrLong, "<a" + full + "\r\n¦y": api.ErrLong, "<a" + full + " ¦é:1": api.ErrLong, "<a" + full + " ¦y=1/>": api.ErrLong, "<p:a" + full + " ¦y='' y='&z;'/>": api.ErrLong, "<a" + full + " ¦y\xff": api.ErrLong, "<a" + full + " ¦xmlns:q=''/>": api.ErrLong,
				"<a" + full + "¦y=''/>": api.ErrMarkup, "<a" + full + " ¦1": api.ErrMarkup, "<a" + full + " ¦": api.ErrEnd, "<a" + full + " ¦\xff": api.ErrEncoding, "<a" + full + " /¦x": api.ErrMarkup,
			}.check(t)
		}
	}
	checkRight(t, "<a"+attributes(0, most)+"><b"+attributes(0, most)+"/></a>")
	wrongs{"<a" + attributes(0, most-1) + " ¦x0=''/>": api.ErrAttr, "<a>b<c" + attributes(0, most) + " ¦x0=''/>": api.ErrLong, "<a ¦p:y=''" + attributes(0, most-1) + "/>": api.ErrPrefix}.check(t)
}

// P6.1: MaxMarkup bytes, and one more, of documents that are right and that are not.
func TestLong(t *testing.T) {
	t.Parallel()
	const most = 1 << 24
	fill := func(ahead, behind string, n int) []byte {
		return []byte(ahead + strings.Repeat("x", n-len(ahead)-len(behind)) + behind)
	}
	if l, at, errno := markup.Tokens(fill("<a>", "</a>", most)); errno != api.OK || at != 0 || len(l) != 3 || len(l[1].Text) != most-7 || l[2].At != most-4 {
		t.Error("as many bytes as there may be:", at, errno)
	}
	if _, at, errno := markup.Tokens(fill("<a>", "", most)); errno != api.ErrEnd || at != most {
		t.Error("as many bytes, of which the last ones lack:", at, errno)
	}
	for _, b := range [][]byte{fill("<a>", "</a>", most+1), fill("<a/>", "", most+1), fill("", "", most+1), make([]byte, most+1), fill("<!DOCTYPE", "", most+1), fill("\xff", "", most+100), fill("<a/><!--", "-->", most+1000)} {
		if l, at, errno := markup.Tokens(b); errno != api.ErrLong || at != most || len(l) != 0 {
			t.Error("more bytes:", len(l), at, errno)
		}
	}
}

// P6.3: of a document that is too long the tokens whose last byte stands ahead of MaxMarkup, if nothing else is wrong there.
func TestLongAll(t *testing.T) {
	t.Parallel()
	const most = 1 << 24
	count := func(doc string) int {
		told := 0
		for i, token := range markup.All([]byte(doc)) {
			if i != told || token.At >= most {
				t.Error("told:", i, token.Kind, token.At)
			}
			told++
		}
		return told
	}
	pad := func(ahead string, n int) string {
		return ahead + "<!--" + strings.Repeat(" ", n-len(ahead)-len("<!---->")) + "-->"
	}
	for _, c := range []struct {
		place  int // where what stands behind begins
		behind string
		want   int
	}{
		{most - 4, "</a> ", 3}, {most - 3, "</a>", 2}, {most - 2, "</a>", 2}, {most - 4, "<b/></a>", 4}, {most - 3, "<b/></a>", 2}, {most - 3, "<b></a>", 3}, {most - 2, "<b></a>", 2}, {most - 1, "<b></a>", 2}, {most, "<b></a>", 2}, {most + 1, "</a>", 1},
		{most - 4, "<b/><b/>", 4}, {most - 8, "<b/><b/><b/>", 6}, {most - 3, "<1 xxxx", 1}, {most, "</a>", 2}, {most, "<é/>", 2}, {most, "<\U00010000/>", 2}, {most, "<1>xxxxx", 1}, {most, "xx</a>", 1}, {most, "\xffxxxxx", 1}, {most, "<!----></a>", 1},
	} {
		doc := "<a>" + strings.Repeat("t", c.place-3) + c.behind + strings.Repeat(" ", 20)
		if got := count(doc); got != c.want {
			t.Errorf("%q at %d: %d tokens, want %d", c.behind, c.place-most, got, c.want)
		}
	}
	if got := count(pad("<a>b</a>", most+10)); got != 3 {
		t.Error("a comment goes beyond:", got)
	}
	if got := count(pad("<a>b&x;</a>", most+10)); got != 1 {
		t.Error("something is wrong ahead:", got)
	}
	if got := count(pad("<a/>", most+10) + "<b/>"); got != 2 {
		t.Error("something is wrong behind:", got)
	}
	if got := count(string(make([]byte, most+1))); got != 0 {
		t.Error("noughts:", got)
	}
}

// R1: documents that are made to take long are read in the end: many name spaces, long ones, many attributes, deep ones.
func TestHard(t *testing.T) {
	t.Parallel()
	long := strings.Repeat("u", 1<<20)
	prefixes := ""
	for i := range 511 {
		prefixes += "<a" + strings.ReplaceAll(attributes(i*128, 128), " x", " xmlns:x")
		prefixes = strings.ReplaceAll(prefixes, "=''", "='u'") + ">"
	}
	for name, doc := range map[string]string{
		"a long name space": "<a xmlns:p='" + long + "' xmlns:q='" + long + "v'>" + strings.Repeat("<p:b p:x='' p:y='' q:x=''/>", 50000) + "</a>",
		"many prefixes":     prefixes + strings.Repeat("<x5:b x7:y=''/>", 100000) + strings.Repeat("</a>", 511),
		"many attributes":   "<a>" + strings.Repeat("<b"+attributes(0, 128)+"/>", 3000) + "</a>",
		"many texts":        "<a>" + strings.Repeat("&lt;<!---->]]<![CDATA[]]>", 400000) + "</a>",
		"many elements":     "<a>" + strings.Repeat("<b/>", 500000) + "</a>",
		"a long reference":  "<a>&#" + strings.Repeat("0", 10000000) + "65;</a>",
		"many references":   "<a x='" + strings.Repeat("&amp;", 500000) + "'/>",
		"a long name":       "<" + strings.Repeat("é", 4000000) + "/>",
	} {
		t.Run(name, func(t *testing.T) {
			if _, at, errno := markup.Tokens([]byte(doc)); errno != api.OK {
				t.Error(at, errno)
			}
		})
	}
	for name, doc := range map[string]string{"a comment": "<!--", "a Cdata": "<a><![CDATA[", "an instruction": "<?p ", "brackets": "<a>]]", "a value": "<a x='"} {
		if _, at, errno := markup.Tokens([]byte(doc + strings.Repeat(" ]] -?", 1000000))); at != len(doc)+6000000 || errno != api.ErrEnd && errno != api.ErrMarkup {
			t.Error(name, at, errno)
		}
	}
}
