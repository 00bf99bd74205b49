package fnstat_test

import (
	"math"
	"strings"

	"gridiron/api"
	"gridiron/array"
	"gridiron/number"
	"gridiron/value"
)

// The model reckons as the chapter's lines say, over areas that are told in full: the k-th number is the one that has less than k below it, a criterion is asked of each place.

// wrongAnswer is an error that ends a line of the chapter.
type wrongAnswer int

// model is what a function answers of arguments.
func model(name string, args []api.Arg) (out api.Arr, is bool) {
	if least, most := arity(name); most == 0 || len(args) < least || len(args) > most {
		return api.Arr{}, false
	}
	for _, a := range args {
		if array.CheckArg(a) != api.OK {
			return api.Arr{}, false
		}
	}
	defer func() {
		switch e := recover().(type) {
		case nil:
		case wrongAnswer:
			out, is = api.Arr{Rows: 1, Cols: 1, Vals: []api.Value{fault(int(e))}}, true
		default:
			panic(e)
		}
	}()
	l := answers(name, args)
	out = api.Arr{Rows: len(l), Cols: 1}
	for _, x := range l {
		out.Vals = append(out.Vals, num(reckoned(x)))
	}
	return out, true
}

func refuse(code int, when bool) {
	if when {
		panic(wrongAnswer(code))
	}
}

// reckoned is a number as an answer.
func reckoned(x float64) float64 {
	refuse(api.ENum, x != x || math.Abs(x) > great)
	if x == 0 {
		return 0
	}
	return x
}

// dense are an area's values, row by row.
func dense(a api.Arg) []api.Value {
	out := make([]api.Value, a.Rows*a.Cols)
	for _, p := range a.Cells {
		out[p.Row*a.Cols+p.Col] = p.Val
	}
	return out
}

// theSingle is the one value of an argument.
func theSingle(a api.Arg) api.Value {
	refuse(api.EValue, a.Rows > 1 || a.Cols > 1)
	v := dense(a)[0]
	refuse(v.Err, v.Kind == api.VErr)
	return v
}

func asNumber(v api.Value) float64 {
	x := value.AsNumber(v)
	refuse(x.Err, x.Kind == api.VErr)
	return x.Num
}

func theNumber(a api.Arg) float64 { return asNumber(theSingle(a)) }

func theWhole(a api.Arg) float64 {
	x := math.Floor(theNumber(a))
	refuse(api.ENum, x < -0x1p53 || x > 0x1p53)
	return x
}

// theNumbers are the numbers of some arguments.
func theNumbers(full bool, args ...api.Arg) []float64 {
	var out []float64
	for _, a := range args {
		if a.Miss {
			continue
		}
		if !a.Ref && a.Rows*a.Cols == 1 {
			out = append(out, theNumber(a))
			continue
		}
		for _, v := range dense(a) {
			refuse(v.Err, v.Kind == api.VErr)
			if v.Kind == api.VNum || full && v.Kind != api.VEmpty {
				out = append(out, map[int]float64{api.VNum: v.Num, api.VBool: map[bool]float64{true: 1}[v.Yes]}[v.Kind])
			}
		}
	}
	return out
}

func sumOf(l []float64) float64 {
	s := 0.0
	for i := 0; i < len(l); i++ {
		s = s + l[i]
	}
	return s
}

func meanOf(l []float64) float64 {
	if len(l) == 0 {
		return 0
	}
	return sumOf(l) / float64(len(l))
}

func offOf(l []float64) []float64 {
	m := meanOf(l)
	var out []float64
	for _, x := range l {
		out = append(out, x-m)
	}
	return out
}

func timesOf(l, k []float64) []float64 {
	var out []float64
	for i := range l {
		out = append(out, float64(l[i]*k[i]))
	}
	return out
}

func squareOf(l []float64) float64 { return sumOf(timesOf(offOf(l), offOf(l))) }

// belowOf is how many numbers are below x, and how many are x.
func belowOf(l []float64, x float64) (int, int) {
	below, alike := 0, 0
	for _, y := range l {
		if y < x {
			below++
		}
		if y == x {
			alike++
		}
	}
	return below, alike
}

// kth is the number that stands at k, from 0 on, if they are put in order.
func kth(l []float64, k int) float64 {
	for _, x := range l {
		if below, alike := belowOf(l, x); below <= k && k < below+alike {
			return x
		}
	}
	panic("no such number")
}

// answers are the numbers that a function answers.
func answers(name string, args []api.Arg) []float64 {
	switch name {
	case "COUNT", "COUNTA", "COUNTBLANK":
		return just(counted(name, args))
	case "LARGE", "SMALL", "PERCENTILE", "QUARTILE", "PERCENTRANK", "TRIMMEAN":
		return just(rankedModel(name, args))
	case "RANK":
		x, l, o := theNumber(args[0]), theNumbers(false, args[1]), 0.0
		if len(args) > 2 {
			o = theNumber(args[2])
		}
		below, alike := belowOf(l, x)
		refuse(api.ENA, alike == 0)
		if o != 0 {
			return just(float64(1 + below))
		}
		return just(float64(1 + len(l) - below - alike))
	case "STANDARDIZE":
		x, m, s := theNumber(args[0]), theNumber(args[1]), theNumber(args[2])
		refuse(api.ENum, s <= 0)
		return just((x - m) / s)
	case "COVAR", "CORREL", "PEARSON", "RSQ", "SLOPE", "INTERCEPT":
		return just(paired(name, 0, args[0], args[1]))
	case "FORECAST":
		return just(paired(name, theNumber(args[0]), args[1], args[2]))
	case "FREQUENCY":
		return frequencies(theNumbers(false, args[0]), theNumbers(false, args[1]))
	}
	if strings.Contains(name, "IF") {
		return just(where(name, args))
	}
	return just(listed(name, theNumbers(strings.HasSuffix(name, "A"), args...)))
}

func counted(name string, args []api.Arg) float64 {
	n := 0
	for _, a := range args {
		l := dense(a)
		if name == "COUNT" && !a.Miss && !a.Ref && len(l) == 1 {
			l[0] = value.AsNumber(l[0])
		}
		for _, v := range l {
			if name == "COUNT" && v.Kind == api.VNum || name == "COUNTA" && v.Kind != api.VEmpty || name == "COUNTBLANK" && (v.Kind == api.VEmpty || v == text("")) {
				n++
			}
		}
	}
	return float64(n)
}

// listed is the answer of a function of numbers alone.
func listed(name string, l []float64) float64 {
	n := float64(len(l))
	switch name {
	case "AVERAGE", "AVERAGEA":
		refuse(api.EDiv, n == 0)
		return meanOf(l)
	case "MAX", "MAXA":
		if n == 0 {
			return 0
		}
		return kth(l, len(l)-1)
	case "MIN", "MINA":
		if n == 0 {
			return 0
		}
		return kth(l, 0)
	case "DEVSQ", "AVEDEV", "MEDIAN", "HARMEAN":
		refuse(api.ENum, n == 0)
	case "VAR", "STDEV", "VARA", "STDEVA":
		refuse(api.EDiv, n < 2)
	case "VARP", "STDEVP", "VARPA", "STDEVPA":
		refuse(api.EDiv, n < 1)
	}
	switch name {
	case "DEVSQ":
		return squareOf(l)
	case "AVEDEV":
		d := offOf(l)
		for i := range d {
			d[i] = math.Abs(d[i])
		}
		return meanOf(d)
	case "VAR", "VARA":
		return squareOf(l) / (n - 1)
	case "STDEV", "STDEVA":
		return math.Sqrt(squareOf(l) / (n - 1))
	case "VARP", "VARPA":
		return squareOf(l) / n
	case "STDEVP", "STDEVPA":
		return math.Sqrt(squareOf(l) / n)
	case "MEDIAN":
		if len(l)%2 == 1 {
			return kth(l, (len(l)-1)/2)
		}
		return (kth(l, len(l)/2-1) + kth(l, len(l)/2)) / 2
	case "MODE":
		best, often := 0.0, 1
		for _, x := range l {
			if _, alike := belowOf(l, x); alike > often {
				best, often = x, alike
			}
		}
		refuse(api.ENA, often == 1)
		return best
	case "HARMEAN":
		var parts []float64
		for _, x := range l {
			refuse(api.ENum, x <= 0)
			parts = append(parts, 1/x)
		}
		return n / sumOf(parts)
	}
	panic(name)
}

// rankedModel is the answer of a function of numbers and one more.
func rankedModel(name string, args []api.Arg) float64 {
	l := theNumbers(false, args[0])
	n := len(l)
	switch name {
	case "LARGE", "SMALL":
		k := theWhole(args[1])
		refuse(api.ENum, k < 1 || k > float64(n))
		if name == "LARGE" {
			return kth(l, n-int(k))
		}
		return kth(l, int(k)-1)
	case "QUARTILE":
		q := theWhole(args[1])
		refuse(api.ENum, q < 0 || q > 4)
		return percentiles(l, []float64{0, 0.25, 0.5, 0.75, 1}[int(q)])
	case "PERCENTILE":
		return percentiles(l, theNumber(args[1]))
	case "TRIMMEAN":
		p := theNumber(args[1])
		refuse(api.ENum, n == 0 || p < 0 || p >= 1)
		k := int(math.Floor(float64(p*float64(n)) / 2))
		var kept []float64
		for i := k; i < n-k; i++ {
			kept = append(kept, kth(l, i))
		}
		return meanOf(kept)
	}
	x := theNumber(args[1])
	refuse(api.ENA, n == 0)
	below, alike := belowOf(l, x)
	refuse(api.ENA, x < kth(l, 0) || x > kth(l, n-1))
	if n == 1 {
		return 1
	}
	if alike > 0 {
		return float64(below) / float64(n-1)
	}
	a, b := kth(l, below-1), kth(l, below)
	return (float64(below-1) + (x-a)/(b-a)) / float64(n-1)
}

func percentiles(l []float64, p float64) float64 {
	n := len(l)
	refuse(api.ENum, n == 0 || p < 0 || p > 1)
	h := float64(p * float64(n-1))
	k := math.Floor(h)
	if int(k)+1 == n {
		return kth(l, n-1)
	}
	low, high := kth(l, int(k)), kth(l, int(k)+1)
	more := float64((h - k) * (high - low))
	return low + more
}

// paired is the answer of a function of pairs.
func paired(name string, v float64, a, b api.Arg) float64 {
	refuse(api.ENA, a.Rows != b.Rows || a.Cols != b.Cols)
	for _, one := range []api.Arg{a, b} {
		for _, v := range dense(one) {
			refuse(v.Err, v.Kind == api.VErr)
		}
	}
	var x, y []float64
	for i, v := range dense(a) {
		if w := dense(b)[i]; v.Kind == api.VNum && w.Kind == api.VNum {
			x, y = append(x, v.Num), append(y, w.Num)
		}
	}
	refuse(api.EDiv, len(x) == 0)
	together := sumOf(timesOf(offOf(x), offOf(y)))
	switch name {
	case "COVAR":
		return together / float64(len(x))
	case "CORREL", "PEARSON", "RSQ":
		refuse(api.EDiv, squareOf(x) == 0 || squareOf(y) == 0)
		r := together / math.Sqrt(float64(squareOf(x)*squareOf(y)))
		if name == "RSQ" {
			return reckoned(r) * reckoned(r)
		}
		return r
	}
	// a are the y, b the x
	refuse(api.EDiv, squareOf(y) == 0)
	slope := together / squareOf(y)
	part := float64(slope * meanOf(y))
	start := meanOf(x) - part
	switch name {
	case "SLOPE":
		return slope
	case "INTERCEPT":
		return start
	}
	part = float64(slope * v)
	return start + part
}

func frequencies(l, bins []float64) []float64 {
	refuse(api.ELimit, len(bins)+1 > api.MaxArea)
	notAbove := func(x float64) float64 {
		below, alike := belowOf(l, x)
		return float64(below + alike)
	}
	var out []float64
	done := 0.0
	for k := range bins {
		n := notAbove(kth(bins, k))
		out = append(out, n-done)
		done = n
	}
	return append(out, float64(len(l))-done)
}

// where is the answer of a function that asks for what meets criteria.
func where(name string, args []api.Arg) float64 {
	var from api.Arg // whose numbers are taken
	switch name {
	case "COUNTIF", "COUNTIFS":
		from = args[0]
	case "SUMIF", "AVERAGEIF":
		from = args[0]
		if len(args) > 2 && !args[2].Miss {
			from = args[2]
		}
		args = args[:2]
	default:
		from, args = args[0], args[1:]
		refuse(api.EValue, len(args) > 0 && (from.Rows != args[0].Rows || from.Cols != args[0].Cols))
	}
	refuse(api.EValue, len(args)%2 == 1)
	for i := 0; i < len(args); i += 2 {
		refuse(api.EValue, args[i].Rows != args[0].Rows || args[i].Cols != args[0].Cols)
	}
	var criteria []api.Value
	for i := 1; i < len(args); i += 2 {
		criteria = append(criteria, theSingle(args[i]))
	}
	var met []api.Value
	for row := range args[0].Rows {
	places:
		for col := range args[0].Cols {
			for i, c := range criteria {
				if !meets(c, valueAt(args[2*i], row, col)) {
					continue places
				}
			}
			met = append(met, valueAt(from, row, col))
		}
	}
	if strings.HasPrefix(name, "COUNT") {
		return float64(len(met))
	}
	var l []float64
	for _, v := range met {
		refuse(v.Err, v.Kind == api.VErr)
		if v.Kind == api.VNum {
			l = append(l, v.Num)
		}
	}
	switch name {
	case "SUMIF", "SUMIFS":
		return sumOf(l)
	case "AVERAGEIF", "AVERAGEIFS":
		return listed("AVERAGE", l)
	}
	return listed(name[:3], l)
}

// valueAt is the value at a place, empty beyond the area's end.
func valueAt(a api.Arg, row, col int) api.Value {
	if row >= a.Rows || col >= a.Cols {
		return api.Value{}
	}
	return dense(a)[row*a.Cols+col]
}

// meets tells of values that are well formed whether one meets the other.
func meets(c, v api.Value) bool {
	sign, rest := "=", c
	if c.Kind == api.VEmpty {
		rest = num(0)
	}
	if c.Kind == api.VText {
		for _, s := range []string{"<", ">", "=", "<=", ">=", "<>"} { // the longest is the last
			if strings.HasPrefix(c.Text, s) {
				sign, rest = s, restOf(c.Text[len(s):])
			}
		}
	}
	alike := v.Kind == rest.Kind && compared(v, rest) == 0
	ordered := v.Kind == rest.Kind && v.Kind != api.VEmpty && v.Kind != api.VErr
	switch sign {
	case "=":
		return alike
	case "<>":
		return !alike
	case "<":
		return ordered && compared(v, rest) < 0
	case ">":
		return ordered && compared(v, rest) > 0
	case "<=":
		return ordered && compared(v, rest) <= 0
	}
	return ordered && compared(v, rest) >= 0
}

// restOf is what stands behind an operator.
func restOf(s string) api.Value {
	if x, errno := number.Parse(s); errno == api.OK {
		return num(x)
	}
	for code := 1; code <= 9; code++ {
		if s == value.ErrText(code) {
			return fault(code)
		}
	}
	switch large(s) {
	case "TRUE":
		return truth(true)
	case "FALSE":
		return truth(false)
	case "":
		return api.Value{}
	}
	return text(s)
}

// large is a text with large letters for the small ones from a to z.
func large(s string) string {
	out := []byte(s)
	for i, b := range out {
		if 'a' <= b && b <= 'z' {
			out[i] = b - 32
		}
	}
	return string(out)
}

// compared is how two values of one kind stand to each other.
func compared(a, b api.Value) int {
	weight := func(v api.Value) float64 {
		return v.Num + float64(v.Err) + map[bool]float64{true: 1}[v.Yes]
	}
	switch x, y := weight(a), weight(b); {
	case x < y:
		return -1
	case x > y:
		return 1
	}
	return strings.Compare(large(a.Text), large(b.Text))
}
