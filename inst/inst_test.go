package inst

import (
	"fmt"
	"math"
	"math/rand"
	"reflect"
	"regexp"
	"slices"
	"strings"
	"testing"

	"drayman/api"
)

// sample is a problem of three cars, of five stops in two pairs and one alone.
func sample() api.Inst {
	return api.Inst{
		Cars: []api.Car{{Cap: 9, Start: 0, End: 100}, {Cap: 60, Start: 7, End: 1000}, {Cap: 0, Start: 5, End: 5}},
		Stops: []api.Stop{
			{Demand: 4, Open: 0, Close: 50, Service: 1},
			{Demand: -20, Open: 3, Close: 3, Service: 0},
			{Demand: 20, Open: 10, Close: 1000, Service: 1000},
			{Demand: -4, Open: 1000, Close: 1000, Service: 2},
			{Demand: 0, Open: 0, Close: 0, Service: 0},
		},
		Pairs: [][2]int{{3, 2}, {1, 4}},
		Travel: [][]int{
			{0, 1, 2, 3, 4, 5},
			{1000, 0, 11, 12, 13, 14},
			{20, 21, 0, 22, 23, 24},
			{30, 31, 32, 0, 33, 34},
			{0, 0, 0, 0, 0, 0},
			{50, 51, 52, 53, 1000, 0},
		},
	}
}

const sampleText = `car 9 0 100
car 60 7 1000
car 0 5 5
stop 4 0 50 1
stop -20 3 3 0
stop 20 10 1000 1000
stop -4 1000 1000 2
stop 0 0 0 0
pair 3 2
pair 1 4
row 0 1 2 3 4 5
row 1000 0 11 12 13 14
row 20 21 0 22 23 24
row 30 31 32 0 33 34
row 0 0 0 0 0 0
row 50 51 52 53 1000 0
`

// ofSize is a problem of so many cars and stops, all of whose numbers are 0.
func ofSize(cars, stops int) api.Inst {
	return api.Inst{Cars: make([]api.Car, cars), Stops: make([]api.Stop, stops), Travel: square(stops + 1)}
}

func square(size int) [][]int {
	rows := make([][]int, size)
	for k := range rows {
		rows[k] = make([]int, size)
	}
	return rows
}

// same tells whether two problems are the same; nil and the empty list are.
func same(a, b api.Inst) bool {
	return slices.Equal(a.Cars, b.Cars) && slices.Equal(a.Stops, b.Stops) && slices.Equal(a.Pairs, b.Pairs) &&
		slices.EqualFunc(a.Travel, b.Travel, func(p, q []int) bool { return slices.Equal(p, q) })
}

func TestCheck(t *testing.T) {
	for _, c := range []struct {
		name string
		i    api.Inst
	}{
		{"sample", sample()},
		{"one car alone", ofSize(1, 0)},
		{"most cars", ofSize(api.MaxCars, 0)},
		{"most stops", ofSize(1, api.MaxStops)},
		{"most of both", ofSize(api.MaxCars, api.MaxStops)},
		{"empty lists", api.Inst{Cars: []api.Car{{}}, Stops: []api.Stop{}, Pairs: [][2]int{}, Travel: [][]int{{0}}}},
	} {
		if e := Check(c.i); e != api.OK {
			t.Errorf("%s: %d; want OK", c.name, e)
		}
	}
}

func TestCheckOfTooFewOrTooMany(t *testing.T) {
	for _, c := range []struct {
		name string
		i    api.Inst
	}{
		{"zero", api.Inst{}},
		{"no cars", ofSize(0, 0)},
		{"no cars, some stops", ofSize(0, 3)},
		{"a car too many", ofSize(api.MaxCars+1, 0)},
		{"a stop too many", ofSize(1, api.MaxStops+1)},
		{"far too many stops", ofSize(1, 200)},
	} {
		if e := Check(c.i); e != api.ErrArg {
			t.Errorf("%s: %d; want ErrArg", c.name, e)
		}
	}
}

// span is where a number may lie, and how to set it.
type span struct {
	name      string
	low, high int
	set       func(i *api.Inst, n int)
}

// spans are those of all of sample's numbers that may change alone.
func spans() []span {
	var list []span
	for c, car := range sample().Cars {
		list = append(list,
			span{fmt.Sprint("Cap of car ", c), 0, api.MaxCap, func(i *api.Inst, n int) { i.Cars[c].Cap = n }},
			span{fmt.Sprint("Start of car ", c), 0, car.End, func(i *api.Inst, n int) { i.Cars[c].Start = n }},
			span{fmt.Sprint("End of car ", c), car.Start, api.MaxTime, func(i *api.Inst, n int) { i.Cars[c].End = n }})
	}
	for s, stop := range sample().Stops {
		low, high := -api.MaxDemand, api.MaxDemand
		if s < 4 { // of a pair: what it is, it must be
			low, high = stop.Demand, stop.Demand
		}
		list = append(list,
			span{fmt.Sprint("Demand of stop ", s+1), low, high, func(i *api.Inst, n int) { i.Stops[s].Demand = n }},
			span{fmt.Sprint("Open of stop ", s+1), 0, stop.Close, func(i *api.Inst, n int) { i.Stops[s].Open = n }},
			span{fmt.Sprint("Close of stop ", s+1), stop.Open, api.MaxTime, func(i *api.Inst, n int) { i.Stops[s].Close = n }},
			span{fmt.Sprint("Service of stop ", s+1), 0, api.MaxTime, func(i *api.Inst, n int) { i.Stops[s].Service = n }})
	}
	for a, row := range sample().Travel {
		for b := range row {
			high := api.MaxTime
			if a == b {
				high = 0
			}
			list = append(list, span{fmt.Sprint("Travel from ", a, " to ", b), 0, high, func(i *api.Inst, n int) { i.Travel[a][b] = n }})
		}
	}
	return list
}

// Each bound of each number is met, and passed by one and by far.
func TestCheckOfEachNumber(t *testing.T) {
	for _, s := range spans() {
		for _, n := range []int{s.low, s.low + 1, (s.low + s.high) / 2, s.high - 1, s.high, s.low - 1, s.high + 1,
			-1, 0, 1, math.MinInt, math.MinInt + 1, math.MaxInt, math.MaxInt - 1, -s.high, -s.low, 1 << 32, -1 << 32} {
			want := api.ErrArg
			if s.low <= n && n <= s.high {
				want = api.OK
			}
			i := sample()
			s.set(&i, n)
			if e := Check(i); e != want {
				t.Errorf("%s is %d: %d; want %d", s.name, n, e, want)
			}
			if text, e := Print(i); e != want || (text != "") != (e == api.OK) {
				t.Errorf("%s is %d: Print = %q, %d; want %d", s.name, n, text, e, want)
			}
		}
	}
}

// rightByWords tells anew whether pairs are right, by the words of the promise one by one.
func rightByWords(pairs [][2]int, demands []int) bool {
	count := map[int]int{}
	for _, p := range pairs {
		for _, stop := range p {
			if stop < 1 || stop > len(demands) {
				return false
			}
			count[stop]++
		}
	}
	for _, n := range count {
		if n > 1 {
			return false
		}
	}
	for _, p := range pairs {
		first, second := demands[p[0]-1], demands[p[1]-1]
		if p[0] == p[1] || first < 0 || first+second != 0 {
			return false
		}
	}
	return true
}

// All lists of at most two pairs out of the stops -1 to 5, of four stops that there are.
func TestCheckOfAllPairs(t *testing.T) {
	for _, demands := range [][]int{{2, -2, 2, -2}, {0, 0, 0, -0}, {3, -3, -3, 20}, {-20, 20, 1, -1}} {
		i := ofSize(1, len(demands))
		for s, d := range demands {
			i.Stops[s].Demand = d
		}
		hold := func(pairs ...[2]int) {
			i.Pairs = pairs
			want := api.ErrArg
			if rightByWords(pairs, demands) {
				want = api.OK
			}
			if e := Check(i); e != want {
				t.Errorf("demands %v, pairs %v: %d; want %d", demands, pairs, e, want)
			}
		}
		const choices = 7
		for n := range choices * choices {
			first := [2]int{n/choices - 1, n%choices - 1}
			hold(first)
			for m := range choices * choices {
				hold(first, [2]int{m/choices - 1, m%choices - 1})
			}
		}
	}
}

func TestCheckOfPairs(t *testing.T) {
	for _, c := range []struct {
		name  string
		pairs [][2]int
		want  api.Errno
	}{
		{"none", nil, api.OK},
		{"one", [][2]int{{1, 4}}, api.OK},
		{"two", [][2]int{{1, 4}, {3, 2}}, api.OK},
		{"the wrong way round", [][2]int{{4, 1}}, api.ErrArg},
		{"the second one the wrong way round", [][2]int{{1, 4}, {2, 3}}, api.ErrArg},
		{"unlike demands", [][2]int{{1, 2}}, api.ErrArg},
		{"both loaded", [][2]int{{1, 3}}, api.ErrArg},
		{"of one stop, that has no demand", [][2]int{{5, 5}}, api.ErrArg},
		{"the depot first", [][2]int{{0, 4}}, api.ErrArg},
		{"the depot second", [][2]int{{1, 0}}, api.ErrArg},
		{"below the depot", [][2]int{{1, -4}}, api.ErrArg},
		{"past the stops", [][2]int{{1, 6}}, api.ErrArg},
		{"past the most stops", [][2]int{{api.MaxStops + 1, 4}}, api.ErrArg},
		{"far past", [][2]int{{math.MaxInt, math.MinInt}}, api.ErrArg},
		{"one twice", [][2]int{{1, 4}, {1, 4}}, api.ErrArg},
		{"one twice, not side by side", [][2]int{{1, 4}, {3, 2}, {1, 4}}, api.ErrArg},
	} {
		i := sample()
		i.Pairs = c.pairs
		if e := Check(i); e != c.want {
			t.Errorf("%s: %d; want %d", c.name, e, c.want)
		}
	}
	i := ofSize(1, 4)
	for _, pairs := range [][][2]int{{{1, 2}, {3, 1}}, {{1, 2}, {2, 3}}, {{1, 2}, {1, 3}}, {{1, 2}, {4, 2}}, {{1, 2}, {2, 1}}} {
		i.Pairs = pairs
		if e := Check(i); e != api.ErrArg {
			t.Errorf("a stop in two pairs, %v: %d; want ErrArg", pairs, e)
		}
	}
	i = ofSize(1, api.MaxStops)
	i.Pairs = [][2]int{{10, 9}, {1, 2}, {3, 8}, {5, 4}, {7, 6}}
	if e := Check(i); e != api.OK {
		t.Errorf("as many pairs as there can be: %d; want OK", e)
	}
}

// More pairs than stops allow are refused by the pairs, however many there are.
func TestCheckOfManyPairs(t *testing.T) {
	i := ofSize(1, api.MaxStops)
	i.Pairs = make([][2]int, 1000)
	for k := range i.Pairs {
		i.Pairs[k] = [2]int{2*k + 1, 2*k + 2}
	}
	if e := Check(i); e != api.ErrArg {
		t.Errorf("%d; want ErrArg", e)
	}
}

func TestCheckOfRows(t *testing.T) {
	for _, c := range []struct {
		name   string
		change func(i *api.Inst)
	}{
		{"none", func(i *api.Inst) { i.Travel = nil }},
		{"one too few", func(i *api.Inst) { i.Travel = i.Travel[:5] }},
		{"one too many", func(i *api.Inst) { i.Travel = append(i.Travel, make([]int, 6)) }},
		{"one too many, and each too long", func(i *api.Inst) { i.Travel = square(7) }},
		{"one too few, and each too short", func(i *api.Inst) { i.Travel = square(5) }},
		{"the first one too short", func(i *api.Inst) { i.Travel[0] = i.Travel[0][:5] }},
		{"the last one too short", func(i *api.Inst) { i.Travel[5] = make([]int, 5) }},
		{"the first one too long", func(i *api.Inst) { i.Travel[0] = append(i.Travel[0], 0) }},
		{"the last one too long", func(i *api.Inst) { i.Travel[5] = append(i.Travel[5], 0) }},
		{"one empty", func(i *api.Inst) { i.Travel[3] = nil }},
		{"all empty", func(i *api.Inst) { i.Travel = make([][]int, 6) }},
		{"stops without rows", func(i *api.Inst) { i.Travel = square(1) }},
		{"rows without stops", func(i *api.Inst) { i.Stops, i.Pairs = nil, nil }},
	} {
		i := sample()
		c.change(&i)
		if e := Check(i); e != api.ErrArg {
			t.Errorf("%s: %d; want ErrArg", c.name, e)
		}
	}
}

func TestPrint(t *testing.T) {
	for _, c := range []struct {
		i    api.Inst
		want string
	}{
		{sample(), sampleText},
		{ofSize(1, 0), "car 0 0 0\nrow 0\n"},
		{ofSize(2, 1), "car 0 0 0\ncar 0 0 0\nstop 0 0 0 0\nrow 0 0\nrow 0 0\n"},
	} {
		if text, e := Print(c.i); text != c.want || e != api.OK {
			t.Errorf("Print = %q, %d; want %q, OK", text, e, c.want)
		}
		if i, e := Parse(c.want); !same(i, c.i) || e != api.OK {
			t.Errorf("Parse(%q) = %v, %d; want %v, OK", c.want, i, e, c.i)
		}
	}
	for _, i := range []api.Inst{{}, ofSize(0, 2), ofSize(4, 0), ofSize(1, 11)} {
		if text, e := Print(i); text != "" || e != api.ErrArg {
			t.Errorf("Print = %q, %d; want nothing, ErrArg", text, e)
		}
	}
}

func randomInst(r *rand.Rand) api.Inst {
	i := ofSize(1+r.Intn(api.MaxCars), r.Intn(api.MaxStops+1))
	for c := range i.Cars {
		end := r.Intn(api.MaxTime + 1)
		i.Cars[c] = api.Car{Cap: r.Intn(api.MaxCap + 1), Start: r.Intn(end + 1), End: end}
	}
	for s := range i.Stops {
		last := r.Intn(api.MaxTime + 1)
		i.Stops[s] = api.Stop{Demand: r.Intn(2*api.MaxDemand+1) - api.MaxDemand, Open: r.Intn(last + 1), Close: last, Service: r.Intn(api.MaxTime + 1)}
	}
	order := r.Perm(len(i.Stops))
	for k := 0; k+1 < len(order) && r.Intn(3) > 0; k += 2 {
		first, second := order[k], order[k+1]
		i.Stops[first].Demand = r.Intn(api.MaxDemand + 1)
		i.Stops[second].Demand = -i.Stops[first].Demand
		i.Pairs = append(i.Pairs, [2]int{first + 1, second + 1})
	}
	for a := range i.Travel {
		for b := range i.Travel {
			if a != b {
				i.Travel[a][b] = r.Intn(api.MaxTime + 1)
			}
		}
	}
	return i
}

// printedByWords tells a problem's text anew.
func printedByWords(i api.Inst) string {
	var lines []string
	for _, c := range i.Cars {
		lines = append(lines, fmt.Sprintf("car %d %d %d", c.Cap, c.Start, c.End))
	}
	for _, s := range i.Stops {
		lines = append(lines, fmt.Sprintf("stop %d %d %d %d", s.Demand, s.Open, s.Close, s.Service))
	}
	for _, p := range i.Pairs {
		lines = append(lines, fmt.Sprintf("pair %d %d", p[0], p[1]))
	}
	for _, row := range i.Travel {
		lines = append(lines, "row "+strings.Trim(fmt.Sprint(row), "[]"))
	}
	return strings.Join(lines, "\n") + "\n"
}

func TestWhatIsPrintedIsParsedAsItWas(t *testing.T) {
	r := rand.New(rand.NewSource(3))
	for range 3000 {
		i := randomInst(r)
		text, e := Print(i)
		if e != api.OK || text != printedByWords(i) {
			t.Fatalf("Print(%v) = %q, %d", i, text, e)
		}
		if got, e := Parse(text); e != api.OK || !same(got, i) {
			t.Fatalf("Parse(%q) = %v, %d; want %v, OK", text, got, e, i)
		}
	}
}

func TestParseOfWhatCheckRefuses(t *testing.T) {
	for _, text := range []string{
		"",
		"car 0 0 0\n",
		"row 0\n",
		"stop 0 0 0 0\n",
		"pair 1 2\n",
		"pair 0 0\nrow 1\n",
		"car 0 0 0\nrow 1\n",
		"car 0 0 0\nrow -1\n",
		"car 0 0 0\nrow 0 0\n",
		"car 0 0 0\nrow 0\nrow 0\n",
		"car 0 0 0\npair 1 2\nrow 0\n",
		"car 0 0 0\nstop 0 0 0 0\nrow 0\n",
		"car 0 0 0\nstop 0 0 0 0\nrow 0 0\n",
		"car 0 0 0\nstop 0 0 0 0\nrow 0 0\nrow 0\n",
		"car 61 0 0\nrow 0\n",
		"car 0 1 0\nrow 0\n",
		"car 999999999999999999 -999999999999999999 0\nrow 0\n",
		strings.Repeat("car 0 0 0\n", 4) + "row 0\n",
		strings.Replace(sampleText, "pair 1 4", "pair 4 1", 1),
		strings.Replace(sampleText, "pair 1 4", "pair 1 3", 1),
		strings.Replace(sampleText, "pair 1 4", "pair 3 2", 1),
		strings.Replace(sampleText, "pair 1 4", "pair 5 5", 1),
		strings.Replace(sampleText, "pair 1 4", "pair 1 999999999999999999", 1),
		strings.Replace(sampleText, "stop -20", "stop -21", 1),
		strings.Replace(sampleText, "14\n", "1001\n", 1),
		strings.Replace(sampleText, "row 0 0 0 0 0 0\n", "", 1),
		sampleText + "row 0 0 0 0 0 0\n",
		"car 0 0 0\nrow" + strings.Repeat(" 0", 5000) + "\n",
		"car 0 0 0\n" + strings.Repeat("row 0\n", 5000),
	} {
		if i, e := Parse(text); !reflect.DeepEqual(i, api.Inst{}) || e != api.ErrArg {
			t.Errorf("Parse(%.60q) = %v, %d; want nothing, ErrArg", text, i, e)
		}
	}
}

func TestParseOfWhatIsNoText(t *testing.T) {
	texts := []string{
		"\n", " ", " \n", "x", "x\n", "car", "car\n", "row", "row\n", "row \n", "0\n", "1 2 3\n", "\x00", "\xff\n",
		"car 0 0 0", "car 0 0 0\nrow 0", "car 0 0 0\nrow 0\n\n", "\ncar 0 0 0\nrow 0\n", "car 0 0 0\n\nrow 0\n",
		"car 0 0 0\nrow 0\n ", "car 0 0 0\nrow 0\nx", "car 0 0 0\nrow 0\ncar", "car 0 0 0\nrow 0\nrow 0",
		"car 0 0 0\nrow 0\ncar 0 0 0\n", "row 0\ncar 0 0 0\n", "car 0 0 0\nrow 0\nstop 0 0 0 0\n", "car 0 0 0\nrow 0\npair 1 2\n",
		"stop 0 0 0 0\ncar 0 0 0\nrow 0 0\nrow 0 0\n", "car 0 0 0\npair 1 2\nstop 0 0 0 0\nstop 0 0 0 0\n",
		"Car 0 0 0\nrow 0\n", "CAR 0 0 0\nrow 0\n", "cars 0 0 0\nrow 0\n", "ca 0 0 0\nrow 0\n", "car0 0 0\nrow 0\n",
		"car 0 0 0\rrow 0\n", "car 0 0 0\r\nrow 0\r\n", "car\t0 0 0\nrow 0\n", "car 0 0 0\nrow 0\t\n", "car 0 0 0;row 0\n",
		"car 0 0\nrow 0\n", "car 0 0 0 0\nrow 0\n", "car 0\nrow 0\n", "car 0 0 0\nstop 0 0 0\n", "car 0 0 0\nstop 0 0 0 0 0\n",
		"car 0 0 0\npair 1\n", "car 0 0 0\npair 1 2 3\n", "car 0 0 0\npair\n", "car 0 0 0\nstop\n",
		sampleText[1:], sampleText[:len(sampleText)-1], " " + sampleText, sampleText + " ", sampleText + "\n", "\n" + sampleText, sampleText + sampleText,
		// what Check refuses as well: that it is no text comes first
		"car 99 0 0\nrow 0", "car 99 0 0\nrow x\n", strings.Repeat("car 0 0 0\n", 9) + "x\n",
	}
	for _, number := range []string{"00", "01", "-0", "+1", "1.0", "0x1", "1e1", "-", "--1", "x", "\u0661", "1000000000000000000", "-1000000000000000000", "9223372036854775808", "1_0", "1,", "1-"} {
		texts = append(texts, "car "+number+" 0 0\nrow 0\n", "car 0 "+number+" 0\nrow 0\n", "car 0 0 "+number+"\nrow 0\n",
			"car 0 0 0\nstop 0 0 0 "+number+"\nrow 0 0\nrow 0 0\n", "car 0 0 0\npair 1 "+number+"\nrow 0\n", "car 0 0 0\nrow "+number+"\n")
	}
	for _, text := range texts {
		if i, e := Parse(text); !reflect.DeepEqual(i, api.Inst{}) || e != api.ErrForm {
			t.Errorf("Parse(%q) = %v, %d; want nothing, ErrForm", text, i, e)
		}
	}
}

// A blank more, at each place of each line, makes a text none; so does one that is taken away.
func TestParseOfBlanks(t *testing.T) {
	for at := range len(sampleText) + 1 {
		texts := []string{}
		if at == 0 || at == len(sampleText) || strings.ContainsAny(sampleText[at-1:at+1], " \n") {
			texts = append(texts, sampleText[:at]+" "+sampleText[at:])
		}
		if at < len(sampleText) && sampleText[at] == ' ' {
			texts = append(texts, sampleText[:at]+sampleText[at+1:], sampleText[:at]+"\t"+sampleText[at+1:])
		}
		for _, text := range texts {
			if i, e := Parse(text); !reflect.DeepEqual(i, api.Inst{}) || e != formOf(text, e) || e == api.OK {
				t.Errorf("Parse(%q) = %v, %d", text, i, e)
			}
		}
	}
}

const number = `(0|-?[1-9][0-9]{0,17})`

var textForm = regexp.MustCompile(`\A(car( ` + number + `){3}\n)*(stop( ` + number + `){4}\n)*(pair( ` + number + `){2}\n)*(row( ` + number + `)+\n)*\z`)

// formOf answers ErrForm if text has not a text's form, else e, which must not be ErrForm then.
func formOf(text string, e api.Errno) api.Errno {
	if !textForm.MatchString(text) {
		return api.ErrForm
	}
	if e == api.ErrForm {
		return -1
	}
	return e
}

// changed is text with a few bytes, or lines, changed.
func changed(r *rand.Rand, text string) string {
	const pieces = "0123456789- \nrow car stop pair x\t\r"
	for range 1 + r.Intn(2) {
		at := r.Intn(len(text) + 1)
		to := at + r.Intn(min(3, len(text)-at+1))
		switch r.Intn(6) {
		case 0, 1:
			from := r.Intn(len(pieces))
			text = text[:at] + pieces[from:from+1] + text[to:]
		case 2:
			text = text[:at] + text[to:]
		case 3:
			text = text[:at] + " " + text[at:]
		default:
			lines := strings.SplitAfter(text, "\n")
			a, b := r.Intn(len(lines)), r.Intn(len(lines))
			lines[a], lines[b] = lines[b], lines[a]
			text = strings.Join(lines, "")
		}
	}
	return text
}

// A text that has a text's form is parsed to a problem that prints the same, or is refused by Check; no other one is.
func TestParseOfChangedTexts(t *testing.T) {
	r := rand.New(rand.NewSource(4))
	counts := map[api.Errno]int{}
	for range 30000 {
		text := changed(r, printedByWords(randomInst(r)))
		i, e := Parse(text)
		counts[e]++
		if e != formOf(text, e) {
			t.Fatalf("Parse(%q) = %v, %d; want ErrForm to tell of its form", text, i, e)
		}
		if e != api.OK && !reflect.DeepEqual(i, api.Inst{}) {
			t.Fatalf("Parse(%q) = %v beside %d", text, i, e)
		}
		if again, _ := Print(i); e == api.OK && (again != text || Check(i) != api.OK) {
			t.Fatalf("Parse(%q) = %v, which prints %q", text, i, again)
		}
	}
	if counts[api.OK] < 100 || counts[api.ErrArg] < 100 || counts[api.ErrForm] < 100 {
		t.Errorf("too few of a kind: %v", counts)
	}
}

// All short texts of a few pieces.
func TestParseOfAllShortTexts(t *testing.T) {
	pieces := []string{"car", "row", " ", "0", "-0", "1", "\n", "car 0 0 0\n", "row 0\n"}
	var grow func(text string, length int)
	grow = func(text string, length int) {
		if i, e := Parse(text); e != formOf(text, e) || e == api.OK && printedByWords(i) != text {
			t.Fatalf("Parse(%q) = %v, %d", text, i, e)
		}
		if length == 0 {
			return
		}
		for _, piece := range pieces {
			grow(text+piece, length-1)
		}
	}
	grow("", 5)
}

func TestMateAndFirst(t *testing.T) {
	for _, c := range []struct {
		stop, mate int
		first      bool
	}{
		{1, 4, true}, {2, 3, false}, {3, 2, true}, {4, 1, false}, {5, 0, false},
		{0, 0, false}, {-1, 0, false}, {-4, 0, false}, {6, 0, false}, {11, 0, false}, {math.MaxInt, 0, false}, {math.MinInt, 0, false},
	} {
		if got := Mate(sample(), c.stop); got != c.mate {
			t.Errorf("Mate of %d = %d; want %d", c.stop, got, c.mate)
		}
		if got := First(sample(), c.stop); got != c.first {
			t.Errorf("First of %d = %v; want %v", c.stop, got, c.first)
		}
	}
	for stop := -2; stop < 14; stop++ {
		for _, i := range []api.Inst{ofSize(1, 0), ofSize(1, api.MaxStops)} {
			if Mate(i, stop) != 0 || First(i, stop) {
				t.Errorf("%d, where there are no pairs: %d, %v", stop, Mate(i, stop), First(i, stop))
			}
		}
	}
}

func TestMateAndFirstOfRandomProblems(t *testing.T) {
	r := rand.New(rand.NewSource(5))
	for range 1000 {
		i := randomInst(r)
		mates, firsts := map[int]int{}, map[int]bool{}
		for _, p := range i.Pairs {
			mates[p[0]], mates[p[1]], firsts[p[0]] = p[1], p[0], true
		}
		for stop := -1; stop <= api.MaxStops+1; stop++ {
			if Mate(i, stop) != mates[stop] || First(i, stop) != firsts[stop] {
				t.Fatalf("%d of %v: %d, %v", stop, i.Pairs, Mate(i, stop), First(i, stop))
			}
		}
	}
}

// No call panics at a problem that is none.
func TestNoCallPanics(t *testing.T) {
	far := api.Inst{Pairs: [][2]int{{math.MinInt, math.MaxInt}, {0, -1}}, Travel: [][]int{nil, {}}}
	for _, i := range []api.Inst{{}, far, {Stops: make([]api.Stop, 1000)}, {Pairs: make([][2]int, 1000)}} {
		Check(i)
		Print(i)
		for _, stop := range []int{math.MinInt, -1, 0, 1, math.MaxInt} {
			Mate(i, stop)
			First(i, stop)
		}
	}
}

// withMore is i in memory that goes on behind each list's length, and a way to tell whether that was written to.
func withMore(i api.Inst) (api.Inst, func() bool) {
	more := i
	more.Cars = append(slices.Clone(i.Cars), api.Car{Cap: -7})[:len(i.Cars)]
	more.Stops = append(slices.Clone(i.Stops), api.Stop{Open: -7})[:len(i.Stops)]
	more.Pairs = append(slices.Clone(i.Pairs), [2]int{-7, -7})[:len(i.Pairs)]
	more.Travel = append(slices.Clone(i.Travel), []int{-7})[:len(i.Travel)]
	for k, row := range i.Travel {
		more.Travel[k] = append(slices.Clone(row), -7)[:len(row)]
	}
	return more, func() bool {
		n := len(i.Travel)
		return more.Cars[:len(i.Cars)+1][len(i.Cars)].Cap == -7 && more.Stops[:len(i.Stops)+1][len(i.Stops)].Open == -7 &&
			more.Pairs[:len(i.Pairs)+1][len(i.Pairs)][0] == -7 && more.Travel[:n+1][n][0] == -7 && more.Travel[0][:n+1][n] == -7
	}
}

func TestWhatIsHandedInIsNotChanged(t *testing.T) {
	i, kept := withMore(sample())
	if e := Check(i); e != api.OK {
		t.Errorf("Check = %d", e)
	}
	if text, e := Print(i); text != sampleText || e != api.OK {
		t.Errorf("Print = %q, %d", text, e)
	}
	if Mate(i, -7) != 0 || First(i, -7) {
		t.Error("a pair behind the list's length was read")
	}
	if !same(i, sample()) || !kept() {
		t.Errorf("changed to %v", i)
	}
}

func TestWhatIsParsedIsNewMemory(t *testing.T) {
	first, _ := Parse(sampleText)
	second, _ := Parse(sampleText)
	for k := range first.Travel {
		_ = append(first.Travel[k], -1)
		_ = append(first.Travel[k][:0], -1, -2, -3)
	}
	_ = append(first.Cars[:0], api.Car{Cap: -1})
	_ = append(first.Stops[:0], api.Stop{Open: -1})
	_ = append(first.Pairs[:0], [2]int{-1, -1})
	third, _ := Parse(sampleText)
	if !same(second, sample()) || !same(third, sample()) {
		t.Errorf("changed to %v and %v", second, third)
	}
	for k := range second.Travel {
		_ = append(second.Travel[k], -1)
	}
	if !same(second, sample()) {
		t.Errorf("rows share memory: %v", second)
	}
}
