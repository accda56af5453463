package op

import (
	"math"
	"reflect"
	"strings"
	"testing"
	"unsafe"

	"tattle/api"
)

// piece is a part of an operation's bytes: a number (a text's length among them), or a
// text's own bytes.
type piece struct {
	bytes  string
	number bool
}

// pieces are o's, told once more, by the words of P11.2.
func pieces(o api.Op) []piece {
	var all []piece
	number := func(xs ...int) {
		for _, x := range xs {
			all = append(all, piece{digits(uint64(x)), true})
		}
	}
	text := func(ss ...string) {
		for _, s := range ss {
			number(len(s))
			all = append(all, piece{s, false})
		}
	}
	folded := func(x int) int {
		if x >= 0 {
			return 2 * x
		}
		return -2*x - 1
	}
	number(o.Dot.Node, o.Dot.Seq, o.Time)
	number(o.Deps...)
	number(o.Kind)
	text(o.Type, o.Id, o.Field)
	switch o.Kind {
	case api.OpSet, api.OpPut:
		text(o.Value)
	case api.OpAdd:
		number(folded(o.Num.Re), folded(o.Num.Im))
	case api.OpDrop:
		number(len(o.Dots))
		for _, d := range o.Dots {
			number(d.Node, d.Seq)
		}
	case api.OpInsert:
		number(o.Ref.Node, o.Ref.Seq)
		text(o.Value)
	case api.OpErase:
		number(o.Ref.Node, o.Ref.Seq)
	}
	return all
}

// digits are x's seven bits a byte, the lowest first.
func digits(x uint64) string {
	if x < 128 {
		return string([]byte{byte(x)})
	}
	return string([]byte{byte(x%128) + 128}) + digits(x/128)
}

func join(all []piece) string {
	s := ""
	for _, p := range all {
		s += p.bytes
	}
	return s
}

func bytesOf(o api.Op) string {
	return join(pieces(o))
}

// same tells whether a and b are one operation; an empty list and nil are one.
func same(a, b api.Op) bool {
	for _, o := range []*api.Op{&a, &b} {
		if len(o.Deps) == 0 {
			o.Deps = nil
		}
		if len(o.Dots) == 0 {
			o.Dots = nil
		}
	}
	return reflect.DeepEqual(a, b)
}

// wantPut wants o's bytes of Put, and o of Get again.
func wantPut(t *testing.T, what string, o api.Op, nodes int) {
	t.Helper()
	want := bytesOf(o)
	if s, err := Put(o, nodes); s != want || err != api.OK {
		t.Errorf("P11.2: %s: Put(%v, %d) = %q, %d, want %q", what, short(o), nodes, clip(s), err, clip(want))
	}
	if got, err := Get(want, nodes); !same(got, o) || err != api.OK {
		t.Errorf("P11.2: %s: Get(%q, %d) = %v, %d, want %v", what, clip(want), nodes, short(got), err, short(o))
	}
}

// wantPutRefused and wantGetRefused want nothing beside the error (R2).
func wantPutRefused(t *testing.T, what string, o api.Op, nodes int) {
	t.Helper()
	if s, err := Put(o, nodes); s != "" || err != api.ErrOpForm {
		t.Errorf("P11.2: %s: Put(%v, %d) = %q, %d, want ErrOpForm", what, short(o), nodes, clip(s), err)
	}
}

func wantGetRefused(t *testing.T, what string, s string, nodes int) {
	t.Helper()
	if o, err := Get(s, nodes); !reflect.DeepEqual(o, api.Op{}) || err != api.ErrOpForm {
		t.Errorf("P11.2: %s: Get(%q, %d) = %v, %d, want ErrOpForm", what, clip(s), nodes, short(o), err)
	}
}

func clip(s string) string {
	if len(s) > 60 {
		return s[:60]
	}
	return s
}

// P11.2, bytes that are written out by hand.
func TestBytesOfEachKind(t *testing.T) {
	head := "\x01\xac\x02\x05\x07\xab\x02\x04"
	for kind, want := range []string{
		head + "\x00\x01T\x01i\x01f\x03tea",
		head + "\x01\x01T\x01i\x01f\x05\x80\x01",
		head + "\x02\x01T\x01i\x01f\x04milk",
		head + "\x03\x01T\x01i\x01f\x03\x00\x02\x00\x07\x02\x04",
		head + "\x04\x01T\x01i\x01f\x00\x03\x03oil",
		head + "\x05\x01T\x01i\x01f\x02\x01",
	} {
		o := plain(kind)
		if s, err := Put(o, 3); s != want || err != api.OK {
			t.Errorf("P11.2: Put(%v) = %q, %d, want %q", o, s, err, want)
		}
		if got, err := Get(want, 3); !same(got, o) || err != api.OK {
			t.Errorf("P11.2: Get(%q) = %v, %d, want %v", want, got, err, o)
		}
	}
}

func TestBytesAtTheLimits(t *testing.T) {
	long, id := strings.Repeat("n", 32), strings.Repeat("\xff", 256)
	one := api.Op{Dot: dotOf(0, 1048575), Time: 16777215, Deps: []int{1048574}, Type: long, Id: id, Field: "_"}
	head := "\x00\xff\xff\x3f\xff\xff\xff\x07\xfe\xff\x3f"
	names := "\x20" + long + "\x80\x02" + id + "\x01_"
	add, drop, insert := one, one, one
	add.Kind, add.Num = api.OpAdd, api.Pair{Re: 1099511627776, Im: -1099511627776}
	drop.Kind = api.OpDrop
	insert.Kind, insert.Value = api.OpInsert, id
	for want, o := range map[string]api.Op{
		head + "\x00" + names + "\x00": one,
		head + "\x01" + names + "\x80\x80\x80\x80\x80\x40" + "\xff\xff\xff\xff\xff\x3f": add,
		head + "\x03" + names + "\x00":                       drop,
		head + "\x04" + names + "\x00\x00" + "\x80\x02" + id: insert,
	} {
		if s, err := Put(o, 1); s != want || err != api.OK {
			t.Errorf("P11.2: Put(%v) = %q, %d, want %q", short(o), s, err, want)
		}
		wantPut(t, "limits", o, 1)
	}
}

// The folds of the numbers near 0 and of the limits, one by one.
func TestBytesOfNum(t *testing.T) {
	for x, want := range map[int]string{
		0: "\x00", -1: "\x01", 1: "\x02", -2: "\x03", 2: "\x04", 63: "\x7e", -64: "\x7f", 64: "\x80\x01", -65: "\x81\x01",
		1099511627776: "\x80\x80\x80\x80\x80\x40", -1099511627776: "\xff\xff\xff\xff\xff\x3f",
	} {
		o := plain(api.OpAdd)
		head := strings.TrimSuffix(bytesOf(o), "\x05\x80\x01")
		o.Num = api.Pair{Re: x, Im: 1}
		if s, err := Put(o, 3); s != head+want+"\x02" || err != api.OK {
			t.Errorf("P11.2: Re %d: %q, %d", x, s, err)
		}
		o.Num = api.Pair{Re: -1, Im: x}
		if s, err := Put(o, 3); s != head+"\x01"+want || err != api.OK {
			t.Errorf("P11.2: Im %d: %q, %d", x, s, err)
		}
	}
}

// P11.2, there and back.

func TestThereAndBack(t *testing.T) {
	each(fineRows(), func(what string, o api.Op) { wantPut(t, what, o, 3) })
}

func TestThereAndBackOfEachCluster(t *testing.T) {
	for n := 1; n <= 16; n++ {
		for node := range n {
			for _, kind := range allKinds {
				if kind == api.OpErase && n == 1 {
					continue
				}
				for _, seq := range []int{1, 127, 128, 1048575} {
					wantPut(t, "nodes", of(n, node, seq, kind), n)
				}
			}
		}
	}
}

// Operations that are unlike have unlike bytes.
func TestNoTwoHaveTheSameBytes(t *testing.T) {
	seen := map[string]api.Op{}
	each(fineRows(), func(_ string, o api.Op) {
		s, _ := Put(o, 3)
		if was, found := seen[s]; found && !same(was, o) {
			t.Errorf("P11.2: %v and %v are %q", short(was), short(o), clip(s))
		}
		seen[s] = o
	})
}

// P11.2, what is refused.

func TestPutOfWhatMayNotBe(t *testing.T) {
	each(badRows(), func(what string, o api.Op) { wantPutRefused(t, what, o, 3) })
	each(strayRows(), func(what string, o api.Op) { wantPutRefused(t, what, o, 3) })
	for _, kind := range allKinds {
		for _, nodes := range []int{math.MinInt, -1, 0, 1, 2, 4, 16, 17, 1<<32 + 3, math.MaxInt} {
			wantPutRefused(t, "nodes", plain(kind), nodes)
		}
		wantPutRefused(t, "17 nodes", of(17, 3, 5, kind), 17)
	}
	for _, kind := range noKinds {
		wantPutRefused(t, "Kind", plain(kind), 3)
	}
}

// tellable tells whether Put's words give o bytes that are o's alone: no number of it is
// below 0 or leaves an int once it is folded.
func tellable(o api.Op) bool {
	least := min(o.Dot.Node, o.Dot.Seq, o.Time, o.Ref.Node, o.Ref.Seq)
	for _, x := range o.Deps {
		least = min(least, x)
	}
	for _, d := range o.Dots {
		least = min(least, d.Node, d.Seq)
	}
	within := func(x int) bool { return -1<<61 <= x && x <= 1<<61 }
	return least >= 0 && within(o.Num.Re) && within(o.Num.Im)
}

// Bytes of what may not be are refused, though each number and each text stands well.
func TestGetOfWhatMayNotBe(t *testing.T) {
	tried := 0
	each(badRows(), func(what string, o api.Op) {
		if tellable(o) {
			tried++
			wantGetRefused(t, what, bytesOf(o), 3)
		}
	})
	if tried < 500 {
		t.Errorf("%d operations were tried", tried)
	}
	for _, kind := range noKinds {
		if kind < 0 {
			continue
		}
		for _, rest := range []string{"", "\x00", "\x01v", "\x00\x00", "\x00\x01\x01v", "\x01\x00\x01"} {
			wantGetRefused(t, "Kind", bytesOf(plain(kind))+rest, 3)
		}
	}
}

func TestGetOfOtherNumbersOfNodes(t *testing.T) {
	for _, kind := range allKinds {
		s := bytesOf(plain(kind))
		for _, nodes := range []int{math.MinInt, math.MinInt + 3, -16, -3, -1, 0, 1, 2, 4, 5, 15, 16, 17, 18, 1 << 8, 1<<8 + 3, 1 << 32, 1<<32 + 3, math.MaxInt - 1, math.MaxInt} {
			wantGetRefused(t, "nodes", s, nodes)
		}
		for _, n := range []int{17, 18, 40} {
			wantGetRefused(t, "nodes", bytesOf(of(n, 3, 5, kind)), n)
		}
	}
	// Without nodes there are no Deps, with many there is nothing but them.
	for _, nodes := range []int{math.MinInt, -1, 0, 17, math.MaxInt} {
		for _, s := range []string{"", "\x00", "\x00\x01\x01\x00\x01T\x01i\x01f\x00", strings.Repeat("\x01", 1<<20)} {
			wantGetRefused(t, "nodes", s, nodes)
		}
	}
}

func TestGetOfProperBeginnings(t *testing.T) {
	check := func(what string, o api.Op) {
		s := bytesOf(o)
		for n := range len(s) {
			wantGetRefused(t, what, s[:n], len(o.Deps))
		}
	}
	for _, kind := range allKinds {
		check("plain", plain(kind))
		check("16 nodes", of(16, 15, 1048575, kind))
	}
	o := plain(api.OpDrop)
	o.Deps[0], o.Dots = 64, many(64)
	check("MaxDots Dots", o)
	o = plain(api.OpInsert)
	o.Id, o.Value = strings.Repeat("i", 200), strings.Repeat("v", 256)
	check("long texts", o)
}

func TestGetOfBytesBehind(t *testing.T) {
	each(fineRows(), func(what string, o api.Op) {
		s := bytesOf(o)
		for _, behind := range []string{"\x00", "\x01", "\x80", "\xff", " ", "v", "\x00\x00", s} {
			wantGetRefused(t, what, s+behind, 3)
		}
		wantGetRefused(t, what, "\x00"+s, 3)
	})
}

// Each number of an operation, a text's length among them, in a form that is longer
// than it needs, in one that is too long, and as one beyond all limits.
func TestGetOfOtherForms(t *testing.T) {
	for _, kind := range allKinds {
		all := pieces(plain(kind))
		for i, p := range all {
			if !p.number {
				continue
			}
			last := p.bytes[len(p.bytes)-1]
			longer := p.bytes[:len(p.bytes)-1] + string([]byte{last | 128})
			for _, form := range []string{
				longer + "\x00", longer + "\x80\x00", longer + strings.Repeat("\x80", 12) + "\x00",
				digits(math.MaxInt), digits(math.MaxInt - 1), digits(math.MaxInt - 2), digits(1 << 42), digits(1 << 60),
				digits(1 << 63), digits(math.MaxUint64), strings.Repeat("\xff", 12), "",
			} {
				turned := append([]piece(nil), all...)
				turned[i].bytes = form
				wantGetRefused(t, "form", join(turned), 3)
			}
		}
	}
}

// A number of Dots is not believed: neither one with too few behind it, nor one with
// too many, nor one above MaxDots with all of them behind it.
func TestGetOfNumbersOfDots(t *testing.T) {
	o := plain(api.OpDrop)
	o.Deps[0], o.Dots = 70, nil
	head := strings.TrimSuffix(bytesOf(o), "\x00")
	for told := range 70 {
		for _, there := range []int{told - 1, told, told + 1} {
			s := head + digits(uint64(told))
			for i := range max(there, 0) {
				s += "\x00" + digits(uint64(1+i))
			}
			if there == told && told <= 64 {
				if got, err := Get(s, 3); len(got.Dots) != told || err != api.OK {
					t.Errorf("P11.2: %d Dots: %v, %d", told, got, err)
				}
			} else if there >= 0 {
				wantGetRefused(t, "Dots", s, 3)
			}
		}
	}
	for _, told := range []uint64{1 << 20, 1 << 32, 1<<32 + 1, 1 << 60, math.MaxInt} {
		wantGetRefused(t, "Dots", head+digits(told), 3)
		wantGetRefused(t, "Dots", head+digits(told)+"\x00\x01", 3)
	}
}

// Bytes that would tell an operation, if one that reads them began once more at their
// first byte, or went on behind it, once a number of Deps has a wrong form.
func TestGetReadsNothingBehindAFault(t *testing.T) {
	wantGetRefused(t, "numbers once more", "\x01\x01T\x03\x80\x00x\x01f\x02\x02", 2)
	wantGetRefused(t, "texts once more", "\x01T\x04\x05S\x80\x00\x01f\x00", 3)
	wantGetRefused(t, "on behind it", "\x01\x01\x05\x03\x80\x00\x01\x01T\x01i\x01f\x02\x02", 2)
	wantGetRefused(t, "on within it", "\x01\x01\x05\x03\x80\x00\x01T\x01i\x01f\x02\x02", 2)
}

func TestGetOfNothing(t *testing.T) {
	for nodes := -2; nodes < 20; nodes++ {
		wantGetRefused(t, "nothing", "", nodes)
		wantGetRefused(t, "zeros", strings.Repeat("\x00", 40), nodes)
		wantGetRefused(t, "bytes that go on", strings.Repeat("\xff", 400), nodes)
	}
}

// Each byte of an operation, turned to each other one: what is taken has just those
// bytes.
func TestGetOfBytesThatAreTurned(t *testing.T) {
	for _, kind := range allKinds {
		s := []byte(bytesOf(plain(kind)))
		for i, was := range s {
			for b := range 256 {
				s[i] = byte(b)
				wantTakenOrRefused(t, string(s), 3)
			}
			s[i] = was
		}
	}
}

// wantTakenOrRefused wants of Get an operation that may be and that has just those
// bytes, or nothing beside the error.
func wantTakenOrRefused(t *testing.T, s string, nodes int) {
	t.Helper()
	o, err := Get(s, nodes)
	if err != api.OK {
		wantGetRefused(t, "refused", s, nodes)
		return
	}
	wantMay(t, "taken", o, nodes, true)
	if back := bytesOf(o); back != s {
		t.Errorf("P11.2: Get(%q, %d) = %v, whose bytes are %q", s, nodes, o, back)
	}
	wantPut(t, "taken", o, nodes)
}

// R4 of what Get answers.

func TestAnswersShareNoLists(t *testing.T) {
	for _, kind := range allKinds {
		s := bytesOf(plain(kind))
		first, _ := Get(s, 3)
		second, _ := Get(s, 3)
		deps, ds := first.Deps[:cap(first.Deps)], first.Dots[:cap(first.Dots)]
		for i := range deps {
			deps[i] = -7
		}
		if !same(second, plain(kind)) {
			t.Errorf("R4: the second answer is %v", second)
		}
		for i := range ds {
			if kind == api.OpDrop && i < len(first.Dots) && first.Dots[i] != plain(kind).Dots[i] {
				t.Errorf("R4: Deps and Dots share memory: %v", first)
			}
			ds[i] = dotOf(-7, -7)
		}
		if !same(second, plain(kind)) {
			t.Errorf("R4: the second answer is %v", second)
		}
		again, err := Get(s, 3)
		if !same(again, plain(kind)) || err != api.OK {
			t.Errorf("R4: the third answer is %v, %d", again, err)
		}
	}
}

// inside tells whether text's bytes are a piece of s.
func inside(s, text string) bool {
	from, at := uintptr(unsafe.Pointer(unsafe.StringData(s))), uintptr(unsafe.Pointer(unsafe.StringData(text)))
	return text != "" && at >= from && at < from+uintptr(len(s))
}

func TestAnswersShareNoTexts(t *testing.T) {
	o := plain(api.OpInsert)
	o.Type, o.Id, o.Field, o.Value = strings.Repeat("T", 30), strings.Repeat("i", 200), strings.Repeat("f", 30), strings.Repeat("v", 200)
	s := bytesOf(o)
	first, _ := Get(s, 3)
	second, _ := Get(s, 3)
	ofOp := func(o api.Op) []string { return []string{o.Type, o.Id, o.Field, o.Value} }
	for i, text := range ofOp(first) {
		if inside(s, text) || inside(text, ofOp(second)[i]) {
			t.Errorf("R4: %q is shared", text)
		}
	}
	told, _ := Put(o, 3)
	again, _ := Put(o, 3)
	for _, text := range append(ofOp(o), again) {
		if inside(told, text) || inside(text, told) {
			t.Errorf("R4: Put shares %q", text)
		}
	}
}

// R1, R2 and the words of P11.1 and P11.2, of whatever bytes and numbers of nodes come.
func FuzzGet(f *testing.F) {
	for _, kind := range allKinds {
		f.Add(bytesOf(plain(kind)), 3)
		f.Add(bytesOf(of(16, 15, 1048575, kind)), 16)
		f.Add(bytesOf(of(2, 1, 1, kind)), 2)
	}
	f.Add("", 0)
	f.Add("\x00\x01\x01\x00\x00\x01T\x01i\x01f\x00", 1)
	f.Fuzz(func(t *testing.T, s string, nodes int) { wantTakenOrRefused(t, s, nodes) })
}
