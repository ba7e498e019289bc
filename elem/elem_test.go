package elem_test

import (
	"math"
	"slices"
	"testing"

	"ratchet/api"
	"ratchet/curve"
	"ratchet/elem"
	"ratchet/expo"
	"ratchet/fx"
	"ratchet/mixer"
	"ratchet/sample"
	"ratchet/shape"
	"ratchet/view"
)

const most = sample.Most

var of, row = sample.Of, sample.Row

func counts() []int { return []int{8, 9, 16, 24, 31, 32} }

func opsOfTwo() []int { return []int{api.OpAdd, api.OpSub, api.OpMul, api.OpDiv} }

func opsOfOne() []int {
	return []int{api.OpNeg, api.OpScale, api.OpRelu, api.OpLeaky, api.OpSigmoid, api.OpTanh, api.OpSoftplus, api.OpExp, api.OpLn}
}

// allOps are more than there are.
func allOps() []int {
	list := []int{math.MinInt, math.MinInt32, -256, math.MaxInt32, math.MaxInt, 256, 1 << 32, 1<<32 + api.OpAdd, 1<<32 + api.OpNeg}
	for op := -3; op <= api.OpHuber+10; op++ {
		list = append(list, op)
	}
	return list
}

// takesWord is whether op has a word beside it.
func takesWord(op int) bool { return op == api.OpScale || op == api.OpLeaky }

func held(t *testing.T, what string, got api.Tensor, e api.Errno, want api.Tensor, wantE api.Errno) {
	t.Helper()
	if e != wantE || !sample.Same(got, want) || e != api.OK && !sample.IsZero(got) {
		t.Errorf("%s: %v, %v; want %v, %v", what, got, e, want, wantE)
	}
}

func twoIs(t *testing.T, op int, a, b api.Tensor, f int, want api.Tensor, wantE api.Errno) {
	t.Helper()
	got, e := elem.Two(op, a, b, f)
	if e != wantE || !sample.Same(got, want) || e != api.OK && !sample.IsZero(got) {
		t.Errorf("Two(%d, %v, %v, %d): %v, %v; want %v, %v", op, a, b, f, got, e, want, wantE)
	}
}

func oneIs(t *testing.T, op int, a api.Tensor, w int64, f int, want api.Tensor, wantE api.Errno) {
	t.Helper()
	got, e := elem.One(op, a, w, f)
	if e != wantE || !sample.Same(got, want) || e != api.OK && !sample.IsZero(got) {
		t.Errorf("One(%d, %v, %d, %d): %v, %v; want %v, %v", op, a, w, f, got, e, want, wantE)
	}
}

func none(t *testing.T, what string, got api.Tensor, e api.Errno, want api.Errno) {
	t.Helper()
	held(t, what, got, e, api.Tensor{}, want)
}

// P8.1

func TestCheckOfTensors(t *testing.T) {
	m := mixer.Mixer(81)
	for _, s := range append(sample.Shapes(), []int{4096, 16}, []int{16, 16, 16, 16}) {
		one := sample.Tensor(&m, s, 47)
		if e := elem.Check(one); e != api.OK {
			t.Errorf("of shape %v: %v", s, e)
		}
		for _, at := range []int{0, len(one.Data) / 2, len(one.Data) - 1} {
			for _, v := range sample.Edges() {
				one.Data[at] = v
				if e := elem.Check(one); e != api.OK {
					t.Errorf("of shape %v with %d at %d: %v", s, v, at, e)
				}
			}
		}
	}
	if e := elem.Check(of(nil, most)); e != api.OK {
		t.Error(e)
	}
	if e := elem.Check(api.Tensor{Shape: []int{}, Data: []int64{-most}}); e != api.OK {
		t.Error(e)
	}
}

func TestCheckOfNoTensors(t *testing.T) {
	for _, one := range sample.NoTensors() {
		if e := elem.Check(one); e != api.ErrForm {
			t.Errorf("of shape %v, %d words: %v", one.Shape, len(one.Data), e)
		}
	}
	if e := elem.Check(api.Tensor{}); e != api.ErrForm {
		t.Errorf("of no words: %v", e)
	}
}

func TestNoTensorsAreToldFirst(t *testing.T) {
	for _, bad := range sample.NoTensors() {
		for _, good := range []api.Tensor{of(nil, 0), row(1, 2, 3), of([]int{4096, 1, 1, 1}, make([]int64, 4096)...)} { // behind it there is a division by 0, or what does not spread
			for _, op := range []int{api.OpDiv, api.OpAdd, api.OpMul, api.OpNone, api.OpNeg} {
				got, e := elem.Two(op, bad, good, 8)
				none(t, "Two of none, a tensor", got, e, api.ErrForm)
				got, e = elem.Two(op, good, bad, 8)
				none(t, "Two of a tensor, none", got, e, api.ErrForm)
			}
		}
		got, e := elem.Two(api.OpAdd, bad, bad, 0)
		none(t, "Two of nones", got, e, api.ErrForm)
		for _, op := range opsOfOne() {
			got, e := elem.One(op, bad, 0, 8)
			none(t, "One of none", got, e, api.ErrForm)
		}
	}
}

// P8.2

func twoOf(op int, a, b int64, f int) (int64, api.Errno) {
	switch op {
	case api.OpAdd:
		return fx.Add(a, b)
	case api.OpSub:
		return fx.Sub(a, b)
	case api.OpMul:
		return fx.Mul(a, b, f)
	default:
		return fx.Div(a, b, f)
	}
}

// under is the place in s of what stands under the n-th index of t: digit by digit from the last dimension on.
func under(s, t []int, n int) int {
	place, stride := 0, 1
	for k := 1; k <= len(s); k++ {
		here := t[len(t)-k]
		if d := s[len(s)-k]; d > 1 {
			place += n % here * stride
			stride *= d
		}
		n /= here
	}
	return place
}

// spreadOf tells two tensors by the chapter's words, once their common shape is known.
func spreadOf(op int, a, b api.Tensor, f int, both []int) (api.Tensor, api.Errno) {
	want := api.Tensor{Shape: both}
	for n := range sample.Count(both) {
		v, e := twoOf(op, a.Data[under(a.Shape, both, n)], b.Data[under(b.Shape, both, n)], f)
		if e != api.OK {
			return api.Tensor{}, e
		}
		want.Data = append(want.Data, v)
	}
	return want, api.OK
}

func TestEachOperationOfTwo(t *testing.T) {
	a, b := row(256, -384, 1, most, 0, 3), row(512, 768, 128, -1, -5, -7)
	twoIs(t, api.OpAdd, a, b, 8, row(768, 384, 129, most-1, -5, -4), api.OK)
	twoIs(t, api.OpMul, a, b, 8, row(512, -1152, 0, -1<<39, 0, 0), api.OK)
	twoIs(t, api.OpSub, a, b, 8, api.Tensor{}, api.ErrOver)
	twoIs(t, api.OpSub, row(256, -384, 1, most), row(512, 768, 128, 1), 8, row(-256, -1152, -127, most-1), api.OK)
	twoIs(t, api.OpDiv, row(256, 256, 1, -1, 3, 0), row(768, -768, 512, 512, 512, -9), 8, row(85, -85, 0, 0, 2, 0), api.OK)
	twoIs(t, api.OpDiv, row(1<<20), row(3<<20), 32, row(1431655765), api.OK)
	twoIs(t, api.OpMul, row(3<<31, -3<<31), row(3<<31, 3<<31), 32, row(9<<30, -9<<30), api.OK)
}

func TestTwoOfAllWords(t *testing.T) {
	for _, f := range counts() {
		for _, op := range opsOfTwo() {
			for _, x := range sample.Edges() {
				for _, y := range sample.Edges() {
					v, e := twoOf(op, x, y, f)
					if e != api.OK {
						twoIs(t, op, of(nil, x), of(nil, y), f, api.Tensor{}, e)
						twoIs(t, op, row(x), of([]int{1, 1}, y), f, api.Tensor{}, e)
						continue
					}
					twoIs(t, op, of(nil, x), of(nil, y), f, of(nil, v), api.OK)
					twoIs(t, op, row(x), of([]int{1, 1}, y), f, of([]int{1, 1}, v), api.OK)
				}
			}
		}
	}
}

func TestTwoOfTensorsThatSpread(t *testing.T) {
	m := mixer.Mixer(82)
	for _, c := range []struct{ a, b, both []int }{
		{nil, nil, nil}, {[]int{}, nil, nil}, {nil, []int{1}, []int{1}}, {nil, []int{1, 1, 1, 1}, []int{1, 1, 1, 1}}, {nil, []int{2, 3}, []int{2, 3}},
		{[]int{5}, []int{5}, []int{5}}, {[]int{1}, []int{5}, []int{5}}, {[]int{3}, []int{2, 3}, []int{2, 3}}, {[]int{2, 1}, []int{2, 3}, []int{2, 3}}, {[]int{1, 3}, []int{2, 3}, []int{2, 3}}, {[]int{1, 1}, []int{2, 3}, []int{2, 3}},
		{[]int{3, 1}, []int{4}, []int{3, 4}}, {[]int{3, 1}, []int{1, 4}, []int{3, 4}}, {[]int{1}, []int{1, 1}, []int{1, 1}}, {[]int{2, 1, 4}, []int{3, 1}, []int{2, 3, 4}}, {[]int{2, 1, 4}, []int{1, 3, 1}, []int{2, 3, 4}},
		{[]int{2, 3, 4}, []int{2, 3, 4}, []int{2, 3, 4}}, {[]int{2, 1, 3, 1}, []int{5, 1, 2}, []int{2, 5, 3, 2}}, {[]int{1, 2, 1, 3}, []int{4, 1, 5, 1}, []int{4, 2, 5, 3}}, {[]int{4}, []int{2, 3, 2, 4}, []int{2, 3, 2, 4}},
		{[]int{4096, 1}, []int{16}, []int{4096, 16}}, {[]int{256, 256}, []int{256}, []int{256, 256}}, {nil, []int{4096}, []int{4096}},
	} {
		for _, op := range opsOfTwo() {
			a, b := sample.Tensor(&m, c.a, 30), sample.Tensor(&m, c.b, 30)
			for _, list := range [][]int64{a.Data, b.Data} {
				for k := range list {
					list[k] += 1 << 31 // none is 0
				}
			}
			want, e := spreadOf(op, a, b, 24, c.both)
			twoIs(t, op, a, b, 24, want, e)
			want, e = spreadOf(op, b, a, 24, c.both)
			twoIs(t, op, b, a, 24, want, e)
			if e != api.OK {
				t.Errorf("%v and %v: %v", c.a, c.b, e)
			}
		}
	}
}

func TestSpreadsErrors(t *testing.T) {
	for _, c := range []struct {
		a, b []int
		want api.Errno
	}{
		{[]int{2}, []int{3}, api.ErrShape}, {[]int{2, 3}, []int{2}, api.ErrShape}, {[]int{2, 3}, []int{3, 2}, api.ErrShape}, {[]int{2, 3, 4}, []int{3, 3, 4}, api.ErrShape}, {[]int{6}, []int{2, 3}, api.ErrShape}, {[]int{4, 1}, []int{3, 1}, api.ErrShape}, {[]int{2, 1, 1, 1}, []int{3, 1, 1, 1}, api.ErrShape}, {[]int{4096, 1, 2}, []int{4096, 3}, api.ErrShape},
		{[]int{4096, 1}, []int{17}, api.ErrBudget}, {[]int{4096, 1}, []int{4096}, api.ErrBudget}, {[]int{257, 1}, []int{1, 256}, api.ErrBudget}, {[]int{4096, 16}, []int{2, 1, 1}, api.ErrBudget}, {[]int{16, 1, 16, 1}, []int{16, 1, 17}, api.ErrBudget},
	} {
		a, b := api.Tensor{Shape: c.a, Data: make([]int64, sample.Count(c.a))}, api.Tensor{Shape: c.b, Data: make([]int64, sample.Count(c.b))}
		for _, op := range opsOfTwo() { // OpDiv: by 0 alone
			got, e := elem.Two(op, a, b, 8)
			none(t, "Two", got, e, c.want)
			got, e = elem.Two(op, b, a, 8)
			none(t, "Two", got, e, c.want)
		}
		a.Data[0], b.Data[0] = most, most
		got, e := elem.Two(api.OpAdd, a, b, 8)
		none(t, "a sum that is no word", got, e, c.want)
		got, e = elem.Two(api.OpNeg, a, b, 8)
		none(t, "an operation of one", got, e, api.ErrForm)
		got, e = elem.Two(api.OpAdd, a, b, 7)
		none(t, "7 bits", got, e, api.ErrForm)
		a.Data[0] = 1 << 47
		got, e = elem.Two(api.OpAdd, a, b, 8)
		none(t, "a number that is no word", got, e, api.ErrForm)
	}
}

func TestTwoByNoOperation(t *testing.T) {
	for _, op := range allOps() {
		if slices.Contains(opsOfTwo(), op) {
			continue
		}
		for _, a := range []api.Tensor{of(nil, 256), row(256), row(1, 2, 3), row(1<<46, most, 0)} {
			twoIs(t, op, a, a, 8, api.Tensor{}, api.ErrForm)
			twoIs(t, op, a, of([]int{2, 2}, 0, 1, 2, 3), 8, api.Tensor{}, api.ErrForm) // which does not spread
		}
	}
}

func TestFThatIsNone(t *testing.T) {
	for _, f := range sample.NoCounts() {
		for _, op := range allOps() { // sums, too, though they ask for none
			twoIs(t, op, row(256, 1), row(256, 0), f, api.Tensor{}, api.ErrForm)
			twoIs(t, op, row(most), row(most), f, api.Tensor{}, api.ErrForm)
			twoIs(t, op, row(1, 2), row(1, 2, 3), f, api.Tensor{}, api.ErrForm)
			oneIs(t, op, row(256, 1), 0, f, api.Tensor{}, api.ErrForm)
			oneIs(t, op, row(0, 1<<46), 0, f, api.Tensor{}, api.ErrForm)
		}
	}
}

func TestEachFThatIsOne(t *testing.T) {
	for f := 8; f <= 32; f++ {
		one := int64(1) << f
		twoIs(t, api.OpMul, row(3*one, one/2), of(nil, 2*one), f, row(6*one, one), api.OK)
		twoIs(t, api.OpDiv, row(3*one, one), of(nil, 2*one), f, row(one+one/2, one/2), api.OK)
		oneIs(t, api.OpScale, row(3*one, one/2), 2*one, f, row(6*one, one), api.OK)
		oneIs(t, api.OpSigmoid, of(nil, 0), 0, f, of(nil, one/2), api.OK)
	}
}

func TestTheFirstErrorOfTwo(t *testing.T) {
	for _, c := range []struct {
		a, b api.Tensor
		want api.Errno
	}{
		{row(256, most, 1), row(256, 1, 0), api.ErrOver}, {row(256, 1, most), row(256, 0, 1), api.ErrZero}, {row(most, 1), row(1, 0), api.ErrOver}, {row(0, most), row(0, 1), api.ErrZero}, {row(0, 0), row(1, 0), api.ErrZero},
		{of([]int{2, 1}, 1, most), row(256, 1, 0), api.ErrZero}, {of([]int{2, 1}, most, 1), row(256, 1, 0), api.ErrOver}, {of([]int{2, 2}, 1, 2, most, 4), of([]int{2, 1}, 256, 1), api.ErrOver}, {of([]int{2, 2}, 1, 2, 3, most), of([]int{2, 2}, 256, 1, 0, 1), api.ErrZero},
		{of([]int{2, 1, 2}, 1, 1, most, 1), of([]int{2, 1}, 1, 0), api.ErrZero}, {of([]int{2, 1, 2}, 1, most, 1, 1), of([]int{2, 1}, 1, 0), api.ErrOver}, {of(nil, most), row(256, 0, 1), api.ErrZero}, {of(nil, most), row(256, 1, 0), api.ErrOver},
	} {
		twoIs(t, api.OpDiv, c.a, c.b, 8, api.Tensor{}, c.want)
	}
	long, over := make([]int64, 4096), make([]int64, 4096)
	for k := range long {
		long[k] = 256
	}
	long[4095], over[4094] = 0, most
	long[4094] = 1
	twoIs(t, api.OpDiv, row(over...), row(long...), 8, api.Tensor{}, api.ErrOver)
	over[4094] = 0
	twoIs(t, api.OpDiv, row(over...), row(long...), 8, api.Tensor{}, api.ErrZero)
}

func TestSumsAndProductsThatAreNoWords(t *testing.T) {
	for _, c := range []struct {
		op   int
		x, y int64
		want api.Errno
	}{
		{api.OpAdd, most, 1, api.ErrOver}, {api.OpAdd, -most, -1, api.ErrOver}, {api.OpAdd, 1 << 46, 1 << 46, api.ErrOver}, {api.OpAdd, 1 << 46, 1<<46 - 1, api.OK}, {api.OpAdd, most, -most, api.OK}, {api.OpAdd, most, 0, api.OK},
		{api.OpSub, most, -1, api.ErrOver}, {api.OpSub, -most, 1, api.ErrOver}, {api.OpSub, -most, most, api.ErrOver}, {api.OpSub, most, most, api.OK}, {api.OpSub, 0, most, api.OK},
		{api.OpMul, most, 257, api.ErrOver}, {api.OpMul, most, most, api.ErrOver}, {api.OpMul, -most, 512, api.ErrOver}, {api.OpMul, most, 256, api.OK}, {api.OpMul, 1 << 27, 1 << 28, api.ErrOver}, {api.OpMul, 1<<28 - 1, 1 << 27, api.OK},
		{api.OpDiv, most, 255, api.ErrOver}, {api.OpDiv, most, -1, api.ErrOver}, {api.OpDiv, most, 256, api.OK}, {api.OpDiv, -most, -256, api.OK}, {api.OpDiv, 0, 0, api.ErrZero}, {api.OpDiv, most, 0, api.ErrZero},
	} {
		for _, s := range [][]int{nil, {1}, {4}, {2, 3}} { // the last word of all
			a, b := api.Tensor{Shape: s}, api.Tensor{Shape: s}
			for range sample.Count(s) {
				a.Data, b.Data = append(a.Data, 1), append(b.Data, 256)
			}
			a.Data[len(a.Data)-1], b.Data[len(b.Data)-1] = c.x, c.y
			if _, e := elem.Two(c.op, a, b, 8); e != c.want {
				t.Errorf("%d of %d, %d, shape %v: %v; want %v", c.op, c.x, c.y, s, e, c.want)
			}
		}
	}
}

// P8.3

func oneOf(op int, a, w int64, f int) (int64, api.Errno) {
	switch op {
	case api.OpNeg:
		return fx.Neg(a)
	case api.OpScale:
		return fx.Mul(a, w, f)
	case api.OpRelu:
		return curve.Relu(a)
	case api.OpLeaky:
		return curve.Leaky(a, w, f)
	case api.OpSigmoid:
		return curve.Sigmoid(a, f)
	case api.OpTanh:
		return curve.Tanh(a, f)
	case api.OpSoftplus:
		return curve.Softplus(a, f)
	case api.OpExp:
		return expo.Exp(a, f)
	default:
		return expo.Ln(a, f)
	}
}

func TestEachOperationOfOne(t *testing.T) {
	for _, c := range []struct {
		op   int
		w    int64
		a    api.Tensor
		want api.Tensor
	}{
		{api.OpNeg, 0, row(0, 1, -1, most, -most), row(0, -1, 1, -most, most)},
		{api.OpScale, 384, row(256, -256, 1, 3, 0), row(384, -384, 2, 4, 0)},
		{api.OpRelu, 0, row(5, 0, -5, most, -most), row(5, 0, 0, most, 0)},
		{api.OpLeaky, 26, row(-300, 300, 0, -1, most), row(-30, 300, 0, 0, most)},
		{api.OpSigmoid, 0, row(0, 256, -256, most, -most), row(128, 187, 69, 256, 0)},
		{api.OpTanh, 0, row(0, 256, -256, most, -most), row(0, 195, -195, 256, -256)},
		{api.OpSoftplus, 0, row(0, 256, -256, most, -most), row(177, 336, 80, most, 0)},
		{api.OpExp, 0, row(0, 256, -256, -2000, -most), row(256, 696, 94, 0, 0)},
		{api.OpLn, 0, row(256, 512, 696, 1, most), row(0, 177, 256, -1420, 6920)},
	} {
		oneIs(t, c.op, c.a, c.w, 8, c.want, api.OK)
		for n, v := range c.a.Data {
			oneIs(t, c.op, of(nil, v), c.w, 8, of(nil, c.want.Data[n]), api.OK)
		}
	}
}

// wordsBeside are those that op is asked with.
func wordsBeside(op int) []int64 {
	if takesWord(op) {
		return append(sample.Edges(), 26, -26)
	}
	return []int64{0}
}

func TestOneOfAllWords(t *testing.T) {
	for _, f := range counts() {
		for _, op := range opsOfOne() {
			for _, w := range wordsBeside(op) {
				for _, x := range sample.Edges() {
					v, e := oneOf(op, x, w, f)
					if e != api.OK {
						oneIs(t, op, of(nil, x), w, f, api.Tensor{}, e)
						continue
					}
					oneIs(t, op, of(nil, x), w, f, of(nil, v), api.OK)
					oneIs(t, op, of([]int{1, 1, 1}, x), w, f, of([]int{1, 1, 1}, v), api.OK)
				}
			}
		}
	}
}

func TestOneOfAllShapes(t *testing.T) {
	m := mixer.Mixer(83)
	for _, s := range sample.Shapes() {
		for _, op := range opsOfOne() {
			a := sample.Tensor(&m, s, 18)
			if op == api.OpLn {
				for k := range a.Data {
					a.Data[k] = max(a.Data[k], -a.Data[k], 1)
				}
			}
			w := int64(0)
			if takesWord(op) {
				w = sample.Words(&m, 1, 20)[0]
			}
			want := api.Tensor{Shape: s}
			for _, x := range a.Data {
				v, e := oneOf(op, x, w, 16)
				if e != api.OK {
					t.Fatalf("%d of %d: %v", op, x, e)
				}
				want.Data = append(want.Data, v)
			}
			oneIs(t, op, a, w, 16, want, api.OK)
		}
	}
}

func TestScaleAndLeakyByAnyWord(t *testing.T) {
	a := row(256, 1, 0, -1, -256, 512)
	for _, c := range []struct {
		w             int64
		scaled, leaky []int64
	}{
		{0, []int64{0, 0, 0, 0, 0, 0}, []int64{256, 1, 0, 0, 0, 512}},
		{256, a.Data, a.Data},
		{-256, []int64{-256, -1, 0, 1, 256, -512}, []int64{256, 1, 0, 1, 256, 512}},
		{1, []int64{1, 0, 0, 0, -1, 2}, []int64{256, 1, 0, 0, -1, 512}},
		{-1, []int64{-1, 0, 0, 0, 1, -2}, []int64{256, 1, 0, 0, 1, 512}},
		{-128, []int64{-128, 0, 0, 0, 128, -256}, []int64{256, 1, 0, 0, 128, 512}},
		{768, []int64{768, 3, 0, -3, -768, 1536}, []int64{256, 1, 0, -3, -768, 512}},
		{1 << 38, []int64{1 << 38, 1 << 30, 0, -1 << 30, -1 << 38, 1 << 39}, []int64{256, 1, 0, -1 << 30, -1 << 38, 512}},
	} {
		oneIs(t, api.OpScale, a, c.w, 8, row(c.scaled...), api.OK)
		oneIs(t, api.OpLeaky, a, c.w, 8, row(c.leaky...), api.OK)
	}
	for _, w := range []int64{most, -most} {
		oneIs(t, api.OpScale, row(256, 257), w, 8, api.Tensor{}, api.ErrOver)
		oneIs(t, api.OpLeaky, row(most, -257), w, 8, api.Tensor{}, api.ErrOver)
		oneIs(t, api.OpScale, row(-256, 256), w, 8, row(-w, w), api.OK)
		oneIs(t, api.OpLeaky, row(-256, most), w, 8, row(-w, most), api.OK)
	}
}

func TestOneByNoOperation(t *testing.T) {
	for _, op := range allOps() {
		if slices.Contains(opsOfOne(), op) {
			continue
		}
		for _, w := range []int64{0, 1, 256, -256, most, 1 << 47} {
			oneIs(t, op, row(256, 512), w, 8, api.Tensor{}, api.ErrForm)
			oneIs(t, op, of(nil, 0), w, 8, api.Tensor{}, api.ErrForm)
		}
	}
}

func TestWordsBesideThatAreNone(t *testing.T) {
	for _, op := range opsOfOne() {
		for _, w := range sample.NoWords() {
			oneIs(t, op, row(1, 256), w, 8, api.Tensor{}, api.ErrForm)
			oneIs(t, op, row(0), w, 8, api.Tensor{}, api.ErrForm) // ErrZero of Ln comes behind
		}
		for _, w := range sample.Edges() {
			if takesWord(op) || w == 0 {
				continue
			}
			oneIs(t, op, row(1, 256), w, 8, api.Tensor{}, api.ErrForm)
			oneIs(t, op, row(0), w, 8, api.Tensor{}, api.ErrForm)
			oneIs(t, op, row(1<<46), w, 8, api.Tensor{}, api.ErrForm) // ErrOver of Exp, too
		}
	}
}

func TestTheFirstErrorOfOne(t *testing.T) {
	for _, c := range []struct {
		op   int
		a    api.Tensor
		w    int64
		want api.Errno
	}{
		{api.OpLn, row(-1, 0), 0, api.ErrForm}, {api.OpLn, row(0, -1), 0, api.ErrZero}, {api.OpLn, row(1, 2, 0, -1), 0, api.ErrZero}, {api.OpLn, row(1, 2, -1, 0), 0, api.ErrForm}, {api.OpLn, of([]int{2, 2}, 1, 0, -1, 1), 0, api.ErrZero}, {api.OpLn, of([]int{2, 2}, 1, 2, -1, 0), 0, api.ErrForm}, {api.OpLn, of(nil, 0), 0, api.ErrZero}, {api.OpLn, of(nil, -1), 0, api.ErrForm}, {api.OpLn, row(256, -most), 0, api.ErrForm},
		{api.OpExp, row(0, 7000), 0, api.ErrOver}, {api.OpExp, of(nil, most), 0, api.ErrOver}, {api.OpScale, row(1, most), 257, api.ErrOver}, {api.OpLeaky, row(1, most, -most), 257, api.ErrOver},
	} {
		oneIs(t, c.op, c.a, c.w, 8, api.Tensor{}, c.want)
	}
	oneIs(t, api.OpLn, row(-1, 1<<47), 0, 8, api.Tensor{}, api.ErrForm)
	oneIs(t, api.OpLn, row(0, 1<<47), 0, 8, api.Tensor{}, api.ErrForm) // no tensor, ahead of the division by 0
}

func TestExample(t *testing.T) {
	twoIs(t, api.OpMul, row(256, 512), row(128), 8, row(128, 256), api.OK)
	oneIs(t, api.OpLn, row(-1, 0), 0, 8, api.Tensor{}, api.ErrForm)
}

// R2: what was handed in stays, what was told may be written to.

func TestArgumentsStayAndAnswersAreNew(t *testing.T) {
	s, data, other := []int{2, 3}, []int64{256, 512, 1, 700, 3, 2}, []int64{3, 1, 256}
	a, b, scaled := sample.Roomy([]int{2, 3}, data), sample.Roomy([]int{3}, other), sample.Roomy(nil, []int64{256})
	calls := []func() (api.Tensor, api.Errno){
		func() (api.Tensor, api.Errno) { return elem.Two(api.OpMul, a, scaled, 8) }, // by 1
		func() (api.Tensor, api.Errno) { return elem.Two(api.OpMul, scaled, a, 8) },
		func() (api.Tensor, api.Errno) { return elem.Two(api.OpDiv, a, a, 8) },
	}
	for _, op := range opsOfTwo() {
		calls = append(calls, func() (api.Tensor, api.Errno) { return elem.Two(op, a, b, 8) })
	}
	for _, op := range opsOfOne() {
		w := int64(0)
		if takesWord(op) {
			w = 256
		}
		calls = append(calls, func() (api.Tensor, api.Errno) { return elem.One(op, a, w, 8) })
	}
	for k, call := range calls {
		first, e := call()
		second, _ := call()
		if e != api.OK || !sample.Same(first, second) || !slices.Equal(first.Shape, s) {
			t.Errorf("call %d: %v, %v, %v", k, first, second, e)
		}
		before := api.Tensor{Shape: slices.Clone(second.Shape), Data: slices.Clone(second.Data)}
		sample.Spoil(first)
		third, _ := call()
		if !sample.Same(second, before) || !sample.Same(third, before) {
			t.Errorf("call %d shares: %v, %v; want %v", k, second, third, before)
		}
		if !sample.AsHandedIn(a, s, data) || !sample.AsHandedIn(b, []int{3}, other) || !sample.AsHandedIn(scaled, nil, []int64{256}) {
			t.Errorf("call %d changed: %v, %v, %v", k, a, b, scaled)
		}
	}
}

func TestArgumentsStayBesideErrors(t *testing.T) {
	data := []int64{256, 0, most}
	a := sample.Roomy([]int{3}, data)
	for _, op := range allOps() {
		elem.Two(op, a, a, 8)
		elem.Two(op, a, row(1, 2), 8)
		elem.One(op, a, 0, 8)
		elem.One(op, a, most, 8)
		if !sample.AsHandedIn(a, []int{3}, data) {
			t.Fatalf("%d changed: %v", op, a)
		}
	}
}

func TestNilAndEmptyListsAreOne(t *testing.T) {
	full := api.Tensor{Shape: []int{}, Data: []int64{384}}
	twoIs(t, api.OpAdd, full, of(nil, 1), 8, of(nil, 385), api.OK)
	twoIs(t, api.OpAdd, of(nil, 1), full, 8, of(nil, 385), api.OK)
	oneIs(t, api.OpNeg, full, 0, 8, of(nil, -384), api.OK)
	twoIs(t, api.OpAdd, api.Tensor{Shape: []int{}, Data: []int64{}}, full, 8, api.Tensor{}, api.ErrForm)
	oneIs(t, api.OpNeg, api.Tensor{Shape: []int{}, Data: []int64{}}, 0, 8, api.Tensor{}, api.ErrForm)
}

// P8.4

// widened is a laid out by hand as s.
func widened(t *testing.T, a api.Tensor, s []int) api.Tensor {
	t.Helper()
	v, e := view.Of(a.Shape)
	if e != api.OK {
		t.Fatal(e)
	}
	v, e = view.Widen(v, s)
	if e != api.OK {
		t.Fatal(e)
	}
	wide, e := view.Copy(v, a.Data)
	if e != api.OK {
		t.Fatal(e)
	}
	return wide
}

func TestSpreadByHandIsTheSame(t *testing.T) {
	m := mixer.Mixer(84)
	list := slices.DeleteFunc(sample.Shapes(), func(s []int) bool { return sample.Count(s) > 1000 })
	for _, s := range list {
		for _, u := range list {
			both, e := shape.Spread(s, u)
			if e != api.OK {
				continue
			}
			for _, op := range opsOfTwo() {
				for _, bits := range []int{20, 40, 47} { // some have errors
					a, b := sample.Tensor(&m, s, bits), sample.Tensor(&m, u, bits)
					want, wantE := elem.Two(op, a, b, 16)
					if wantE == api.OK && !slices.Equal(want.Shape, both) {
						t.Errorf("%v and %v: %v", s, u, want.Shape)
					}
					twoIs(t, op, widened(t, a, both), widened(t, b, both), 16, want, wantE)
					twoIs(t, op, widened(t, a, both), b, 16, want, wantE)
					twoIs(t, op, a, widened(t, b, both), 16, want, wantE)
				}
			}
		}
	}
}

func TestSumsAndProductsGoBothWays(t *testing.T) {
	m := mixer.Mixer(85)
	list := sample.Shapes()
	for range 4000 {
		s, u := list[m.Below(len(list))], list[m.Below(len(list))]
		if sample.Count(s)*sample.Count(u) > 5000 {
			continue
		}
		bits := 20 + m.Below(28)
		a, b := sample.Tensor(&m, s, bits), sample.Tensor(&m, u, bits)
		for _, op := range []int{api.OpAdd, api.OpMul} {
			there, thereE := elem.Two(op, a, b, 20)
			twoIs(t, op, b, a, 20, there, thereE)
		}
	}
}

func TestScaleIsTheProductWithOneWord(t *testing.T) {
	m := mixer.Mixer(86)
	for _, s := range sample.Shapes() {
		for _, bits := range []int{10, 30, 47} {
			a, w := sample.Tensor(&m, s, bits), sample.Words(&m, 1, bits)[0]
			want, wantE := elem.Two(api.OpMul, a, of(nil, w), 12)
			oneIs(t, api.OpScale, a, w, 12, want, wantE)
		}
	}
}
