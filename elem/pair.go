package elem

import (
	"ratchet/api"
	"ratchet/curve"
	"ratchet/expo"
	"ratchet/fx"
)

// A pair is what an operation is asked of: a word, the one that stands with it, and how many fraction bits both have.
type pair struct {
	a, b int64
	f    int
}

type operation func(pair) (int64, api.Errno)

func ofTwo() map[int]operation {
	return map[int]operation{
		api.OpAdd: pair.sum,
		api.OpSub: pair.difference,
		api.OpMul: pair.product,
		api.OpDiv: pair.quotient,
	}
}

func ofOne() map[int]operation {
	return map[int]operation{
		api.OpNeg:      pair.negative,
		api.OpScale:    pair.product,
		api.OpRelu:     pair.relu,
		api.OpLeaky:    pair.leaky,
		api.OpSigmoid:  pair.sigmoid,
		api.OpTanh:     pair.tanh,
		api.OpSoftplus: pair.softplus,
		api.OpExp:      pair.exp,
		api.OpLn:       pair.ln,
	}
}

func (p pair) sum() (int64, api.Errno) { return fx.Add(p.a, p.b) }

func (p pair) difference() (int64, api.Errno) { return fx.Sub(p.a, p.b) }

func (p pair) product() (int64, api.Errno) { return fx.Mul(p.a, p.b, p.f) }

func (p pair) quotient() (int64, api.Errno) { return fx.Div(p.a, p.b, p.f) }

func (p pair) negative() (int64, api.Errno) { return fx.Neg(p.a) }

func (p pair) relu() (int64, api.Errno) { return curve.Relu(p.a) }

func (p pair) leaky() (int64, api.Errno) { return curve.Leaky(p.a, p.b, p.f) }

func (p pair) sigmoid() (int64, api.Errno) { return curve.Sigmoid(p.a, p.f) }

func (p pair) tanh() (int64, api.Errno) { return curve.Tanh(p.a, p.f) }

func (p pair) softplus() (int64, api.Errno) { return curve.Softplus(p.a, p.f) }

func (p pair) exp() (int64, api.Errno) { return expo.Exp(p.a, p.f) }

func (p pair) ln() (int64, api.Errno) { return expo.Ln(p.a, p.f) }
