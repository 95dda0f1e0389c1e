package sample

import (
	"math"

	"parallax/api"
)

// CopyCodes are codes that share no memory with others. Their lists without elements are nil.
func CopyCodes(l []api.Code) []api.Code {
	var all []api.Code
	for _, c := range l {
		c.Ins = append([]api.Ins(nil), c.Ins...)
		all = append(all, c)
	}
	return all
}

// BentCodes are a copy of codes with one thing changed, so that, as a rule, they are not sound.
func BentCodes(pick Pick, l []api.Code) []api.Code {
	all := CopyCodes(l)
	if len(all) == 0 {
		return all
	}
	b := codeBender{pick, &all[pick(len(all))]}
	if pick(8) == 0 {
		b.head()
	} else {
		b.body()
	}
	return all
}

// codeBender changes a code.
type codeBender struct {
	pick Pick
	*api.Code
}

func (b codeBender) head() {
	switch b.pick(3) {
	case 0:
		b.Cells = of(b.pick, -1, 0, b.Params, b.Params-1, b.Cells+1, b.Cells-1, api.MaxCells, api.MaxCells+1, math.MaxInt, math.MinInt)
	case 1:
		b.Params = of(b.pick, -1, 0, b.Params+1, b.Params-1, api.MaxParams, api.MaxParams+1, math.MaxInt, math.MinInt)
	case 2:
		b.Answers = !b.Answers
	}
}

func (b codeBender) number() int64 {
	return of(b.pick, -1, 0, 1, 2, 3, 4, int64(b.pick(len(b.Ins)+2)), int64(len(b.Ins)), int64(b.Cells), int64(b.Cells)-1, api.MaxSize, api.MaxSize+1, math.MaxInt64, math.MinInt64)
}

func (b codeBender) body() {
	if len(b.Ins) == 0 {
		b.Ins = append(b.Ins, api.Ins{Op: api.OpLeave})
		return
	}
	place := b.pick(len(b.Ins))
	i := &b.Ins[place]
	switch b.pick(8) {
	case 0:
		i.Op = b.pick(api.MaxOp+3) - 1
	case 1, 2:
		i.N = b.number()
	case 3:
		i.M = b.number()
	case 4:
		*i = of(b.pick, b.Ins...)
	case 5:
		other := &b.Ins[b.pick(len(b.Ins))]
		*i, *other = *other, *i
	case 6:
		b.Ins = b.Ins[:place]
	case 7:
		*i = api.Ins{Op: of(b.pick, api.OpJump, api.OpZero), N: int64(b.pick(len(b.Ins)))}
	}
}
