package settle

import "blockworks/api"

// end is a truth in which a block is coldest in each minute, or warmest, of those in which it is so slow.
type end interface {
	start() excess
	heat(of api.SettleTouch) excess
	next(now excess) excess
}

// coldest is the truth in which all is least. As an excess that is not above another one stays so, there is no colder one.
type coldest struct {
	block api.SettleBlock
	slow  int
}

func (c coldest) start() excess { return excess(c.block.Excess.Lo) }

func (coldest) heat(of api.SettleTouch) excess { return excess(of.Heat.Lo) }

func (c coldest) next(now excess) excess { return now.fallen(c.slow) }

// warmest is the truth in which all is greatest. It is as slow as the other one.
type warmest struct{ coldest }

func (w warmest) start() excess { return excess(w.block.Excess.Hi) }

func (warmest) heat(of api.SettleTouch) excess { return excess(of.Heat.Hi) }

// endsOf returns both ends of a block that is so slow, the coldest first.
func endsOf(block api.SettleBlock, slow int) (low, high end) {
	c := coldest{block, slow}
	return c, warmest{c}
}
