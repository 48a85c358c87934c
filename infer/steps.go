package infer

import (
	"quaere/api"
	"quaere/clause"
)

// Steps has the steps that were made so far, and counts the results that were refused.
type Steps struct {
	Made []api.Step
	Left int
}

// Take looks at one result of a layer's One: it keeps the step s with c as its clause where ok says that there is one, unless c is trivial, and counts where e says that it was refused.
func (k *Steps) Take(sig []api.Sym, s api.Step, c api.Clause, ok bool, e api.Errno) {
	if e != api.OK {
		k.Left++
	}
	if !ok {
		return
	}
	trivial, _ := clause.Trivial(sig, c)
	if trivial {
		return
	}
	s.Clause = c
	k.Made = append(k.Made, s)
}
