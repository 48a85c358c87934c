// Package sign checks and extends signatures: lists of symbols, whose codes are their indexes. See DOC.md, chapter 1.
package sign

import (
	"quaere/api"
)

// May reports whether sig is a valid signature.
func May(sig []api.Sym) bool {
	// The length comes first: it bounds the work for every argument.
	if len(sig) < 1 || len(sig) > api.MaxSyms || !isEquality(sig[0]) {
		return false
	}
	for i := 1; i < len(sig); i++ {
		if !validSym(sig[i]) || codeOf(sig[:i], sig[i].Name) >= 0 {
			return false
		}
	}
	return true
}

// Find returns the code of the symbol with this name, or -1 if sig has none.
func Find(sig []api.Sym, name string) (int, api.Errno) {
	if !May(sig) {
		return 0, api.ErrSignForm
	}
	return codeOf(sig, name), api.OK
}

// Add returns a new signature: sig with s appended.
func Add(sig []api.Sym, s api.Sym) ([]api.Sym, api.Errno) {
	if !May(sig) || !validSym(s) {
		return nil, api.ErrSignForm
	}
	if codeOf(sig, s.Name) >= 0 {
		return nil, api.ErrSignTwice
	}
	if len(sig) >= api.MaxSyms {
		return nil, api.ErrSignFull
	}
	// Appending to sig itself could write into its spare capacity.
	out := make([]api.Sym, 0, len(sig)+1)
	out = append(out, sig...)
	return append(out, s), api.OK
}

// isEquality tells whether s is the symbol that opens every signature.
func isEquality(s api.Sym) bool {
	return s == api.Sym{Name: "=", Kind: api.KindPred, Arity: 2, Weight: 1}
}

// validSym tells whether s may stand behind the first place of a signature.
func validSym(s api.Sym) bool {
	return validName(s.Name) && validKind(s.Kind) &&
		within(s.Arity, 0, api.MaxArity) && within(s.Weight, 1, api.MaxWeight)
}

// validName looks at bytes, not at runes: a name may hold any bytes, and those of a longer rune are none of the allowed ones.
func validName(name string) bool {
	if !within(len(name), 1, api.MaxName) || !isLetter(name[0]) {
		return false
	}
	for i := 1; i < len(name); i++ {
		if !isLetter(name[i]) && !isDigit(name[i]) {
			return false
		}
	}
	return true
}

func validKind(kind int) bool {
	switch kind {
	case api.KindPred, api.KindFun, api.KindSkolem:
		return true
	}
	return false
}

func isLetter(b byte) bool {
	return 'a' <= b && b <= 'z'
}

func isDigit(b byte) bool {
	return '0' <= b && b <= '9'
}

func within(n, least, most int) bool {
	return least <= n && n <= most
}

// codeOf returns the index of the first symbol with this name, or -1.
func codeOf(sig []api.Sym, name string) int {
	for i := range sig {
		if sig[i].Name == name {
			return i
		}
	}
	return -1
}
