package lang

import "facsimile/api"

// forms has the text of a line by its Op. A capital letter stands for a field:
// A, B and C for themselves, N for Name, L for the literal of Const, I for that
// of an Int, and X for Args, each with a blank before it. All other bytes stand
// for themselves; no word has a capital letter, so that the two cannot be mixed up.
var forms = [...]string{
	api.OpConst:   "A = L",
	api.OpMove:    "A = B",
	api.OpNot:     "A = not B",
	api.OpNeg:     "A = neg B",
	api.OpAdd:     "A = B + C",
	api.OpSub:     "A = B - C",
	api.OpMul:     "A = B * C",
	api.OpDiv:     "A = B / C",
	api.OpMod:     "A = B % C",
	api.OpLess:    "A = B < C",
	api.OpEqual:   "A = B == C",
	api.OpAnd:     "A = B and C",
	api.OpOr:      "A = B or C",
	api.OpCat:     "A = B . C",
	api.OpNew:     "A = new N",
	api.OpGet:     "A = B.N",
	api.OpSet:     "A.N = B",
	api.OpArray:   "A = array B",
	api.OpAt:      "A = B[C]",
	api.OpPut:     "A[B] = C",
	api.OpLen:     "A = len B",
	api.OpCall:    "A = call NX",
	api.OpBind:    "A = bind NX",
	api.OpApply:   "A = apply BX",
	api.OpSend:    "A = send B NX",
	api.OpWeak:    "A = weak B",
	api.OpDeref:   "A = deref B",
	api.OpFinal:   "final A N",
	api.OpPrint:   "print A",
	api.OpInput:   "A = input",
	api.OpClock:   "A = clock",
	api.OpSpawn:   "spawn I NX",
	api.OpYield:   "yield",
	api.OpThrow:   "throw A",
	api.OpReturn:  "return A",
	api.OpIf:      "if A",
	api.OpElse:    "else",
	api.OpWhile:   "while A",
	api.OpTry:     "try",
	api.OpCatch:   "catch A",
	api.OpFinally: "finally",
	api.OpEnd:     "end",
}
