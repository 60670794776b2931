package show

import "delver/api"

// args is what stands behind an instruction's word: perhaps a number from least to most, and so many names.
type args struct {
	number      bool
	least, most int
	names       int
}

// argsOf answers what stands behind the word of an instruction; nothing, if there is no such instruction.
func argsOf(op int) args {
	switch op {
	case api.OpConst:
		return args{number: true, least: api.Least, most: api.Most}
	case api.OpLoad, api.OpStore:
		return args{number: true, most: api.MaxLocals - 1}
	case api.OpGoto, api.OpEq, api.OpNe, api.OpLt, api.OpGe, api.OpCmpEq, api.OpCmpNe, api.OpCmpLt,
		api.OpCmpGe, api.OpIfNull, api.OpIfRef, api.OpSame, api.OpOther:
		return args{number: true, most: api.MaxCode - 1}
	case api.OpNew, api.OpRefs, api.OpIs, api.OpCast:
		return args{names: 1}
	case api.OpGet, api.OpPut, api.OpGets, api.OpPuts, api.OpCall, api.OpFunc:
		return args{names: 2}
	}
	return args{}
}
