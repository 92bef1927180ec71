package step

import "proviso/api"

// rule is what an instruction takes and gives, at a spot whose operands name something.
type rule struct {
	takes func(s spot) []api.Type                   // of which types the entries must be, the last one the top's
	gives func(s spot, taken []api.Type) []api.Type // what it puts there, the last one on top
	also  func(s spot, taken []api.Type) bool       // what is wanted beside; nil of most
}

// rules are by instruction.
func rules() [api.NumOps]rule {
	return [api.NumOps]rule{
		api.OpNop:    {takes: nothing, gives: givesNothing},
		api.OpInt:    {takes: nothing, gives: givesInt},
		api.OpBool:   {takes: nothing, gives: givesBool},
		api.OpNull:   {takes: nothing, gives: givesNull},
		api.OpLoad:   {takes: nothing, gives: givesLocal, also: localIsKnown},
		api.OpStore:  {takes: anything, gives: givesNothing, also: takenIsKnown},
		api.OpPop:    {takes: anything, gives: givesNothing},
		api.OpDup:    {takes: anything, gives: givesTwice},
		api.OpSwap:   {takes: anyTwo, gives: givesTurned},
		api.OpAdd:    {takes: twoInts, gives: givesInt},
		api.OpSub:    {takes: twoInts, gives: givesInt},
		api.OpMul:    {takes: twoInts, gives: givesInt},
		api.OpDiv:    {takes: twoInts, gives: givesInt},
		api.OpRem:    {takes: twoInts, gives: givesInt},
		api.OpNeg:    {takes: oneInt, gives: givesInt},
		api.OpLess:   {takes: twoInts, gives: givesBool},
		api.OpSame:   {takes: anyTwo, gives: givesBool, also: bothIntsOrBools},
		api.OpNot:    {takes: oneBool, gives: givesBool},
		api.OpIs:     {takes: twoRefs, gives: givesBool},
		api.OpJump:   {takes: nothing, gives: givesNothing},
		api.OpUnless: {takes: oneBool, gives: givesNothing},
		api.OpCall:   {takes: itsParams, gives: givesItsResult},
		api.OpReturn: {takes: ownResult, gives: givesNothing},
		api.OpNew:    {takes: nothing, gives: givesClass},
		api.OpGet:    {takes: oneClass, gives: givesField},
		api.OpPut:    {takes: classAndField, gives: givesNothing},
		api.OpMake:   {takes: oneInt, gives: givesRow},
		api.OpLen:    {takes: oneRow, gives: givesInt},
		api.OpAt:     {takes: rowAndInt, gives: givesInt},
		api.OpSet:    {takes: rowAndTwoInts, gives: givesNothing},
		api.OpCast:   {takes: oneRef, gives: givesClass},
		api.OpTest:   {takes: oneRef, gives: givesBool},
		api.OpTrap:   {takes: nothing, gives: givesNothing},
		api.OpTell:   {takes: oneInt, gives: givesNothing},
	}
}

// What is taken. Of TTop every entry is, of TAny every reference.

func nothing(spot) []api.Type       { return nil }
func anything(spot) []api.Type      { return []api.Type{api.TTop} }
func anyTwo(spot) []api.Type        { return []api.Type{api.TTop, api.TTop} }
func oneInt(spot) []api.Type        { return []api.Type{api.TInt} }
func twoInts(spot) []api.Type       { return []api.Type{api.TInt, api.TInt} }
func oneBool(spot) []api.Type       { return []api.Type{api.TBool} }
func oneRef(spot) []api.Type        { return []api.Type{api.TAny} }
func twoRefs(spot) []api.Type       { return []api.Type{api.TAny, api.TAny} }
func oneRow(spot) []api.Type        { return []api.Type{api.TInts} }
func rowAndInt(spot) []api.Type     { return []api.Type{api.TInts, api.TInt} }
func rowAndTwoInts(spot) []api.Type { return []api.Type{api.TInts, api.TInt, api.TInt} }
func oneClass(s spot) []api.Type    { return []api.Type{s.class()} }
func itsParams(s spot) []api.Type   { return s.called().Params }
func ownResult(s spot) []api.Type   { return resultOf(s.e.Sigs[s.e.Fn]) }

func classAndField(s spot) []api.Type { return []api.Type{s.class(), s.field()} }

// What is given.

func givesNothing(spot, []api.Type) []api.Type       { return nil }
func givesInt(spot, []api.Type) []api.Type           { return []api.Type{api.TInt} }
func givesBool(spot, []api.Type) []api.Type          { return []api.Type{api.TBool} }
func givesNull(spot, []api.Type) []api.Type          { return []api.Type{api.TNull} }
func givesRow(spot, []api.Type) []api.Type           { return []api.Type{api.TInts} }
func givesLocal(s spot, _ []api.Type) []api.Type     { return []api.Type{s.local()} }
func givesClass(s spot, _ []api.Type) []api.Type     { return []api.Type{s.class()} }
func givesField(s spot, _ []api.Type) []api.Type     { return []api.Type{s.field()} }
func givesItsResult(s spot, _ []api.Type) []api.Type { return resultOf(s.called()) }
func givesTwice(_ spot, taken []api.Type) []api.Type { return []api.Type{taken[0], taken[0]} }

func givesTurned(_ spot, taken []api.Type) []api.Type { return []api.Type{taken[1], taken[0]} }

// resultOf is none of a function that gives nothing.
func resultOf(s api.Sig) []api.Type {
	if s.Result == api.TTop {
		return nil
	}
	return []api.Type{s.Result}
}

// What is wanted beside.

func localIsKnown(s spot, _ []api.Type) bool     { return s.local() != api.TTop }
func takenIsKnown(_ spot, taken []api.Type) bool { return taken[0] != api.TTop }

func bothIntsOrBools(_ spot, taken []api.Type) bool {
	return taken[0] == taken[1] && (taken[0] == api.TInt || taken[0] == api.TBool)
}
