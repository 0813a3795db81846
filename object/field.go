package object

import (
	"strconv"

	"bedside/api"
	"bedside/fixed"
)

// set is a set of fields, a bit for each.
type set uint16

const (
	hasParent set = 1 << iota
	hasType
	hasRef
	hasLo
	hasHi
	hasDigits
	hasOn
	hasHas
	hasValue
	hasLow
	hasHigh
	hasAssoc
)

// kinds holds which fields each kind has, beside Handle and Kind, which all have.
var kinds = [...]set{
	api.KdMds:         0,
	api.KdVmd:         hasParent,
	api.KdChannel:     hasParent,
	api.KdMetric:      hasParent | hasLo | hasHi | hasDigits | hasHas | hasValue,
	api.KdAlertSystem: hasParent | hasOn,
	api.KdCondition:   hasParent | hasType | hasRef | hasOn,
	api.KdSignal:      hasParent | hasRef | hasOn,
	api.KdLimit:       hasParent | hasType | hasRef | hasOn | hasLow | hasHigh,
	api.KdContext:     hasParent | hasType | hasAssoc,
}

// field is one of an object's. Of the functions that give where it stands, it has the one of its type.
type field struct {
	bit    set
	name   string
	word   func(o *api.Object) *string
	number func(o *api.Object) *int64
	small  func(o *api.Object) *uint8
	flag   func(o *api.Object) *bool
}

// fields gives all fields but Handle and Kind, in the order of api.Object.
func fields() [12]field {
	return [...]field{
		{bit: hasParent, name: "parent", word: func(o *api.Object) *string { return &o.Parent }},
		{bit: hasType, name: "type", small: func(o *api.Object) *uint8 { return &o.Type }},
		{bit: hasRef, name: "ref", word: func(o *api.Object) *string { return &o.Ref }},
		{bit: hasLo, name: "lo", number: func(o *api.Object) *int64 { return &o.Lo }},
		{bit: hasHi, name: "hi", number: func(o *api.Object) *int64 { return &o.Hi }},
		{bit: hasDigits, name: "digits", small: func(o *api.Object) *uint8 { return &o.Digits }},
		{bit: hasOn, name: "on", flag: func(o *api.Object) *bool { return &o.On }},
		{bit: hasHas, name: "has", flag: func(o *api.Object) *bool { return &o.Has }},
		{bit: hasValue, name: "value", number: func(o *api.Object) *int64 { return &o.Value }},
		{bit: hasLow, name: "low", number: func(o *api.Object) *int64 { return &o.Low }},
		{bit: hasHigh, name: "high", number: func(o *api.Object) *int64 { return &o.High }},
		{bit: hasAssoc, name: "assoc", small: func(o *api.Object) *uint8 { return &o.Assoc }},
	}
}

// text gives the value of the field as a text writes it.
func (f field) text(o *api.Object) string {
	if f.word != nil {
		return *f.word(o)
	}
	return strconv.FormatInt(f.count(o), 10)
}

// count gives the value of a field that is no word as a number.
func (f field) count(o *api.Object) int64 {
	switch {
	case f.number != nil:
		return *f.number(o)
	case f.small != nil:
		return int64(*f.small(o))
	case *f.flag(o):
		return 1
	}
	return 0
}

// zero tells whether the field is zero.
func (f field) zero(o *api.Object) bool {
	if f.word != nil {
		return *f.word(o) == ""
	}
	return f.count(o) == 0
}

// read fills the field with what the value says. What is not written as text writes it fills in whatever it may: who reads holds the object's text against the input.
func (f field) read(o *api.Object, value string) {
	n, _ := fixed.Parse(value, 0)
	switch {
	case f.word != nil:
		*f.word(o) = value
	case f.number != nil:
		*f.number(o) = n
	case f.small != nil:
		*f.small(o) = uint8(n)
	default:
		*f.flag(o) = n != 0
	}
}

// filled gives the set of the fields of o that are not zero.
func filled(o api.Object) set {
	var of set
	for _, f := range fields() {
		if !f.zero(&o) {
			of |= f.bit
		}
	}
	return of
}
