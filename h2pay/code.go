package h2pay

import "bifold/api"

// Code: the code by which a connection of that stack is closed for a rule; 0 of a stack that is none.
func Code(rule, stack int) uint64 {
	switch stack {
	case api.Stack2:
		return code2(rule)
	case api.Stack3:
		return code3(rule)
	}
	return 0
}

func code2(rule int) uint64 {
	switch rule {
	case api.RuleNone:
		return api.H2No
	case api.RuleFrameSize:
		return api.H2FrameSize
	case api.RuleStreamZero, api.RuleOrder, api.RuleUnexpected, api.RuleMessage, api.RuleSettings:
		return api.H2Protocol
	case api.RuleFlow:
		return api.H2Flow
	case api.RuleClosed:
		return api.H2Closed
	case api.RuleCompression:
		return api.H2Compression
	}
	return api.H2Internal
}

func code3(rule int) uint64 {
	switch rule {
	case api.RuleNone:
		return api.H3No
	case api.RuleFrameSize:
		return api.H3FrameBad
	case api.RuleStreamZero:
		return api.H3Creation
	case api.RuleOrder, api.RuleUnexpected:
		return api.H3Unexpected
	case api.RuleFlow:
		return api.H3Protocol
	case api.RuleSettings:
		return api.H3Settings
	case api.RuleClosed:
		return api.H3Closed
	case api.RuleCompression:
		return api.H3Decompress
	case api.RuleMessage:
		return api.H3Message
	}
	return api.H3Internal
}
