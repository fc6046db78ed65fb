package h2stream

import (
	"math"
	"strings"
	"testing"

	"bifold/api"
)

const (
	idle, open, local, remote, closed = api.Idle2, api.Open2, api.HalfLocal2, api.HalfRemote2, api.Closed2
	none                              = -1 // no state behind it
)

var states = []int{idle, open, local, remote, closed}

// wrongStates: numbers that are no states.
var wrongStates = []int{math.MinInt, -2, -1, 5, 6, 7, 255, 256, 1 << 32, 1<<32 + 1, math.MaxInt}

// row: what a frame does in each state, in the order of states.
type row struct {
	kind uint8
	end  bool
	want [5]int
}

func frame(kind, flags uint8) api.Frame {
	return api.Frame{Type: kind, Flags: flags, Stream: 1, B: []byte("1234")}
}

// flags: bytes of flags, with FlagEnd or without.
func flags(end bool) []uint8 {
	l := []uint8{0, 0xfe, api.FlagEndHeaders, api.FlagPadded | api.FlagPriority}
	if end {
		for i := range l {
			l[i] |= api.FlagEnd
		}
	}
	return l
}

func sends(t *testing.T, state int, f api.Frame, want int, e api.Errno) {
	t.Helper()
	if got, ge := Send(state, f); got != want || ge != e {
		t.Errorf("Send(%d, type %d, flags %x): %d, %v, not %d, %v", state, f.Type, f.Flags, got, ge, want, e)
	}
}

func recvs(t *testing.T, state int, f api.Frame, want, rule int) {
	t.Helper()
	if got, r := Recv(state, f); got != want || r != rule {
		t.Errorf("Recv(%d, type %d, flags %x): %d, rule %d, not %d, %d", state, f.Type, f.Flags, got, r, want, rule)
	}
}

func TestSend(t *testing.T) { // P15.1
	for _, x := range []row{
		//                              idle   open    local   remote  closed
		{api.F2Headers, false, [5]int{open, open, none, remote, none}},
		{api.F2Headers, true, [5]int{local, local, none, closed, none}},
		{api.F2Data, false, [5]int{none, open, none, remote, none}},
		{api.F2Data, true, [5]int{none, local, none, closed, none}},
		{api.F2Reset, false, [5]int{none, closed, closed, closed, closed}},
		{api.F2Reset, true, [5]int{none, closed, closed, closed, closed}},
		{api.F2Priority, false, [5]int{idle, open, local, remote, closed}},
		{api.F2Priority, true, [5]int{idle, open, local, remote, closed}},
		{api.F2Window, false, [5]int{none, open, local, remote, none}},
		{api.F2Window, true, [5]int{none, open, local, remote, none}},
		{api.F2Continuation, false, [5]int{none, open, none, remote, none}},
		{api.F2Continuation, true, [5]int{none, open, none, remote, none}}, // no flag of CONTINUATION's
	} {
		for i, state := range states {
			for _, fl := range flags(x.end) {
				if x.want[i] == none {
					sends(t, state, frame(x.kind, fl), state, api.ErrState)
				} else {
					sends(t, state, frame(x.kind, fl), x.want[i], api.OK)
				}
			}
		}
	}
}

func TestSendOthers(t *testing.T) { // P15.1
	for kind := range 256 {
		for _, fl := range append(flags(false), flags(true)...) {
			f := frame(uint8(kind), fl)
			switch kind {
			case api.F2Data, api.F2Headers, api.F2Priority, api.F2Reset, api.F2Window, api.F2Continuation:
			default:
				for _, state := range states {
					sends(t, state, f, state, api.ErrState)
				}
			}
			for _, state := range wrongStates {
				sends(t, state, f, state, api.ErrState)
			}
		}
	}
}

func TestRecv(t *testing.T) { // P15.2
	const order, gone, strange = -api.RuleOrder, -api.RuleClosed, -api.RuleUnexpected // below 0: rules
	for _, x := range []row{
		//                              idle    open    local   remote  closed
		{api.F2Headers, false, [5]int{open, open, local, gone, gone}},
		{api.F2Headers, true, [5]int{remote, remote, closed, gone, gone}},
		{api.F2Data, false, [5]int{order, open, local, gone, gone}},
		{api.F2Data, true, [5]int{order, remote, closed, gone, gone}},
		{api.F2Continuation, false, [5]int{order, open, local, gone, gone}},
		{api.F2Continuation, true, [5]int{order, open, local, gone, gone}},
		{api.F2Reset, false, [5]int{order, closed, closed, closed, closed}},
		{api.F2Reset, true, [5]int{order, closed, closed, closed, closed}},
		{api.F2Priority, false, [5]int{idle, open, local, remote, closed}},
		{api.F2Priority, true, [5]int{idle, open, local, remote, closed}},
		{api.F2Window, false, [5]int{order, open, local, remote, closed}},
		{api.F2Window, true, [5]int{order, open, local, remote, closed}},
		{api.F2Settings, false, [5]int{strange, strange, strange, strange, strange}},
		{api.F2Settings, true, [5]int{strange, strange, strange, strange, strange}},
		{api.F2Push, false, [5]int{strange, strange, strange, strange, strange}},
		{api.F2Push, true, [5]int{strange, strange, strange, strange, strange}},
		{api.F2Ping, false, [5]int{strange, strange, strange, strange, strange}},
		{api.F2Ping, true, [5]int{strange, strange, strange, strange, strange}},
		{api.F2Goaway, false, [5]int{strange, strange, strange, strange, strange}},
		{api.F2Goaway, true, [5]int{strange, strange, strange, strange, strange}},
	} {
		for i, state := range states {
			for _, fl := range flags(x.end) {
				if x.want[i] < 0 {
					recvs(t, state, frame(x.kind, fl), state, -x.want[i])
				} else {
					recvs(t, state, frame(x.kind, fl), x.want[i], api.RuleNone)
				}
			}
		}
	}
}

func TestRecvOthers(t *testing.T) { // P15.2
	for kind := range 256 {
		for _, fl := range append(flags(false), flags(true)...) {
			f := frame(uint8(kind), fl)
			for _, state := range states {
				if kind > api.F2Continuation {
					recvs(t, state, f, state, api.RuleNone)
				}
			}
			for _, state := range wrongStates {
				recvs(t, state, f, state, api.RuleUnexpected)
			}
		}
	}
}

func TestExample(t *testing.T) { // P15.1, P15.2
	f := frame(api.F2Headers, api.FlagEnd)
	here, e := Send(idle, f)
	there, r := Recv(idle, f)
	for _, name := range []string{Name(here), Name(there)} {
		if !strings.HasPrefix(name, "half-closed") || e != api.OK || r != api.RuleNone {
			t.Errorf("%q, %v, rule %d", name, e, r)
		}
	}
}

func TestFrameBesideItsKind(t *testing.T) { // P15.1, P15.2: neither its stream nor its payload says anything
	for _, s := range []uint32{0, 2, 1<<32 - 1} {
		for _, b := range []string{"", strings.Repeat("\xff", 100)} {
			f := api.Frame{Type: api.F2Headers, Flags: api.FlagEnd, Stream: s, B: []byte(b)}
			sends(t, open, f, local, api.OK)
			recvs(t, open, f, remote, api.RuleNone)
		}
	}
}

func TestName(t *testing.T) { // P15.2
	for i, want := range []string{"idle", "open", "half-closed (local)", "half-closed (remote)", "closed"} {
		if name := Name(i); name != want {
			t.Errorf("Name(%d): %q, not %q", i, name, want)
		}
	}
	for _, state := range wrongStates {
		if name := Name(state); name != "" {
			t.Errorf("Name(%d): %q", state, name)
		}
	}
}

// across: the state as the other side has it.
func across(state int) int {
	switch state {
	case local:
		return remote
	case remote:
		return local
	}
	return state
}

func TestWhatIsSentMayCome(t *testing.T) { // P15.3
	sent := 0
	for _, state := range states {
		for kind := range 256 {
			for _, fl := range append(flags(false), flags(true)...) {
				f := frame(uint8(kind), fl)
				next, e := Send(state, f)
				if e != api.OK {
					continue
				}
				sent++
				recvs(t, across(state), f, across(next), api.RuleNone)
			}
		}
	}
	if sent < 100 {
		t.Errorf("%d were sent", sent)
	}
}
