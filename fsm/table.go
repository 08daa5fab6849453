package fsm

import (
	"fairlead/api"
)

// Step is the actions for an event in a state, in their order, and the next state.
func Step(state, event int) ([]int, int) {
	if !heeded(state, event) {
		return to(state)
	}
	switch event {
	case api.Up, api.Down, api.Open, api.Close:
		return ordered(state, event)
	case api.ReqGood, api.ReqBad, api.AckIn, api.NakIn:
		return configured(state, event)
	}
	return ended(state, event)
}

// heeded tells whether an event may have an effect: a timer expires only where
// one runs, and a packet comes in only where the line is up.
func heeded(state, event int) bool {
	switch event {
	case api.Up, api.Down, api.Open, api.Close:
		return state >= api.Initial && state <= api.Opened
	case api.TimeMore, api.TimeOut:
		return timed(state)
	}
	return state >= api.Closed && state <= api.Opened
}

// timed tells whether the timer may run in a state.
func timed(state int) bool { return state >= api.Closing && state <= api.AckSent }

// to is an entry of the table. Its list is a new one in each call.
func to(next int, actions ...int) ([]int, int) { return actions, next }

// In the functions below, a row lists the states in which it has an entry of its
// own. For all others it has the entry of the row that it falls through to, if
// it does, and otherwise the state stays.

// ordered is the rows of what this end is told.
func ordered(state, event int) ([]int, int) {
	switch event {
	case api.Up:
		switch state {
		case api.Initial:
			return to(api.Closed)
		case api.Starting:
			return to(api.ReqSent, api.InitCount, api.SendReq)
		}
	case api.Down:
		switch state {
		case api.Closed, api.Closing:
			return to(api.Initial)
		case api.Stopped:
			return to(api.Starting, api.LayerStart)
		case api.Stopping, api.ReqSent, api.AckRcvd, api.AckSent:
			return to(api.Starting)
		case api.Opened:
			return to(api.Starting, api.LayerDown)
		}
	case api.Open:
		switch state {
		case api.Initial:
			return to(api.Starting, api.LayerStart)
		case api.Closed:
			return to(api.ReqSent, api.InitCount, api.SendReq)
		case api.Closing:
			return to(api.Stopping)
		}
	case api.Close:
		switch state {
		case api.Starting:
			return to(api.Initial, api.LayerDone)
		case api.Stopped:
			return to(api.Closed)
		case api.Stopping:
			return to(api.Closing)
		case api.ReqSent, api.AckRcvd, api.AckSent:
			return to(api.Closing, api.InitCount, api.SendTermReq)
		case api.Opened:
			return to(api.Closing, api.LayerDown, api.InitCount, api.SendTermReq)
		}
	}
	return to(state)
}

// configured is the rows of requests and of the answers to them. But for one
// state, a good request's row differs from a bad one's in the answer alone, with
// the state that comes of it.
func configured(state, event int) ([]int, int) {
	answer, next := api.SendNak, api.ReqSent
	switch event {
	case api.ReqGood:
		if state == api.AckRcvd {
			return to(api.Opened, api.SendAck, api.LayerUp)
		}
		answer, next = api.SendAck, api.AckSent
		fallthrough
	case api.ReqBad:
		switch state {
		case api.Stopped:
			return to(next, api.InitCount, api.SendReq, answer)
		case api.ReqSent, api.AckSent:
			return to(next, answer)
		case api.AckRcvd:
			return to(state, answer)
		case api.Opened:
			return to(next, api.LayerDown, api.SendReq, answer)
		}
		fallthrough
	case api.AckIn:
		switch state {
		case api.ReqSent:
			return to(api.AckRcvd, api.InitCount)
		case api.AckSent:
			return to(api.Opened, api.InitCount, api.LayerUp)
		}
		fallthrough
	case api.NakIn:
		switch state {
		case api.Closed, api.Stopped:
			return to(state, api.SendTermAck)
		case api.ReqSent, api.AckSent:
			return to(state, api.InitCount, api.SendReq)
		case api.AckRcvd:
			return to(api.ReqSent, api.SendReq)
		case api.Opened:
			return to(api.ReqSent, api.LayerDown, api.SendReq)
		}
	}
	return to(state)
}

// ended is the rows of what ends an agreement or the wait for one, and of what
// is only answered.
func ended(state, event int) ([]int, int) {
	switch event {
	case api.TimeMore:
		switch state {
		case api.Closing, api.Stopping:
			return to(state, api.SendTermReq)
		case api.AckSent:
			return to(api.AckSent, api.SendReq)
		}
		return to(api.ReqSent, api.SendReq)
	case api.TimeOut, api.RejBad:
		switch state {
		case api.Closed, api.Closing:
			return to(api.Closed, api.LayerDone)
		case api.Opened:
			return to(api.Stopping, api.LayerDown, api.InitCount, api.SendTermReq)
		}
		return to(api.Stopped, api.LayerDone)
	case api.TermReqIn:
		switch state {
		case api.AckRcvd, api.AckSent:
			return to(api.ReqSent, api.SendTermAck)
		case api.Opened:
			return to(api.Stopping, api.LayerDown, api.ZeroCount, api.SendTermAck)
		}
		return to(state, api.SendTermAck)
	case api.TermAckIn:
		switch state {
		case api.Closing:
			return to(api.Closed, api.LayerDone)
		case api.Stopping:
			return to(api.Stopped, api.LayerDone)
		case api.Opened:
			return to(api.ReqSent, api.LayerDown, api.SendReq)
		}
		fallthrough
	case api.RejGood:
		if state == api.AckRcvd {
			return to(api.ReqSent)
		}
	case api.Unknown:
		return to(state, api.SendCodeRej)
	case api.EchoIn:
		if state == api.Opened {
			return to(state, api.SendEcho)
		}
	}
	return to(state)
}
