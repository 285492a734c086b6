package sender

import (
	"undertow/api"
)

// rings is what is done when an alarm rings, by the alarms' names.
func rings() map[int]func(*call) {
	return map[int]func(*call){
		api.AlarmRto:   (*call).timeout,
		api.AlarmReo:   (*call).overdue,
		api.AlarmProbe: (*call).tail,
	}
}

// timeout deems all lost, as nothing was acknowledged for too long, and begins with the first.
func (c *call) timeout() {
	first, ok := c.book.First()
	if !ok {
		return
	}
	c.late++
	if c.mode == api.Open {
		c.frto.Start()
	} else {
		c.frto.Stop()
	}
	if c.mode != api.Loss {
		c.cut(c.size())
	}
	c.mode, c.goal = api.Loss, c.board.Nxt()
	c.win.Collapse()
	c.book.LoseAll()
	c.probe.Stop()
	c.est.Backoff()
	c.sendAgain(api.SendAgain, first)
	c.restart()
}

// overdue looks whether what may only have been late is lost by now.
func (c *call) overdue() {
	c.losing()
	if c.mode == api.Open && c.anyLost() {
		// Nothing came by an alarm; an episode that is told so is as one that is told nothing, as its first segment goes in any case.
		c.recovery(0)
	}
}

// tail sends a probe, so that something is heard of the flight's end.
func (c *call) tail() {
	if !c.mayProbe() {
		return
	}
	again := c.allSent()
	if again {
		last, _ := c.book.Last()
		c.sendAgain(api.SendProbe, last)
	} else {
		c.sendNew(api.SendProbe)
	}
	c.probe.Start(c.board.Nxt(), again)
}
