package stat

import (
	"futtock/api"
	"futtock/model"
)

// counter counts an object's commits. Who owns it plays no part, as the log need not be
// right: there is one count of owners.
type counter struct {
	Counts
	// owned is how often it is owned.
	owned int
	// had is, by threads, how often it was owned at the thread's last Begin.
	had map[int]int
}

// newCounter is that of an object ahead of its first commit.
func newCounter() *counter {
	return &counter{had: map[int]int{}}
}

// take counts a commit.
func (c *counter) take(e model.Event) {
	switch e.Err {
	case api.OK:
		c.takeDone(e)
	case api.ErrState:
		c.Strange++
	case api.ErrOver, api.ErrOut, api.ErrBusy:
		if e.Kind == model.Enter || e.Kind == model.Try {
			c.Refused++
		}
	case api.ErrTime, api.ErrIntr:
		c.takeBroken(e)
	}
}

// takeDone counts a commit that is OK.
func (c *counter) takeDone(e model.Event) {
	switch e.Kind {
	case model.Enter, model.Try:
		c.enter()
	case model.Exit:
		c.exit()
	case model.Begin:
		c.begin(e.Thread)
	case model.End:
		c.end(e.Thread)
	case model.Wake:
		c.Woken++
	case model.Hash:
		c.Hashes++
	}
}

// takeBroken counts a commit by time or interrupt.
func (c *counter) takeBroken(e model.Event) {
	switch e.Kind {
	case model.Leave:
		c.Left++
	case model.End:
		c.end(e.Thread)
	}
}

// enter has it owned once more.
func (c *counter) enter() {
	if c.owned == 0 {
		c.Owned++
	} else {
		c.Again++
	}
	c.owned++
}

// exit has it owned once less, if it is owned.
func (c *counter) exit() {
	if c.owned <= 1 {
		c.Free++
		c.owned = 0
		return
	}
	c.Kept++
	c.owned--
}

// begin frees it wholly.
func (c *counter) begin(thread int) {
	c.Waits++
	c.had[thread] = c.owned
	c.owned = 0
}

// end has it owned as often as the thread's last Begin had, at least once.
func (c *counter) end(thread int) {
	c.Back++
	c.owned = max(1, c.had[thread])
}
