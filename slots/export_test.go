package slots

// Age lets a slot of a block that is made have a generation, as calls could
// bring it to only in a long time.
func Age(t *Table, slot int, gen uint32) { t.made[slot].gen = gen }
