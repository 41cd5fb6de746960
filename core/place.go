package core

// place is where a thread is: ahead of the step that it does next.
type place int

const (
	// Here a thread stands, and may be stopped.
	atCall        place = iota // between two operations
	atReturn                   // so, too: its operation did all but tell its Return
	atHeader                   // it looks at its object's header
	atHeaderAgain              // it looks once more, as there is no slot
	atState                    // it looks whether it was told
	atHanded                   // it looks whether it was handed the monitor

	// To enter what is Biased, or Neutral.
	atProto // it looks at the class's prototype
	atBias  // it puts itself there as the one whom the header is biased to
	atSave  // it saves the header's word
	atThin  // it puts a Thin header of itself there

	// To inflate.
	atSlot  // it takes a slot
	atZero  // it puts the header to 0
	atSaved // it loads what the owner saved
	atDisp  // it stores that as what the slot displaced
	atLock  // it stores the lock word
	atFat   // it stores the Fat header

	// To enter what is Fat.
	atWord  // it looks at the lock word
	atTake  // it takes the lock word
	atNext  // it stores the lock word's head as its next one
	atPush  // it puts itself there as the head
	atSleep // it falls asleep until it is handed the monitor

	// To leave.
	atUnsave  // it loads what it saved
	atBack    // it puts that back as the header
	atLeave   // it looks at the lock word
	atDrain   // it drains the lock word
	atChain   // it goes along those whom it drained
	atRelease // it releases the lock word
	atHand    // it hands the lock word to the first one

	// To wait.
	atWait  // it stores its state as Waiting
	atDoze  // it falls asleep until it is told
	atBreak // it leaves by itself
	atClear // it stores its state as none

	// To do all else.
	atTell      // it tells one who waits
	atHash      // it puts a hash in a Neutral header
	atDispHash  // it looks at what the slot displaced
	atHashDisp  // it puts a hash in that
	atHolds     // it counts its records
	atInterrupt // it interrupts a thread

	atEnd // its program is over
)

// lastStand is the last place at which a thread stands.
const lastStand = atHanded

// stepAt is what a thread does at a place: at most one access. At its end it does
// nothing any more, and is never asked.
func stepAt(p place) func(*Machine, *thread) {
	return [...]func(*Machine, *thread){
		atCall:        (*Machine).call,
		atReturn:      (*Machine).comeBack,
		atHeader:      (*Machine).look,
		atHeaderAgain: (*Machine).lookAgain,
		atState:       (*Machine).lookIfTold,
		atHanded:      (*Machine).lookIfHanded,
		atProto:       (*Machine).lookAtProto,
		atBias:        (*Machine).bias,
		atSave:        (*Machine).save,
		atThin:        (*Machine).makeThin,
		atSlot:        (*Machine).takeSlot,
		atZero:        (*Machine).makeZero,
		atSaved:       (*Machine).loadSaved,
		atDisp:        (*Machine).displace,
		atLock:        (*Machine).storeLock,
		atFat:         (*Machine).makeFat,
		atWord:        (*Machine).lookAtLock,
		atTake:        (*Machine).take,
		atNext:        (*Machine).link,
		atPush:        (*Machine).push,
		atSleep:       (*Machine).sleep,
		atUnsave:      (*Machine).unsave,
		atBack:        (*Machine).putBack,
		atLeave:       (*Machine).lookToLeave,
		atDrain:       (*Machine).drain,
		atChain:       (*Machine).goAlong,
		atRelease:     (*Machine).release,
		atHand:        (*Machine).hand,
		atWait:        (*Machine).wait,
		atDoze:        (*Machine).doze,
		atBreak:       (*Machine).breakOff,
		atClear:       (*Machine).clear,
		atTell:        (*Machine).tell,
		atHash:        (*Machine).hashHeader,
		atDispHash:    (*Machine).lookAtDisp,
		atHashDisp:    (*Machine).hashDisp,
		atHolds:       (*Machine).holds,
		atInterrupt:   (*Machine).interrupt,
	}[p]
}
