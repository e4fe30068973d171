package impl

const (
	MaxJobs = 16
)

type Job struct {
	Id   int
	Need int
	Left int
	Done int
}

type Sched struct {
	Pool    Pool
	Jobs    []Job
	Tickets []Ticket
	Failed  []int
}

// SchedNew returns a scheduler with PoolNew(size) and nothing else, and true, or the zero Sched
// and false if PoolNew returns false.
func SchedNew(size int) (Sched, bool) { return Sched{}, false }

// SchedOk reports whether s is valid: Pool is valid; there are at most MaxJobs jobs with
// different Ids in the range 1 to 1000, Need in the range 1 to 10, Left in the range 1 to 20, and
// Done in the range 0 to 20; TicketsDisjoint(Tickets) is true; and for each ticket, From + Count
// is at most Next of Pool.
func SchedOk(s Sched) bool { return false }

// SchedAdd appends a job with this Id and Need, rounds as Left and Done 0, and returns the
// scheduler and true. It returns s unchanged and false if s or the result is not valid.
func SchedAdd(s Sched, id int, need int, rounds int) (Sched, bool) { return Sched{}, false }

// SchedStep performs one round of the first job with the least Done. If Burned of Pool is less
// than Next plus Need, PoolReserve is applied first with the difference. If it returns false, the
// job is removed and its Id is appended to Failed. Otherwise Need items are taken by PoolTake,
// the ticket is appended to Tickets, Done is incremented and Left decremented, and the job is
// removed if Left is 0. It returns the scheduler, which need not be valid (Done can become 21),
// the Id of the job and true. It returns s unchanged, 0 and false if s is not valid, there are no
// jobs, or there are MaxPool tickets.
func SchedStep(s Sched) (Sched, int, bool) { return Sched{}, 0, false }

// SchedRun applies SchedStep until it returns false, at most n times, and returns the scheduler
// and the number of steps for which it returned true. It returns s unchanged and 0 if n is not in
// the range 0 to 400.
func SchedRun(s Sched, n int) (Sched, int) { return Sched{}, 0 }

// SchedCrash applies PoolCrash to the pool. It returns s unchanged if s is not valid.
func SchedCrash(s Sched) Sched { return Sched{} }
