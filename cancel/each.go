package cancel

import (
	"sync"

	"concord/api"
)

// MaxWorkers is how many goroutines there are at most.
const MaxWorkers = 16

// ended is a number whose work is over, with what the work answered.
type ended struct {
	number int
	e      api.Errno
}

// Each does a piece of work for each number below n, by so many workers.
func Each(t *Token, workers, n int, f func(i int) api.Errno) api.Errno {
	if workers < 1 || workers > MaxWorkers || n < 0 || n > api.MaxBits {
		return api.ErrArg
	}
	if f == nil {
		return api.ErrNil
	}
	if e := carryOut(t, min(workers, n), n, f); e != api.OK {
		return e
	}
	return t.Why()
}

// carryOut has the work done, and answers the error of the least number that has one.
func carryOut(t *Token, workers, n int, f func(i int) api.Errno) api.Errno {
	failed := New()
	numbers, over := make(chan int), make(chan ended)
	var crew sync.WaitGroup
	for range workers {
		crew.Go(func() { work(failed, numbers, over, f) })
	}
	e := lead(t, failed, workers, n, numbers, over)
	close(numbers)
	crew.Wait()
	return e
}

// work is what a worker does. That a piece failed is noted at once, not only when the leader comes to hear of it, so that nothing further is begun meanwhile.
func work(failed *Token, numbers <-chan int, over chan<- ended, f func(i int) api.Errno) {
	for i := range numbers {
		e := f(i)
		if e != api.OK {
			failed.Cancel(e)
		}
		over <- ended{i, e}
	}
}

// lead hands out the numbers, in order, each only to a worker that is idle: so whether it is begun is settled when it is handed out, and all below a number that was begun were begun, too.
func lead(t, failed *Token, workers, n int, numbers chan<- int, over <-chan ended) api.Errno {
	next, busy := 0, 0
	first := ended{number: n}
	for {
		if next < n && busy < workers && !failed.Off() && !t.Off() {
			numbers <- next
			next++
			busy++
			continue
		}
		if busy == 0 {
			return first.e
		}
		x := <-over
		busy--
		if x.e != api.OK && x.number < first.number {
			first = x
		}
	}
}

// Map does a piece of work on each thing, by so many workers; the answers stand as the things do.
func Map[T, U any](t *Token, workers int, l []T, f func(T) (U, api.Errno)) ([]U, api.Errno) {
	if workers < 1 || workers > MaxWorkers || len(l) > api.MaxBits {
		return nil, api.ErrArg
	}
	if f == nil {
		return nil, api.ErrNil
	}
	out := make([]U, len(l))
	e := Each(t, workers, len(l), func(i int) api.Errno {
		u, e := f(l[i])
		out[i] = u
		return e
	})
	if e != api.OK {
		return nil, e
	}
	return out, api.OK
}
