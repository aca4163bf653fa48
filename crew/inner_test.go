package crew

import (
	"sync"
	"sync/atomic"
	"testing"
)

// TestLeaving: when a job is found, the others are not handed out to the end,
// however many there are.
func TestLeaving(t *testing.T) {
	const count = 5000
	for _, workers := range []int{1, 2, 3, 8, 64} {
		var begun atomic.Int64
		var c *crew
		c = newCrew(count, func(job int) bool {
			begun.Add(1)
			if job == 0 {
				return true
			}
			<-c.leave
			return false
		})
		if first := c.run(workers); first != 0 {
			t.Errorf("by %d: %d", workers, first)
		}
		// A worker that may take a job or leave may take some of them still.
		if n := begun.Load(); n > int64(workers)+100 {
			t.Errorf("by %d: %d jobs", workers, n)
		}
	}
}

// TestLeastIsKept: of jobs that are found at one time the first one is told.
func TestLeastIsKept(t *testing.T) {
	for _, order := range [][]int{{3, 1, 2}, {1, 2, 3}, {3, 2, 1}, {2, 1, 3}, {1}, {1, 1}} {
		c := newCrew(4, nil)
		for _, job := range order {
			c.end(job)
		}
		if c.first != 1 {
			t.Errorf("%v: %d", order, c.first)
		}
		select {
		case <-c.leave:
		default:
			t.Errorf("%v: nobody may leave", order)
		}
	}
}

// TestFoundAtOneTime: workers that find something at one time do not get in one
// another's way.
func TestFoundAtOneTime(t *testing.T) {
	const workers = 64
	for range 500 {
		c := newCrew(workers, nil)
		begin := make(chan struct{})
		var all sync.WaitGroup
		for job := range workers {
			all.Go(func() {
				<-begin
				c.end(job)
			})
		}
		close(begin)
		all.Wait()
		if c.first != 0 {
			t.Fatal(c.first)
		}
	}
}
