package lin_test

import (
	"testing"

	"shutter/api"
	"shutter/lin"
)

// Histories of MaxFind operations that all overlap, and that no order shows: a search that tried all orders would not end.

func checkNone(t *testing.T, l together) {
	t.Helper()
	if len(l) != api.MaxFind {
		t.Fatal("it has", len(l))
	}
	if order, errno := lin.Find(l, 4); errno != api.ErrNone || len(order) != 0 {
		t.Errorf("%v, %d", order, errno)
	}
}

func TestHardPendingPuts(t *testing.T) {
	for keys := uint64(1); keys <= 15; keys++ {
		var l together
		for i := range uint64(15) {
			l.pending(put(i%keys, i))
		}
		l.returned(get(0), found(77))
		checkNone(t, l)
	}
}

func TestHardReturnedPuts(t *testing.T) {
	var l together
	for i := range uint64(15) {
		l.returned(put(i, i), none())
	}
	l.returned(get(3), found(77))
	checkNone(t, l)
}

func TestHardSwaps(t *testing.T) {
	for keys := uint64(1); keys <= 4; keys *= 2 {
		var l together
		for key := range keys {
			l.returned(put(key, 0), none())
		}
		for i := uint64(0); len(l) < 15; i++ {
			l.returned(swap(i%keys, i/keys%2, 1-i/keys%2), swapped(i/keys%2))
		}
		l.returned(get(0), found(77))
		checkNone(t, l)
	}
}

// Two ask for what one wrote, each putting something else in its place.
func TestHardPutsThatAreFound(t *testing.T) {
	for keys := uint64(1); keys <= 4; keys *= 2 {
		var l together
		for i := range uint64(8) {
			l.pending(put(i%keys, i))
		}
		for i := range uint64(8) {
			l.returned(put(i%4%keys, 50+i), found(i%4))
		}
		checkNone(t, l)
	}
}

func TestHardSnapshots(t *testing.T) {
	for keys := uint64(1); keys <= 8; keys *= 2 {
		var l together
		for i := range uint64(8) {
			l.pending(put(i%keys, i))
		}
		for handle := uint64(1); handle <= 4; handle++ {
			l.returned(snapshot(), told(handle))
			l.returned(inRange(handle, 0, 100), paired(50, 50))
		}
		checkNone(t, l)
	}
}

// Pictures none of which can have been taken ahead of another one, with handles that are let go.
func TestHardPicturesThatDoNotAgree(t *testing.T) {
	var l together
	for i := range uint64(4) {
		l.returned(put(i, i), none())
		l.returned(snapshot(), told(i+1))
		l.returned(inRange(i+1, 0, 100), paired(i, i))
		l.returned(release(i+1), none())
	}
	checkNone(t, l)
}

// Snapshots whose pictures nobody asks for.
func TestHardSnapshotsThatNobodyAsks(t *testing.T) {
	var l together
	for i := range uint64(7) {
		l.returned(put(i, i), none())
	}
	for handle := range uint64(8) {
		l.returned(snapshot(), told(handle+1))
	}
	l.returned(get(3), found(77))
	checkNone(t, l)
}

// One handle that is told and let go again and again.
func TestHardHandle(t *testing.T) {
	var l together
	for i := range uint64(4) {
		l.returned(snapshot(), told(5))
		l.returned(release(5), none())
		l.returned(put(i, i), none())
		l.returned(count(5, 0, 100), counted(i))
	}
	l[15].Answer = counted(9)
	checkNone(t, l)
}
