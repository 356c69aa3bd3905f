package disk_test

import (
	"strconv"
	"strings"
	"sync"
	"testing"

	"fathom/api"
	"fathom/disk"
)

// together has some goroutines do one thing each, at the same time.
func together(n int, do func(i int)) {
	var wait sync.WaitGroup
	for i := range n {
		wait.Add(1)
		go func() {
			defer wait.Done()
			do(i)
		}()
	}
	wait.Wait()
}

// P10.7: each append is laid whole, and the room is kept to.
func TestManyAppend(t *testing.T) {
	d := made(t, 3000)
	var taken [8]int
	together(8, func(i int) {
		text := []byte(strings.Repeat(string(rune('a'+i)), 5))
		for range 200 {
			switch e := d.Append("f"+strconv.Itoa(i%3), text); e {
			case api.OK:
				taken[i]++
			case api.ErrDiskFull:
			default:
				t.Errorf("Append: %d", e)
			}
		}
	})
	if d.Writes() != 600 {
		t.Errorf("%d writes", d.Writes())
	}
	var found [8]int
	for _, f := range d.Files() {
		for at := 0; at < len(f.Bytes); at += 5 {
			i := int(f.Bytes[at] - 'a')
			if string(f.Bytes[at:at+5]) != strings.Repeat(string(rune('a'+i)), 5) {
				t.Fatalf("%s is torn at %d", f.Name, at)
			}
			found[i]++
		}
	}
	if found != taken {
		t.Errorf("%v were taken, %v stand there", taken, found)
	}
}

// P10.7: of several that would rename or remove one file just one does.
func TestManyTakeOne(t *testing.T) {
	for round := range 300 {
		d := loaded(t, "a:hello")
		var done [6]bool
		together(6, func(i int) {
			if (round+i)%2 == 0 {
				done[i] = d.Remove("a") == api.OK
			} else {
				done[i] = d.Rename("a", "b"+strconv.Itoa(i)) == api.OK
			}
		})
		count := 0
		for _, x := range done {
			if x {
				count++
			}
		}
		if count != 1 || d.Writes() != 1 || len(d.Files()) > 1 {
			t.Fatalf("%d did, %d writes, %d files", count, d.Writes(), len(d.Files()))
		}
	}
}

// P10.7: nobody sees a call half done: a file that is renamed to and fro always stands under one name, and grows with its partner.
func TestManyLook(t *testing.T) {
	d := loaded(t, "a:hello")
	together(6, func(i int) {
		for range 300 {
			switch i {
			case 0:
				d.Rename("a", "b")
			case 1:
				d.Rename("b", "a")
			default:
				if l := d.Files(); len(l) != 1 || string(l[0].Bytes) != "hello" {
					t.Errorf("%d files", len(l))
				}
				if l, e := d.Names(); len(l) != 1 || e != api.OK {
					t.Errorf("%d names, %d", len(l), e)
				}
			}
		}
	})
}

// P10.7: all calls at once; just one write is torn, and behind it none is taken until the power is back.
func TestManyAndThePower(t *testing.T) {
	for round := range 100 {
		d := loaded(t, "a: b: c: d:")
		d.Arm(1+round%30, 1, 0)
		var taken [8]int
		together(8, func(i int) {
			name := string(rune('a' + i%4))
			for range 5 {
				if e := d.Append(name, []byte("x")); e == api.OK {
					taken[i]++
				} else if e != api.ErrDiskOff {
					t.Errorf("Append: %d", e)
				}
				allCalls(d, name)
			}
		})
		sum, size := 0, 0
		for _, n := range taken {
			sum += n
		}
		for _, f := range d.Files() {
			size += len(f.Bytes)
		}
		if !d.Off() || sum != round%30 || d.Writes() != sum+1 || size != sum+1 {
			t.Fatalf("armed at %d: off %v, %d taken, %d writes, %d bytes", 1+round%30, d.Off(), sum, d.Writes(), size)
		}
	}
}

// allCalls asks all that changes nothing.
func allCalls(d *disk.Disk, name string) {
	d.Read(name)
	d.ReadAt(name, 0, 0)
	d.Size(name)
	d.Sure(name)
	d.Names()
	d.Files()
	d.Off()
	d.Writes()
	d.Room()
}

// P10.7: any calls at once, On and Arm too: all end, and what stands is within the room.
func TestManyAnyCalls(t *testing.T) {
	d := made(t, 500)
	together(8, func(i int) {
		for k := range 400 {
			name, other := string(rune('a'+(i+k)%5)), string(rune('a'+(i*k)%5))
			switch (i + k) % 8 {
			case 0, 1, 2:
				d.Append(name, []byte("hello"))
			case 3:
				d.Cut(name, k%7)
			case 4:
				d.Rename(name, other)
			case 5:
				d.Remove(name)
			case 6:
				d.Sync(name)
			case 7:
				d.Arm(k%5, k%3, k%4)
				d.On()
			}
			allCalls(d, other)
		}
	})
	size := 0
	for _, f := range d.Files() {
		size += len(f.Bytes)
	}
	if size > d.Room() || len(d.Files()) > 5 {
		t.Errorf("%d bytes in %d files", size, len(d.Files()))
	}
}
