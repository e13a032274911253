package console_test

import (
	"slices"
	"strings"
	"testing"

	"wardroom/api"
	"wardroom/console"
)

// N1, N2: the session of the document.
func TestSession(t *testing.T) {
	play(t, `
		add 0 300 => 1
		limit 1 4 6 => ok
		fork 0 1 => 2
		join 1 1 => ok
		plant => 1
		pivot 1 1 => ok
		mkdir 1 /a => ok
		open 1 1 1 /a/b => 0
		write 1 0 68656c6c6f => 5
		fork 1 0 => 2
		seek 2 0 1 => ok
		read 1 0 3 => 656c6c
		names 1 / => a
		names 0 / => -
		map 1 0 4 1 => ok
		store 1 5 77 => ok
		fork 1 0 => 3
		store 3 5 78 => ok
		load 1 5 => 77
		left => 62
		group 1 => 0 4 6 3 2
		map 2 0 8 1 => ok
		store 2 0 1 => ok
		store 2 8 1 => ok
		store 2 16 1 => ok
		store 2 24 1 => ok
		group 1 => 0 4 6 3 6
		store 3 8 1 => ok
		procs => 0 1 3
		wait 1 => 2 137
		list 1 => 1 3
		pipe 1 => 1 2
		fork 1 1 => 2
		self 2 => 1
		parent 2 => 0
		list 2 => 1
		write 2 2 616263 => 3
		read 1 1 9 => 616263
		close 1 1 => ok
		close 2 1 => ok
		write 2 2 61 => error 12
		self 2 => 1
		wait 1 => error 8
		write 3 2 61 => error 2
		self 3 => 3
		wait 1 => error 8
		run 6 => 1 0 2 3 1 0
		quota 1 1 3 => ok
		run 6 => 2 0 0 3 0 0
		bind 1 /a / => ok
		names 1 /a/a => a
		node 1 /a/.. => 2 1 3 1
		remove 1 /a => error 5
		how 1 5 2 => ok
		signal 0 2 5 => ok
		take 1 => 5
		signal 0 2 4 => ok
		wait 0 => 2 132
		spaces => 0
		counts => 4 0 0
		left => 64
		fly => error 9
	`)
}

// N1: more than MaxLines are refused, whatever they are; so many, and none, are answered.
func TestHowManyLines(t *testing.T) {
	for _, line := range []string{"plant", "fly", ""} {
		for _, many := range []int{0, 1, api.MaxLines - 1, api.MaxLines} {
			run(t, slices.Repeat([]string{line}, many))
		}
		for _, many := range []int{api.MaxLines + 1, 2 * api.MaxLines, 100000} {
			if out, err := console.Run(slices.Repeat([]string{line}, many)); err != api.ErrBound || len(out) != 0 {
				t.Errorf("%d lines %q: %q %v, want %v", many, line, out, err, api.ErrBound)
			}
		}
	}
	if out, err := console.Run(nil); err != nil || len(out) != 0 {
		t.Errorf("no lines: %q %v", out, err)
	}
}

// N1: processes, and what they are told.
func TestLife(t *testing.T) {
	play(t, `
		procs => 0
		spaces => 0
		self 0 => 1
		parent 0 => 0
		list 0 => 1
		wait 0 => error 2
		fork 0 0 => 2
		fork 1 -1 => 3
		fork 0 99999 => 4
		fork 3 1 => 2
		fork 5 1 => error 2
		fork 20 1 => error 1
		fork -1 1 => error 1
		procs => 0 1 2 3 4
		spaces => 0 1 2
		list 0 => 1 2 3 4 5
		list 3 => 1 2
		list 4 => 1
		list 9 => error 2
		self 3 => 1
		self 1 => 2
		parent 2 => 2
		parent 3 => 0
		see 0 5 => 4
		see 3 2 => 4
		see 3 3 => error 2
		see 0 0 => error 2
		how 1 4 2 => ok
		how 1 5 1 => ok
		how 1 6 3 => error 1
		how 1 1 0 => error 8
		signal 0 2 5 => ok
		signal 0 2 4 => ok
		signal 0 1 4 => error 8
		signal 0 2 9 => error 1
		hold 1 4 1 => ok
		take 1 => error 2
		hold 1 4 -1 => ok
		take 1 => 4
		take 1 => error 2
		hold 1 1 1 => error 8
		hold 1 4 7 => ok
		signal 0 2 4 => ok
		take 1 => error 2
		hold 1 4 0 => ok
		take 1 => 4
		exit 2 256 => error 1
		exit 2 -1 => error 1
		exit 0 0 => error 8
		exit 2 255 => ok
		exit 2 255 => error 2
		wait 0 => error 8
		wait 1 => 3 255
		wait 1 => error 2
		exit 3 0 => ok
		wait 0 => 4 0
		spaces => 0
		procs => 0 1
	`)
}

// N1: pages; what is put into a byte is from 0 to 255.
func TestMemory(t *testing.T) {
	play(t, `
		regions 0 => -
		resident 0 => 0
		left => 64
		map 0 2 3 1 => ok
		map 0 0 1 0 => ok
		map 0 8 2 -1 => ok
		map 0 12 1 99999 => ok
		map 0 4 1 1 => error 3
		map 0 16 1 1 => error 1
		map 0 -1 1 1 => error 1
		regions 0 => 0 1 0 2 3 1 8 2 0 12 1 1
		protect 0 3 1 0 => ok
		protect 0 8 2 2 => ok
		protect 0 8 2 -1 => ok
		protect 0 5 1 1 => error 10
		regions 0 => 0 1 0 2 1 1 3 1 0 4 1 1 8 2 0 12 1 1
		unmap 0 0 1 => ok
		unmap 0 0 1 => ok
		unmap 0 0 0 => error 1
		store 0 16 255 => ok
		load 0 16 => 255
		store 0 16 0 => ok
		load 0 16 => 0
		load 0 17 => 0
		store 0 17 256 => error 1
		store 0 17 -1 => error 1
		store 0 17 65536 => error 1
		store 9 17 256 => error 1
		store 0 24 -1 => error 1
		load 0 17 => 0
		store 0 24 1 => error 10
		load 0 24 => 0
		load 0 0 => error 10
		load 0 99999 => error 10
		load 0 -1 => error 10
		load 9 0 => error 2
		resident 0 => 2
		left => 62
		unmap 0 2 1 => ok
		resident 0 => 1
		left => 63
		resident 1 => error 2
		regions 1 => error 2
	`)
}

// N1: groups, and who runs.
func TestGroups(t *testing.T) {
	play(t, `
		add 0 100 => 1
		add 1 1000 => 2
		add 0 1001 => error 1
		add 0 0 => error 1
		add 3 1 => error 2
		group 0 => -1 -1 -1 1 0
		group 2 => 1 -1 -1 0 0
		group 3 => error 2
		group 10 => error 1
		limit 1 1 3 => ok
		limit 1 21 3 => error 1
		group 1 => 0 1 3 0 0
		limit 2 -1 0 => ok
		group 2 => 1 -1 0 0 0
		fork 0 0 => 2
		fork 0 0 => 3
		of 1 => 0
		join 1 2 => ok
		join 2 1 => error 6
		join 2 3 => error 2
		of 1 => 2
		of 2 => 0
		group 1 => 0 1 3 1 0
		drop 1 => error 5
		drop 0 => error 5
		run 0 => -
		run -1 => error 1
		run 2001 => error 1
		run 99999 => error 1
		run 4 => 1 0 2 1
		ran 1 => 2
		ran 0 => 1
		freeze 1 => ok
		freeze 0 => error 8
		sleep 2 => ok
		run 3 => 0 0 0
		sleep 0 => ok
		run 2 => -1 -1
		wake 2 => ok
		run 2 => 2 2
		thaw 1 => ok
		thaw 0 => error 8
		run 3 => 1 1 2
		quota 1 0 101 => error 1
		quota 0 1 2 => error 8
		quota 1 1 100 => ok
		sleep 2 => ok
		wake 9 => error 2
		ran 9 => error 2
		exit 1 0 => ok
		wait 0 => 2 0
		drop 2 => ok
		drop 2 => error 2
		add 1 1 => 2
	`)
}

// N1: a line runs up to MaxTicks ticks, and tells each.
func TestMostTicks(t *testing.T) {
	out := run(t, []string{"run 2000", "ran 0", "run 2001", "ran 0", "run 1999", "ran 0"})
	want := []string{strings.TrimSpace(strings.Repeat("0 ", 2000)), "2000", "error 1", "2000",
		strings.TrimSpace(strings.Repeat("0 ", 1999)), "3999"}
	if !slices.Equal(out, want) {
		t.Errorf("ran %q", out)
	}
}

// N1: what is open; bytes are told by two digits each.
func TestFiles(t *testing.T) {
	play(t, `
		open 0 1 0 /f => error 2
		open 0 1 -1 /f => error 2
		open 0 0 1 /f => 0
		write 0 0 61 => error 8
		open 0 1 0 /f => 1
		write 0 1 00ff7f80 => 4
		write 0 1 - => 0
		write 0 1 abcdef0123456789 => 8
		read 0 0 3 => 00ff7f
		read 0 0 0 => -
		read 0 0 99 => 80abcdef0123456789
		read 0 0 99 => -
		read 0 0 -1 => error 1
		what 0 0 => 1 1 12 1
		what 0 1 => 1 1 12 1
		what 0 2 => error 2
		what 0 6 => error 1
		seek 0 0 40 => ok
		seek 0 0 41 => error 1
		seek 0 0 -1 => error 1
		what 0 0 => 1 1 40 1
		dup 0 1 => 2
		dup 0 3 => error 2
		what 0 2 => 1 1 12 2
		open 0 99999 99999 /g => 3
		pipe 0 => 4 5
		pipe 0 => error 4
		dup 0 0 => error 4
		what 0 4 => 2 0 0 1
		what 0 5 => 3 0 0 1
		read 0 4 1 => error 13
		read 0 5 1 => error 8
		write 0 5 000102030405060708090a0b0c => 12
		write 0 5 0d => error 13
		read 0 4 20 => 000102030405060708090a0b
		seek 0 4 0 => error 11
		open 0 -1 1 /h => error 4
		close 0 4 => ok
		close 0 4 => error 2
		close 0 -1 => error 1
		counts => 3 1 4
		write 0 5 - => error 12
		close 0 5 => ok
		counts => 3 0 3
		open 0 -1 1 /h => 4
		write 0 4 61 => error 8
		counts => 4 0 4
	`)
}

// N1: directories, trees and mounts.
func TestPaths(t *testing.T) {
	play(t, `
		names 0 / => -
		mkdir 0 /b => ok
		mkdir 0 /a => ok
		mkdir 0 /a => error 3
		mkdir 0 a => error 9
		mkdir 0 /- => error 9
		mkdir 0 /9 => ok
		mkdir 0 - => error 9
		open 0 1 1 /a/f => 0
		write 0 0 616263 => 3
		names 0 / => 9 a b
		names 0 /b => -
		names 0 /a => f
		names 0 /c => error 2
		names 0 /a/f => error 11
		link 0 /a/f /g => ok
		link 0 /a /h => error 11
		link 0 /a/f /b => error 3
		move 0 /a/f /b/f => ok
		move 0 /b /b/x => error 5
		node 0 /g => 1 2 1 3
		node 0 /b => 2 1 0 1
		node 0 /x => error 2
		remove 0 /b => error 5
		remove 0 /g => ok
		remove 0 /g => error 2
		remove 0 /9 => ok
		bind 0 /a /b => ok
		bind 0 /a /b => error 3
		bind 0 /b /b => error 8
		names 0 /a => f
		unbind 0 /a => ok
		unbind 0 /a => error 2
		names 0 /a => -
		plant => 1
		plant => 2
		pivot 0 3 => error 2
		pivot 0 4 => error 1
		pivot 0 1 => ok
		names 0 / => -
		fork 0 0 => 2
		pivot 1 2 => error 8
		plant => 3
		plant => error 4
		counts => 7 0 1
	`)
}

// N1, N2: each error is told by its number.
func TestNumbersOfErrors(t *testing.T) {
	play(t, `
		self 20 => error 1
		self 1 => error 2
		mkdir 0 /a => ok
		mkdir 0 /a => error 3
		plant => 1
		plant => 2
		plant => 3
		plant => error 4
		drop 0 => error 5
		limit 0 1 -1 => ok
		fork 0 0 => error 6
		add 0 1 => 1
		add 1 1 => 2
		add 2 1 => 3
		add 3 1 => error 7
		exit 0 0 => error 8
		mkdir 0 // => error 9
		load 0 0 => error 10
		open 0 0 0 /a => error 11
		pipe 0 => 0 1
		read 0 0 1 => error 13
		hold 0 2 1 => ok
		close 0 0 => ok
		write 0 1 61 => error 12
	`)
}
