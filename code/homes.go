package code

import (
	"iter"

	"facsimile/api"
)

// homes goes through the indexes and lines that have their home in an instruction with these Lines: those up to the first one that does not follow the line before it.
func homes(lines []int) iter.Seq2[int, int] {
	return func(yield func(k, line int) bool) {
		for k, line := range lines {
			if k > 0 && lines[k-1]+1 != line || !yield(k, line) {
				return
			}
		}
	}
}

// lastHome returns the last line that has its home in an instruction with these Lines.
func lastHome(lines []int) int {
	last := none
	for _, line := range homes(lines) {
		last = line
	}
	return last
}

// endOf returns the line that is the end of a function with these instructions.
func endOf(instructions []api.Instr) int {
	end := 0
	for _, ins := range instructions {
		for _, line := range ins.Lines {
			end = max(end, line+1)
		}
	}
	return end
}
