package shape

import (
	"strconv"
	"strings"
)

// Text returns all that the tree has, in lines.
func (t *Tree) Text() string {
	if t == nil || t.next == nil {
		return ""
	}
	roots := []string{"roots"}
	for _, root := range t.roots {
		roots = append(roots, strconv.Itoa(root))
	}
	var text strings.Builder
	for _, line := range append([][]string{roots}, t.lines()...) {
		text.WriteString(strings.Join(line, " "))
		text.WriteByte('\n')
	}
	return text.String()
}

// lines returns the parts of the lines of all shapes.
func (t *Tree) lines() [][]string {
	var lines [][]string
	for shape, l := range t.layouts {
		line := append([]string{strconv.Itoa(shape), strconv.Itoa(l.class)}, l.names...)
		if l.alias != none {
			line = append(line, "=", strconv.Itoa(l.alias))
		} else {
			line = append(line, ">")
		}
		lines = append(lines, line)
	}
	for step, to := range t.transitions() {
		lines[step.from] = append(lines[step.from], step.name+":"+strconv.Itoa(to))
	}
	return lines
}
