package cnf

import (
	"strconv"
	"strings"
)

// Text are clauses as a text.
func Text(atoms int, clauses [][]int) string {
	var b strings.Builder
	b.WriteString("p cnf " + strconv.Itoa(atoms) + " " + strconv.Itoa(len(clauses)) + "\n")
	for _, c := range clauses {
		for _, literal := range c {
			b.WriteString(strconv.Itoa(literal) + " ")
		}
		b.WriteString("0\n")
	}
	return b.String()
}

// Read are the clauses of a text.
func Read(text string) (int, [][]int, bool) {
	head, rest, ended := strings.Cut(text, "\n")
	atoms, count, ok := readHead(head)
	if !ended || !ok {
		return 0, nil, false
	}
	var clauses [][]int
	for rest != "" {
		var line string
		line, rest, ended = strings.Cut(rest, "\n")
		clause, ok := readClause(line, atoms)
		if !ended || !ok {
			return 0, nil, false
		}
		clauses = append(clauses, clause)
	}
	if len(clauses) != count {
		return 0, nil, false
	}
	return atoms, clauses, true
}

func readHead(line string) (atoms, count int, ok bool) {
	fields := strings.Split(line, " ")
	if len(fields) != 4 || fields[0] != "p" || fields[1] != "cnf" {
		return 0, 0, false
	}
	atoms, okAtoms := readNumber(fields[2])
	count, okCount := readNumber(fields[3])
	return atoms, count, okAtoms && okCount && atoms >= 0
}

func readClause(line string, atoms int) ([]int, bool) {
	body, ended := strings.CutSuffix(line, "0")
	if !ended {
		return nil, false
	}
	var clause []int
	for body != "" {
		field, rest, blank := strings.Cut(body, " ")
		literal, ok := readNumber(field)
		if !blank || !ok || literal == 0 || literal > atoms || literal < -atoms {
			return nil, false
		}
		clause = append(clause, literal)
		body = rest
	}
	return clause, true
}

// readNumber reads a number that is written as it would be.
func readNumber(text string) (int, bool) {
	n, err := strconv.Atoi(text)
	if err != nil || strconv.Itoa(n) != text {
		return 0, false
	}
	return n, true
}
