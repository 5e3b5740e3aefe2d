package play

import (
	"strings"

	"flotilla/api"
)

// script is what has been read of one so far.
type script struct {
	shapes [api.StepCount]shape
	config api.Config
	steps  []api.Step
}

// read reads line by line up to the first that is none: its number, and its error.
func (p *script) read(s string) (int, api.Errno) {
	start, n := 0, 0
lines:
	for start < len(s) {
		if n > api.MaxList {
			return n, api.ErrLong
		}
		for i := start; i < len(s); i++ {
			if s[i] != '\n' {
				continue
			}
			if !p.line(n, s[start:i]) {
				return n, api.ErrForm
			}
			start, n = i+1, n+1
			continue lines
		}
		return n, api.ErrForm // a last line without its end
	}
	if n == 0 {
		return 0, api.ErrForm
	}
	return 0, api.OK
}

// line reads one line: the first one is the fleet's, each other one a step's.
func (p *script) line(n int, line string) bool {
	words := strings.Split(line, " ")
	ok := false
	if n == 0 {
		p.config, ok = readConfig(words)
		return ok
	}
	s, ok := readStep(p.shapes, words)
	p.steps = append(p.steps, s)
	return ok
}

// configLine is the first line of a config's script, and whether it has one.
func configLine(c api.Config) (string, bool) {
	line, good := "fleet", true
	for _, n := range []int{c.Insts, c.Pages, c.Frames, c.Log} {
		w, ok := numberWord(n)
		line += " " + w
		good = good && ok
	}
	if len(c.Fast) > 0 {
		line += " " + fastWord(c.Fast)
	}
	return line, good
}

// readConfig is the config that the words of a first line tell.
func readConfig(words []string) (api.Config, bool) {
	if len(words) < 5 || len(words) > 6 || words[0] != "fleet" {
		return api.Config{}, false
	}
	var c api.Config
	for i, to := range []*int{&c.Insts, &c.Pages, &c.Frames, &c.Log} {
		n, ok := readNumber(words[1+i])
		if !ok {
			return api.Config{}, false
		}
		*to = n
	}
	if len(words) == 6 {
		fast, ok := readFast(words[5])
		if !ok {
			return api.Config{}, false
		}
		c.Fast = fast
	}
	return c, true
}
