package play

import "flotilla/api"

// name is something of a step that its line can name.
type name int

const (
	inst name = iota
	sess
	from
	number
	key
	value
)

// shape is how a kind's line looks: its word, and what it names behind it.
type shape struct {
	word  string
	names []name
}

// stepShapes has the lines' shapes, by their kinds.
func stepShapes() [api.StepCount]shape {
	return [api.StepCount]shape{
		api.StepBegin:   {"begin", []name{inst, sess}},
		api.StepGet:     {"get", []name{inst, sess, key}},
		api.StepPut:     {"put", []name{inst, sess, key, value}},
		api.StepInsert:  {"insert", []name{inst, sess, key, value}},
		api.StepDelete:  {"delete", []name{inst, sess, key}},
		api.StepScan:    {"scan", []name{inst, sess, key, value}},
		api.StepSave:    {"save", []name{inst, sess}},
		api.StepBack:    {"back", []name{inst, sess, number}},
		api.StepAbort:   {"abort", []name{inst, sess}},
		api.StepCommit:  {"commit", []name{inst, sess}},
		api.StepCheck:   {"check", []name{inst}},
		api.StepPick:    {"pick", []name{inst}},
		api.StepDeliver: {"deliver", []name{from, inst}},
		api.StepCrash:   {"crash", []name{inst, number}},
		api.StepRestart: {"restart", []name{inst, from}},
		api.StepRecover: {"recover", []name{inst, number, from}},
		api.StepClean:   {"clean", []name{inst, number}},
	}
}

// field is where a step has what a name means: a number, or a text.
func (n name) field(s *api.Step) (*int, *string) {
	switch n {
	case inst:
		return &s.Inst, nil
	case sess:
		return &s.Sess, nil
	case from:
		return &s.From, nil
	case number:
		return &s.N, nil
	case key:
		return nil, &s.Key
	}
	return nil, &s.Value
}

// take is the word of what a name means, which is zero in the step then.
func (n name) take(s *api.Step) (string, bool) {
	num, text := n.field(s)
	if text != nil {
		w := textWord(*text)
		*text = ""
		return w, true
	}
	w, ok := numberWord(*num)
	*num = 0
	return w, ok
}

// read has a step's part from its word.
func (n name) read(s *api.Step, w string) bool {
	num, text := n.field(s)
	ok := false
	if text != nil {
		*text, ok = readText(w)
	} else {
		*num, ok = readNumber(w)
	}
	return ok
}

// stepLine is a step's line, and whether it has one: what is left when all that it names is taken must be nothing.
func stepLine(shapes [api.StepCount]shape, s api.Step) (string, bool) {
	if s.Kind <= api.StepNone || s.Kind >= api.StepCount {
		return "", false
	}
	line, good := shapes[s.Kind].word, true
	for _, n := range shapes[s.Kind].names {
		w, ok := n.take(&s)
		line += " " + w
		good = good && ok
	}
	return line, good && s == api.Step{Kind: s.Kind}
}

// readStep is the step that a line's words tell.
func readStep(shapes [api.StepCount]shape, words []string) (api.Step, bool) {
	for k := api.StepNone + 1; k < api.StepCount; k++ {
		names := shapes[k].names
		if shapes[k].word != words[0] || len(names) != len(words)-1 {
			continue
		}
		s := api.Step{Kind: k}
		for i, n := range names {
			if !n.read(&s, words[1+i]) {
				return api.Step{}, false
			}
		}
		return s, true
	}
	return api.Step{}, false
}
