package policy

import (
	"slices"

	"steward/api"
	"steward/choice"
	"steward/maglev"
	"steward/rotor"
)

// counting returns the members that count, with limited weights: the first one of each name, as far as there may be backends.
func counting(l []Member) []Member {
	seen := map[string]struct{}{}
	var first []Member
	for _, m := range l {
		if len(first) == api.MaxBackends {
			break
		}
		if _, is := seen[m.Name]; is {
			continue
		}
		seen[m.Name] = struct{}{}
		m.Weight = min(max(m.Weight, 1), api.MaxWeight)
		first = append(first, m)
	}
	return first
}

// untried returns the eligible ones of the members.
func untried(members []Member, tried []string) []Member {
	names := make(map[string]struct{}, len(tried))
	for _, name := range tried {
		names[name] = struct{}{}
	}
	var eligible []Member
	for _, m := range members {
		if _, is := names[m.Name]; !is && m.Busy < m.Cap {
			eligible = append(eligible, m)
		}
	}
	return eligible
}

func has(members []Member, name string) bool {
	return slices.ContainsFunc(members, func(m Member) bool { return m.Name == name })
}

// shares returns the members as they take turns.
func shares(members []Member) []rotor.Entry {
	l := make([]rotor.Entry, len(members))
	for i, m := range members {
		l[i] = rotor.Entry{Name: m.Name, Weight: m.Weight}
	}
	return l
}

// candidates returns the members as they are compared by their loads.
func candidates(members []Member) []choice.Candidate {
	l := make([]choice.Candidate, len(members))
	for i, m := range members {
		l[i] = choice.Candidate{Name: m.Name, Weight: m.Weight, Busy: m.Busy, Time: m.Time}
	}
	return l
}

// entriesOf returns the members as a table or a ring is built of them.
func entriesOf(members []Member) []maglev.Entry {
	l := make([]maglev.Entry, len(members))
	for i, m := range members {
		l[i] = maglev.Entry{Name: m.Name, Weight: m.Weight}
	}
	return l
}
