package seq

import (
	"bytes"
	"slices"

	"seneschal/api"
	"seneschal/round"
	"seneschal/wire"
)

// goOn goes from slot to slot as long as the current one is decided, and answers what was sent ahead of it and what it sends.
func (s *Seq) goOn(sent []api.Msg) []api.Msg {
	for {
		value, votes, ok := s.round.Decided()
		if !ok {
			return sent
		}
		s.log = append(s.log, value)
		s.proofs = append(s.proofs, votes)
		s.pending = slices.DeleteFunc(s.pending, func(b []byte) bool { return bytes.Equal(b, value) })
		sent = append(sent, s.begin()...)
	}
}

// begin is the first that happens in a slot that has become the current one.
func (s *Seq) begin() []api.Msg {
	s.round = nil
	if s.current() < api.MaxSlots {
		s.round = round.New(s.ring, s.me, s.current())
	}
	var sent []api.Msg
	if len(s.pending) > 0 {
		sent = s.round.Want(s.pending[0])
	}
	return append(sent, s.takeStored()...)
}

// store keeps a message for its slot, if there is room. Nothing is asked of it: its Round will.
func (s *Seq) store(m api.Msg) {
	if s.stored.Len() >= api.MaxStored {
		return
	}
	m.Value, m.Votes = bytes.Clone(m.Value), slices.Clone(m.Votes)
	s.stored.Set(s.came, m)
	s.came++
}

// takeStored hands the Round what was stored for its slot, and forgets that: of slots below nothing is stored any more.
func (s *Seq) takeStored() []api.Msg {
	var sent []api.Msg
	for at, m := range s.stored.All() {
		if m.Slot == s.current() {
			s.stored.Del(at)
			sent = append(sent, s.round.Take(m)...)
		}
	}
	return sent
}

// tellLate answers who is still in a slot that is decided with what was decided there.
func (s *Seq) tellLate(m api.Msg) []api.Msg {
	asks := m.Kind == api.MsgPropose || m.Kind == api.MsgStatus
	if !asks || m.From == s.me || !s.ring.Check(m.From, wire.Body(m), m.Tag) {
		return nil
	}
	d := api.Msg{
		Kind:  api.MsgDecide,
		From:  s.me,
		To:    m.From,
		Slot:  m.Slot,
		Value: bytes.Clone(s.log[m.Slot]),
		Votes: slices.Clone(s.proofs[m.Slot]),
	}
	d.Tag = s.ring.Seal(s.me, wire.Body(d))
	return []api.Msg{d}
}
