"""The ledger: which records exist at which moments, and which segments own them."""

from surenear.errors import NotPinned
from surenear.ledger.note import Note, Segment
from surenear.records.marks import check_key, mark_of
from surenear.regions.region import facts_at


class Ledger:
    """Numbered writes, the moments that are kept, and the notes and segments that they need.

    Its lists are not changed; each change makes new ones.
    """

    def __init__(self, schema, key):
        check_key(key)
        self.schema = schema
        self.key = tuple(key)
        self.now = 0
        self.floor = 0
        self.pins = []
        self.notes = []
        self.segments = []
        # The number of the next segment.
        self.upcoming = 1

    def put(self, record):
        """Write a record; return the number of the write."""
        self.schema.check(record)
        self.end_note(record.name, self.now + 1)
        self.now += 1
        self.notes = self.notes + [Note(record.name, self.now, mark_of(self.key, self.now, record), record=record)]
        return self.now

    def drop(self, name):
        """Remove what a name has; return the number of the write, None if the name has nothing."""
        if self.note_of(name) is None:
            return None
        self.end_note(name, self.now + 1)
        self.now += 1
        return self.now

    def end_note(self, name, number):
        """End the note that a name has now, if it has one, by the write with a number."""
        # It existed at the moment before this write, which is kept, so it is still needed.
        self.notes = [note.ended(number) if is_current(note, name) else note for note in self.notes]

    def pin(self):
        """Pin now, and return it."""
        self.pins = self.pins + [self.now]
        return self.now

    def unpin(self, moment):
        """Take the first pin of a moment away."""
        if moment not in self.pins:
            raise NotPinned("the moment is not pinned")
        at = self.pins.index(moment)
        self.pins = self.pins[:at] + self.pins[at + 1:]
        self.sweep()

    def lift(self, moment):
        """Raise the floor to a moment, at most to now; return the floor."""
        self.floor = max(self.floor, min(moment, self.now))
        self.sweep()
        return self.floor

    def keeps(self, moment):
        """Return whether a moment is kept."""
        return moment in self.pins or self.floor <= moment <= self.now

    def needs(self, note):
        """Return whether the record of a note exists at a kept moment."""
        # From the floor on all moments are kept, so a note is needed if it lives there at all.
        if note.died is None or note.died > self.floor:
            return True
        return any([note.lives_at(moment) for moment in self.pins])

    def sweep(self):
        """Let the notes go that no kept moment needs, and the segments that own no note."""
        self.notes = [note for note in self.notes if self.needs(note)]
        owners = {note.segment: True for note in self.notes}
        self.segments = [segment for segment in self.segments if segment.number in owners]

    def would_take(self, offer):
        """Return whether an audit would not refuse an offer."""
        if not offer.sound:
            return False
        return all([facts_hold(offer.partitions, entry) for entry in self.matched(offer)])

    def matched(self, offer):
        """Return the entries of an offer whose records match a note."""
        known = {note.number: note for note in self.notes}
        return [
            entry for entry in offer.entries
            if entry.number in known and known[entry.number].matches(self.key, entry.number, entry.record)
        ]

    def audit(self, shard, offer):
        """Take the offer of a shard; return the number of the segment, None if the offer is refused."""
        if not self.would_take(offer):
            return None
        homes = [(entry.number, entry.leaves) for entry in self.matched(offer)]
        return self.own(shard, offer.partitions, homes)

    def own(self, shard, partitions, homes):
        """Let a new segment own the notes with the numbers of the homes; return its number."""
        number = self.upcoming
        leaves = {home: places for home, places in homes}
        self.upcoming += 1
        self.segments = self.segments + [Segment(number, shard, partitions)]
        self.notes = [
            note.moved(number, leaves[note.number]) if note.number in leaves else note for note in self.notes
        ]
        self.sweep()
        return number

    def live(self, moment):
        """Return the notes of the records that exist at a moment, in order."""
        return [note for note in self.notes if note.lives_at(moment)]

    def note_of(self, name):
        """Return the note of the record that a name has now, None if it has nothing."""
        for note in self.notes:
            if is_current(note, name):
                return note
        return None

    def segment_of(self, number):
        """Return the segment with a number, None if there is none."""
        for segment in self.segments:
            if segment.number == number:
                return segment
        return None

    def owned_by(self, number):
        """Return the notes that a segment owns, in order."""
        return [note for note in self.notes if note.segment == number]

    def fresh(self):
        """Return the fresh notes, in order."""
        return [note for note in self.notes if note.segment is None]

    def twin(self):
        """Return another ledger with equal fields."""
        other = Ledger(self.schema, self.key)
        other.now = self.now
        other.floor = self.floor
        other.pins = list(self.pins)
        other.notes = list(self.notes)
        other.segments = list(self.segments)
        other.upcoming = self.upcoming
        return other


def is_current(note, name):
    """Return whether a note is the one that a name has now."""
    return note.died is None and note.name == name


def facts_hold(partitions, entry):
    """Return whether all facts at the leaves of an entry hold for its record."""
    for regions, leaf in zip(partitions, entry.leaves):
        if not all([fact.holds(entry.record) for fact in facts_at(regions, leaf)]):
            return False
    return True
