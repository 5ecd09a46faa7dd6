"""Notes and segments: what the ledger keeps of writes, and of what shards have made of them."""

from surenear.records.marks import mark_of


class Note:
    """What is kept of a put: its name, its number and its mark, when it ended, and where its record is."""

    def __init__(self, name, number, mark, *, died=None, record=None, segment=None, leaves=()):
        self.name = name
        self.number = number
        self.mark = tuple(mark)
        # The number of the write that ended it.
        self.died = died
        self.record = record
        self.segment = segment
        self.leaves = tuple(leaves)

    def lives_at(self, moment):
        """Return whether its record exists at a moment."""
        return self.number <= moment and (self.died is None or moment < self.died)

    def matches(self, key, number, record):
        """Return whether a record that is told with a number is the one that was written."""
        # The mark takes longest, so it is looked at last.
        return number == self.number and record.name == self.name and mark_of(key, number, record) == self.mark

    def ended(self, number):
        """Return this note, ended by the write with a number."""
        return Note(
            self.name, self.number, self.mark,
            died=number, record=self.record, segment=self.segment, leaves=self.leaves,
        )

    def moved(self, segment, leaves):
        """Return this note, owned by a segment."""
        return Note(self.name, self.number, self.mark, died=self.died, segment=segment, leaves=leaves)

    def __eq__(self, other):
        return (
            isinstance(other, Note)
            and self.name == other.name
            and self.number == other.number
            and self.mark == other.mark
            and self.died == other.died
            and self.record == other.record
            and self.segment == other.segment
            and self.leaves == other.leaves
        )


class Segment:
    """What is kept of a segment: its number, its shard, and its partitions."""

    def __init__(self, number, shard, partitions):
        self.number = number
        self.shard = shard
        self.partitions = tuple([tuple(regions) for regions in partitions])

    def __eq__(self, other):
        return (
            isinstance(other, Segment)
            and self.number == other.number
            and self.shard == other.shard
            and self.partitions == other.partitions
        )
