"""Segments that a store holds or makes."""

from surenear.search.search import Source
from surenear.stores.segments import pieces_of


class Held:
    """A segment: its name, its offer, and the number under which the gateway keeps it."""

    def __init__(self, name, offer):
        self.name = name
        self.offer = offer
        # What the gateway has told since the store began.
        self.owner = None
        self.numbers = {number: True for number in offer.write_numbers}

    def has(self, number):
        """Return whether it has a record with a number."""
        return number in self.numbers

    def sealed(self):
        """Return the message that tells of it."""
        return ("sealed", self.name, pieces_of(self.offer), self.offer.partitions)

    def pairs_of(self, numbers):
        """Return the numbered records with these numbers, in the order of the entries."""
        return tuple([(entry.number, entry.record) for entry in self.offer.entries if entry.number in numbers])

    def source_at(self, partition, moment, deaths):
        """Return what a search looks at: what was written by a moment and is not known to have ended then."""
        place = partition if 0 <= partition < len(self.offer.partitions) else 0
        entries = [
            (entry.number, entry.record, entry.leaves[place]) for entry in self.offer.entries
            if entry.number <= moment and (entry.number not in deaths or deaths[entry.number] > moment)
        ]
        return Source(self.owner, place, self.offer.partitions[place], entries)
