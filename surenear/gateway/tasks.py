"""What a gateway has under way with shards: readings of segments, and queries."""

from surenear.regions.offer import Offer
from surenear.reports.reckoning import part_fits, reckon


class Reading:
    """A reading of a shard's segment, piece by piece."""

    def __init__(self, shard, name, hearing, pieces, partitions):
        self.shard = shard
        self.name = name
        self.hearing = hearing
        self.pieces = pieces
        self.partitions = tuple([tuple(regions) for regions in partitions])
        # The place of the piece that was asked for last.
        self.next_index = 0
        self.entries = []

    def is_of(self, shard, name):
        """Return whether this is the reading of a name of a shard."""
        return self.shard == shard and self.name == name

    def asking(self):
        """Return what is said to get the next piece."""
        return (self.shard, ("read", self.name, self.hearing, self.next_index))

    def whole_offer(self):
        """Return the offer of all that was told."""
        return Offer(self.partitions, self.entries)


class OpenQuery:
    """A query that is under way, and the parts of reports that were taken for it."""

    def __init__(self, asked, moment, question):
        # The pair of the gateway's beginning and the number of the query.
        self.asked = asked
        self.moment = moment
        self.question = question
        self.taken = []

    def segments_taken(self):
        """Return the segments of the parts that were taken."""
        return [part.segment for part in self.taken]

    def take_parts(self, catalog, shard, report):
        """Take those parts of a shard's report that count."""
        for part in report:
            title = catalog.title_of(part.segment)
            if title is not None and title[0] == shard and part.segment not in self.segments_taken():
                if part_fits(catalog.ledger, self.moment, part):
                    self.taken.append(part)

    def answer_by(self, ledger):
        """Return the answer from the parts that still fit."""
        # Records may have moved to other segments since the parts were taken.
        parts = [part for part in self.taken if part_fits(ledger, self.moment, part)]
        return reckon(ledger, self.question, self.moment, parts)
