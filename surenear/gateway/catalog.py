"""The catalog: what all deeds of a gateway have made, in order."""

from surenear.ledger.ledger import Ledger


class Catalog:
    """A ledger, the names of its segments, closed names, and routes.

    Its lists are not changed; each change makes new ones.
    """

    def __init__(self, schema, key, shard):
        self.ledger = Ledger(schema, key)
        # Of each segment its number, its shard and its name, in the order of the segments.
        self.titles = []
        self.closed = []
        # Each is the first string of names and their shard, in the order of the strings.
        self.routes = [("", shard)]
        self.begins = 0

    def apply(self, deed):
        """Do a deed, and return its outcome."""
        outcome = self.outcome_of(deed)
        self.close_lost()
        return outcome

    def outcome_of(self, deed):
        """Do what a deed itself says, and return its outcome."""
        kind = deed[0]
        if kind == "put":
            return self.ledger.put(deed[1])
        if kind == "drop":
            return self.ledger.drop(deed[1])
        if kind == "pin":
            return self.ledger.pin()
        if kind == "unpin":
            return self.unpin(deed[1])
        if kind == "lift":
            return self.ledger.lift(deed[1])
        if kind == "own":
            return self.own(deed[1], deed[2], deed[3], deed[4])
        if kind == "route":
            return self.route(deed[1], deed[2])
        if kind == "begin":
            self.begins += 1
            return self.begins
        if kind == "close":
            self.close(deed[1], deed[2])
        else:
            self.closed = [pair for pair in self.closed if pair != (deed[1], deed[2])]
        return None

    def unpin(self, moment):
        """Take a pin of a moment away, if it has one; return the moment."""
        if moment in self.ledger.pins:
            self.ledger.unpin(moment)
        return moment

    def own(self, shard, name, partitions, homes):
        """Let a new segment own those notes of the homes that turn to its name; return its number."""
        turning = {note.number: True for note in self.ledger.notes if self.turns(shard, name, note)}
        number = self.ledger.own(shard, partitions, [(home, leaves) for home, leaves in homes if home in turning])
        self.titles = self.titles + [(number, shard, name)]
        return number

    def route(self, low, shard):
        """Let the names from a string on belong to a shard; return the shard."""
        others = [pair for pair in self.routes if pair[0] != low]
        self.routes = sorted(others + [(low, shard)], key=lambda pair: pair[0])
        return shard

    def close(self, shard, name):
        """Close a name, unless it is closed."""
        if (shard, name) not in self.closed:
            self.closed = self.closed + [(shard, name)]

    def close_lost(self):
        """Close the names of the segments that went from the ledger."""
        there = {segment.number: True for segment in self.ledger.segments}
        for number, shard, name in self.titles:
            if number not in there:
                self.close(shard, name)
        self.titles = [title for title in self.titles if title[0] in there]

    def twin(self):
        """Return another catalog with equal fields."""
        other = Catalog(self.ledger.schema, self.ledger.key, 0)
        other.ledger = self.ledger.twin()
        other.titles = list(self.titles)
        other.closed = list(self.closed)
        other.routes = list(self.routes)
        other.begins = self.begins
        return other

    def shard_of(self, name):
        """Return the shard to which a record's name belongs."""
        # The first route begins at the empty string, which is after no name.
        return [shard for low, shard in self.routes if low <= name][-1]

    def title_of(self, segment):
        """Return the shard and the name of a segment's number, None if there is no such segment."""
        for number, shard, name in self.titles:
            if number == segment:
                return (shard, name)
        return None

    def segment_named(self, shard, name):
        """Return the number of the segment with a name, None if there is none."""
        for title in self.titles:
            if title[1:] == (shard, name):
                return title[0]
        return None

    def turns(self, shard, name, note):
        """Return whether a note turns to the name of a shard's segment."""
        if note.segment is not None:
            owner, owner_name = self.title_of(note.segment)
            if owner == shard:
                return owner_name < name
        return self.shard_of(note.name) == shard


def news_of(before, after, deed):
    """Return what is said to shards of a deed, by the catalogs before and after it."""
    news = []
    if deed[0] == "put":
        news.append((after.shard_of(deed[1].name), ("record", after.ledger.now, deed[1])))
    named = {number: True for number, _, _ in before.titles}
    news.extend([(shard, ("owner", name, number)) for number, shard, name in after.titles if number not in named])
    if after.ledger.now > before.ledger.now:
        news.extend(news_of_death(before, after, deed))
    news.extend([(shard, ("release", name)) for shard, name in after.closed if (shard, name) not in before.closed])
    return news


def news_of_death(before, after, deed):
    """Return what is said of the note that a write ended."""
    note = before.ledger.note_of(deed[1].name if deed[0] == "put" else deed[1])
    if note is None or note.segment is None:
        return []
    shard, _ = before.title_of(note.segment)
    return [(shard, ("dead", note.number, after.ledger.now))]
