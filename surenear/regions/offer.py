"""Offers: what shards tell of their segments."""

from surenear.regions.region import is_partition, lies_in


class Entry:
    """The number of a write, a record, and the place of its leaf in each partition."""

    def __init__(self, number, record, leaves):
        self.number = number
        self.record = record
        self.leaves = tuple(leaves)

    def __eq__(self, other):
        return (
            isinstance(other, Entry)
            and self.number == other.number
            and self.record == other.record
            and self.leaves == other.leaves
        )


class Offer:
    """Partitions and entries."""

    def __init__(self, partitions, entries):
        self.partitions = tuple([tuple(regions) for regions in partitions])
        self.entries = tuple(entries)

    @property
    def sound(self):
        """Whether there are partitions, and each entry has a leaf in each of them and its own number."""
        if self.partitions == () or not all([is_partition(regions) for regions in self.partitions]):
            return False
        if len(set(self.write_numbers)) < len(self.entries):
            return False
        return all([has_leaves_in(entry, self.partitions) for entry in self.entries])

    @property
    def write_numbers(self):
        """The numbers of the entries, in their order."""
        return [entry.number for entry in self.entries]

    def below(self, k, place):
        """Return the records that lie below a region of partition k, in the order of the entries."""
        regions = self.partitions[k]
        return [entry.record for entry in self.entries if lies_in(regions, entry.leaves[k], place)]

    def __eq__(self, other):
        return isinstance(other, Offer) and self.partitions == other.partitions and self.entries == other.entries


def has_leaves_in(entry, partitions):
    """Return whether an entry has as many leaves as there are partitions, each a region there."""
    if len(entry.leaves) != len(partitions):
        return False
    return all([0 <= leaf < len(regions) for leaf, regions in zip(entry.leaves, partitions)])
