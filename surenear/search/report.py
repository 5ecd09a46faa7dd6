"""Reports of shards."""


class ReportPart:
    """What a report tells of a segment: regions that were left out, and records that were read."""

    def __init__(self, segment, partition, left, numbers, records):
        self.segment = segment
        self.partition = partition
        self.left = tuple(left)
        # Each number stands beside its record.
        self.numbers = tuple(numbers)
        self.records = tuple(records)

    def __eq__(self, other):
        return (
            isinstance(other, ReportPart)
            and self.segment == other.segment
            and self.partition == other.partition
            and self.left == other.left
            and self.numbers == other.numbers
            and self.records == other.records
        )
