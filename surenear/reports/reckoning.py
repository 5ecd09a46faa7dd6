"""What the ledger makes of reports: it believes only what its own notes and facts tell."""

from surenear.errors import NoSuchMoment
from surenear.regions.region import facts_at, tops, way_up
from surenear.search.answers import answer_of
from surenear.search.report import ReportPart


def part_fits(ledger, moment, part):
    """Return whether a part of a report accounts for all records of its segment at a moment."""
    segment = ledger.segment_of(part.segment)
    if segment is None or not 0 <= part.partition < len(segment.partitions):
        return False
    regions = segment.partitions[part.partition]
    if not are_apart(regions, part.left):
        return False
    notes = [note for note in ledger.owned_by(segment.number) if note.lives_at(moment)]
    read = [note for note in notes if place_around(regions, part, note) is None]
    told = pairs_told(part)
    return all([record_told(ledger.key, told, note) is not None for note in read])


def are_apart(regions, left):
    """Return whether places are regions, each stands once, and none lies in another one."""
    if not all([0 <= place < len(regions) for place in left]) or len(set(left)) < len(left):
        return False
    for place in left:
        # The way begins with the region itself.
        if any([around in left for around in way_up(regions, place)[1:]]):
            return False
    return True


def place_around(regions, part, note):
    """Return the place of the region of a part in which a note lies, None if it lies in none."""
    for place in way_up(regions, note.leaves[part.partition]):
        if place in part.left:
            return place
    return None


def pairs_told(part):
    """Return the records that a part tells: of each number a list, in the order of the part."""
    told = {}
    for number, record in zip(part.numbers, part.records):
        told.setdefault(number, []).append(record)
    return told


def record_told(key, told, note):
    """Return the first one of the records told that matches a note, None if none does."""
    for record in told.get(note.number, []):
        if note.matches(key, note.number, record):
            return record
    return None


def is_possible(ledger, moment, report):
    """Return whether a report accounts for all records of all segments at a kept moment."""
    if not ledger.keeps(moment) or not all([part_fits(ledger, moment, part) for part in report]):
        return False
    return len(set([part.segment for part in report])) == len(report)


def reckon(ledger, question, moment, report):
    """Return the answer to a question from a report, None if the report is not possible."""
    if not ledger.keeps(moment):
        raise NoSuchMoment("the moment is not kept")
    if not is_possible(ledger, moment, report):
        return None
    parts = {part.segment: part for part in report}
    pairs = []
    left = []
    for segment in ledger.segments:
        part = parts[segment.number] if segment.number in parts else silent_part(segment)
        read, places = split_notes(ledger, moment, segment, part)
        pairs.extend(read)
        left.extend([facts_at(segment.partitions[part.partition], place) for place in places])
    pairs.extend([(note.number, note.record) for note in ledger.fresh() if note.lives_at(moment)])
    return answer_of(question, pairs, left)


def silent_part(segment):
    """Return what is known of a segment that no part names."""
    return ReportPart(segment.number, 0, tops(segment.partitions[0]), (), ())


def split_notes(ledger, moment, segment, part):
    """Return the numbered records that were read of a segment, and the regions in which the others lie."""
    regions = segment.partitions[part.partition]
    told = pairs_told(part)
    pairs = []
    filled = {}
    for note in ledger.owned_by(segment.number):
        if note.lives_at(moment):
            place = place_around(regions, part, note)
            if place is None:
                pairs.append((note.number, record_told(ledger.key, told, note)))
            else:
                filled[place] = True
    return (pairs, [place for place in part.left if place in filled])
