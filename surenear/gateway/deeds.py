"""How deeds and catalogs are written as codes, and read."""

from surenear.codes.reading import NumberReader
from surenear.codes.writing import list_code, maybe_code, numbers_code, partition_code, record_code, string_code
from surenear.errors import InvalidCode
from surenear.gateway.catalog import Catalog
from surenear.ledger.ledger import Ledger
from surenear.ledger.note import Note, Segment

# The place of a deed here, from 1 on, is the number with which its code begins.
DEEDS = ("put", "drop", "pin", "unpin", "lift", "own", "close", "forget", "route", "begin")


def deed_code(deed):
    """Return the code of a deed."""
    kind = deed[0]
    number = [DEEDS.index(kind) + 1]
    if kind == "put":
        return number + record_code(deed[1])
    if kind == "drop":
        return number + string_code(deed[1])
    if kind in ("unpin", "lift"):
        return number + [deed[1]]
    if kind == "own":
        return number + title_code(deed[1], deed[2]) + partitions_code(deed[3]) + homes_code(deed[4])
    if kind in ("close", "forget"):
        return number + title_code(deed[1], deed[2])
    if kind == "route":
        return number + route_code(deed[1], deed[2])
    return number


def title_code(shard, name):
    """Return the code of a shard and the name of a segment."""
    return [shard, name[0], name[1]]


def route_code(low, shard):
    """Return the code of a route."""
    return string_code(low) + [shard]


def partitions_code(partitions):
    """Return the code of a list of partitions."""
    return list_code([partition_code(regions) for regions in partitions])


def homes_code(homes):
    """Return the code of a list of homes."""
    return list_code([[number] + numbers_code(leaves) for number, leaves in homes])


def catalog_code(catalog):
    """Return the code of a catalog."""
    ledger = catalog.ledger
    return (
        [catalog.begins]
        + list_code([route_code(low, shard) for low, shard in catalog.routes])
        + [ledger.now, ledger.floor]
        + numbers_code(ledger.pins)
        + [ledger.upcoming]
        + list_code([segment_code(catalog, segment) for segment in ledger.segments])
        + list_code([note_code(note) for note in ledger.notes])
        + list_code([title_code(shard, name) for shard, name in catalog.closed])
    )


def segment_code(catalog, segment):
    """Return the code of a segment and its name."""
    shard, name = catalog.title_of(segment.number)
    return [segment.number] + title_code(shard, name) + partitions_code(segment.partitions)


def note_code(note):
    """Return the code of a note."""
    record = None if note.record is None else record_code(note.record)
    return (
        string_code(note.name)
        + [note.number, note.mark[0], note.mark[1]]
        + number_or_none(note.died)
        + maybe_code(record)
        + number_or_none(note.segment)
        + numbers_code(note.leaves)
    )


def number_or_none(number):
    """Return the code of a number that may be missing."""
    return maybe_code(None if number is None else [number])


def read_deed(numbers):
    """Return the deed whose code a whole list is."""
    reader = NumberReader(numbers)
    deed = told_deed(reader)
    reader.finish()
    return deed


def told_deed(reader):
    """Read a deed."""
    place = reader.take() - 1
    if not 0 <= place < len(DEEDS):
        raise InvalidCode("there is no such deed")
    kind = DEEDS[place]
    if kind == "put":
        return (kind, reader.record())
    if kind == "drop":
        return (kind, reader.string())
    if kind in ("unpin", "lift"):
        return (kind, reader.take())
    if kind == "own":
        shard, name = told_title(reader)
        return (kind, shard, name, told_partitions(reader), told_homes(reader))
    if kind in ("close", "forget"):
        shard, name = told_title(reader)
        return (kind, shard, name)
    if kind == "route":
        low, shard = told_route(reader)
        return (kind, low, shard)
    return (kind,)


def told_title(reader):
    """Read a shard and the name of a segment."""
    shard = reader.take()
    return (shard, (reader.take(), reader.take()))


def told_route(reader):
    """Read a route."""
    return (reader.string(), reader.take())


def told_partitions(reader):
    """Read a list of partitions."""
    return tuple([tuple(reader.partition()) for _ in range(reader.size())])


def told_homes(reader):
    """Read a list of homes."""
    return tuple([(reader.take(), tuple(reader.integers())) for _ in range(reader.size())])


def told_number_or_none(reader):
    """Read a number that may be missing."""
    return reader.take() if reader.present() else None


def read_catalog(schema, key, numbers):
    """Return the catalog whose code a whole list is."""
    reader = NumberReader(numbers)
    catalog = Catalog(schema, key, 0)
    catalog.begins = reader.take()
    catalog.routes = [told_route(reader) for _ in range(reader.size())]
    ledger = Ledger(schema, key)
    ledger.now = reader.take()
    ledger.floor = reader.take()
    ledger.pins = reader.integers()
    ledger.upcoming = reader.take()
    segments = [told_segment(reader) for _ in range(reader.size())]
    ledger.segments = [segment for segment, _ in segments]
    ledger.notes = [told_note(reader) for _ in range(reader.size())]
    catalog.ledger = ledger
    catalog.titles = [(segment.number, segment.shard, name) for segment, name in segments]
    catalog.closed = [told_title(reader) for _ in range(reader.size())]
    reader.finish()
    return catalog


def told_segment(reader):
    """Read a segment and its name."""
    number = reader.take()
    shard, name = told_title(reader)
    return (Segment(number, shard, told_partitions(reader)), name)


def told_note(reader):
    """Read a note."""
    name = reader.string()
    number = reader.take()
    mark = (reader.take(), reader.take())
    died = told_number_or_none(reader)
    record = reader.record() if reader.present() else None
    segment = told_number_or_none(reader)
    return Note(name, number, mark, died=died, record=record, segment=segment, leaves=reader.integers())
