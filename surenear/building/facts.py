"""The facts of regions, computed from the records below them."""

from surenear.basics.numbers import differing, distance, norm
from surenear.facts.contents import Counts, Names, Range, Values
from surenear.facts.vectors import Box, Cell, Differ, Norms, Part, Parts

# With more words or values there is no fact about them.
MOST_WORDS = 64
MOST_VALUES = 16


def facts_of(schema, kinds, sketch, records):
    """Return the facts of a region with a sketch and with these records below it."""
    if len(records) == 0:
        return []
    vectors = [record.vector for record in records]
    facts = parts_facts(schema, sketch, vectors) + differ_facts(schema, sketch, vectors) + cell_facts(sketch, records)
    for kind in kinds:
        facts.extend(facts_of_kind(schema, kind, records))
    return facts


def parts_facts(schema, sketch, vectors):
    """Return the fact Parts about the centres that end within vectors, or nothing."""
    parts = [
        Part(start, centre, greatest_distance(start, centre, vectors))
        for start, centre in sketch.centres
        if start + len(centre) <= schema.size
    ]
    return [] if parts == [] else [Parts(parts)]


def greatest_distance(start, centre, vectors):
    """Return the greatest distance of a centre from the numbers of vectors at its places."""
    end = start + len(centre)
    return max([distance(centre, vector[start:end]) for vector in vectors])


def differ_facts(schema, sketch, vectors):
    """Return the facts Differ about the centres that are whole vectors, where bits are measured."""
    if schema.measure != "bits":
        return []
    return [
        Differ(centre, max([differing(centre, vector) for vector in vectors]))
        for start, centre in sketch.centres
        if start == 0 and len(centre) == schema.size
    ]


def cell_facts(sketch, records):
    """Return the facts Cell about the cells that hold for all records."""
    cells = [Cell(near, rival) for near, rival in sketch.cells]
    return [cell for cell in cells if all([cell.holds(record) for record in records])]


def facts_of_kind(schema, kind, records):
    """Return the facts of one of the kinds that are asked for."""
    if kind == "box":
        return [box_of([record.vector for record in records])]
    if kind == "norms":
        norms = [norm(record.vector) for record in records]
        return [Norms(min(norms), max(norms))]
    if kind == "names":
        names = [record.name for record in records]
        return [Names(min(names), max(names))]
    if kind == "words":
        return counts_facts(records)
    return [fact for name, held in schema.fields for fact in field_facts(name, held, records)]


def box_of(vectors):
    """Return the fact Box with the least and the greatest number at each place."""
    columns = list(zip(*vectors))
    return Box([min(column) for column in columns], [max(column) for column in columns])


def counts_facts(records):
    """Return the fact Counts about all words, or nothing if there are too many."""
    counts = {}
    for record in records:
        for word, count in record.words:
            counts[word] = max(count, counts.get(word, count))
    if len(counts) > MOST_WORDS:
        return []
    return [Counts(list(counts.items()))]


def field_facts(name, kind, records):
    """Return the fact about a field of a kind, or nothing if it has too many values."""
    values = [record.value(name) for record in records]
    present = [worth for worth in values if worth is not None]
    lack = lack_of(values)
    if kind == "integer":
        return [Range(name, min(present, default=0), max(present, default=0), lack=lack)]
    # The keys of a dict stay in the order in which they first occur.
    choices = list({worth: True for worth in present})
    if len(choices) > MOST_VALUES:
        return []
    return [Values(name, choices, lack=lack)]


def lack_of(values):
    """Return whether all, some or no values are missing."""
    missing = [worth is None for worth in values]
    if all(missing):
        return "all"
    return "some" if any(missing) else "nobody"
