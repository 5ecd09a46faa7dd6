"""Rules: the ways in which shards group their records."""

from surenear.basics.numbers import distance
from surenear.building.layouts import Layout, Sketch, block_layout
from surenear.building.training import nearest, train
from surenear.errors import InvalidRule


class Blocks:
    """Records in their order, in blocks of a size."""

    def __init__(self, size):
        check_least(1, size)
        self.size = size

    def layout(self, schema, records):
        """Return the layout of the records."""
        return block_layout(list(range(len(records))), self.size)


class SortedBlocks:
    """Records by the value of a field, in blocks of a size; those that lack it come last."""

    def __init__(self, field, size):
        check_least(1, size)
        self.field = field
        self.size = size

    def layout(self, schema, records):
        """Return the layout of the records."""
        values = [record.value(self.field) for record in records]
        having = [place for place, worth in enumerate(values) if worth is not None]
        lacking = [place for place, worth in enumerate(values) if worth is None]
        return block_layout(sorted(having, key=lambda place: values[place]) + lacking, self.size)


class Lists:
    """Records at the nearest one of trained centres, in blocks of a size below it."""

    def __init__(self, centres, *, rounds=0, cells=0, size=1):
        check_least(1, size)
        check_least(1, centres)
        check_least(0, rounds)
        check_least(0, cells)
        self.centres = centres
        self.rounds = rounds
        self.cells = cells
        self.size = size

    def layout(self, schema, records):
        """Return the layout of the records: first the centres, then the blocks below them."""
        vectors = [record.vector for record in records]
        centres = train(vectors, self.centres, self.rounds)
        sketches = [
            Sketch(None, centres=[(0, centre)], cells=cells_of(centres, place, self.cells))
            for place, centre in enumerate(centres)
        ]
        owners = [nearest(centres, vector) for vector in vectors]
        leaves = [0] * len(records)
        for centre in range(len(centres)):
            taken = [place for place, owner in enumerate(owners) if owner == centre]
            for turn, place in enumerate(taken):
                if turn % self.size == 0:
                    sketches.append(Sketch(centre))
                leaves[place] = len(sketches) - 1
        return Layout(sketches, leaves)


class Codes:
    """Records with the same row of codes: the nearest centres of each part of their vectors."""

    def __init__(self, parts, *, centres, rounds=0):
        check_least(1, parts)
        check_least(1, centres)
        check_least(0, rounds)
        self.parts = parts
        self.centres = centres
        self.rounds = rounds

    def layout(self, schema, records):
        """Return the layout of the records: a region for each different row of codes."""
        starts = [turn * schema.size // self.parts for turn in range(self.parts)]
        ends = starts[1:] + [schema.size]
        columns = [self.codes_of(records, start, end) for start, end in zip(starts, ends)]
        rows = [[column[place] for column in columns] for place in range(len(records))]
        return row_layout(rows)

    def codes_of(self, records, start, end):
        """Return for each record its code of a part, with the start and the centre of this code."""
        numbers = [record.vector[start:end] for record in records]
        centres = train(numbers, self.centres, self.rounds)
        codes = [nearest(centres, vector) for vector in numbers]
        return [(code, start, centres[code]) for code in codes]


class Net:
    """Records around points in layers, each layer with a quarter of the radius of the one before."""

    def __init__(self, layers):
        check_least(0, layers)
        self.layers = layers

    def layout(self, schema, records):
        """Return the layout of the records."""
        vectors = [record.vector for record in records]
        if vectors == []:
            return Layout([], [])
        layout = Layout([Sketch(None, centres=[(0, vectors[0])])], [0] * len(vectors))
        radius = max([distance(vectors[0], vector) for vector in vectors])
        for _ in range(self.layers):
            radius = radius // 4
            layout = next_layer(layout, vectors, radius)
        return layout


def check_least(least, number):
    """Raise InvalidRule if a number is too small."""
    if number < least:
        raise InvalidRule("a number of the rule is too small")


def cells_of(centres, place, many):
    """Return the cells of a centre and each of some others, those that are nearest to it."""
    centre = centres[place]
    others = centres[:place] + centres[place + 1:]
    # The earlier one of two at the same distance stays before the other one.
    others = sorted(others, key=lambda other: distance(centre, other))
    return [(centre, other) for other in others[:many]]


def row_layout(rows):
    """Return the layout with a region for each different row of codes, starts and centres."""
    sketches = []
    leaves = []
    places = {}
    for row in rows:
        codes = tuple([code for code, _, _ in row])
        if codes not in places:
            places[codes] = len(sketches)
            sketches.append(Sketch(None, centres=[(start, centre) for _, start, centre in row]))
        leaves.append(places[codes])
    return Layout(sketches, leaves)


def next_layer(layout, vectors, radius):
    """Return a layout with one layer more, in which no record is farther than the radius from its point."""
    sketches = list(layout.sketches)
    found = []
    # For each region of the layer before the places of the points in it.
    points = {}
    for parent, vector in zip(layout.leaves, vectors):
        near = [place for place in points.get(parent, []) if distance(point_of(sketches[place]), vector) <= radius]
        if near == []:
            near = [len(sketches)]
            points.setdefault(parent, []).append(len(sketches))
            sketches.append(Sketch(parent, centres=[(0, vector)]))
        found.append(near[0])
    return Layout(sketches, found)


def point_of(sketch):
    """Return the point around which a region of a net lies."""
    _, point = sketch.centres[0]
    return point
