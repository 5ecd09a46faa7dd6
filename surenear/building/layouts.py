"""Layouts: how records are put into regions, before facts are known."""


class Sketch:
    """A region without facts: its parent, and the centres and cells of which facts will tell."""

    def __init__(self, parent, *, centres=(), cells=()):
        self.parent = parent
        self.centres = tuple([(start, tuple(centre)) for start, centre in centres])
        self.cells = tuple([(tuple(near), tuple(rival)) for near, rival in cells])


class Layout:
    """Sketches of regions, and for each record the place of its leaf."""

    def __init__(self, sketches, leaves):
        self.sketches = tuple(sketches)
        self.leaves = tuple(leaves)


def block_layout(order, size):
    """Return the layout of blocks of a size; order tells the places of the records in the blocks."""
    leaves = [0] * len(order)
    for turn, place in enumerate(order):
        leaves[place] = turn // size
    # The last block may be smaller: the number of blocks is rounded up.
    many = (len(order) + size - 1) // size
    return Layout([Sketch(None) for _ in range(many)], leaves)
