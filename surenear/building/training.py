"""Centres: which one is nearest, and how they are trained."""

from surenear.basics.numbers import distance


def nearest(centres, vector):
    """Return the place of the centre that is nearest to a vector, the first one of several."""
    distances = [distance(centre, vector) for centre in centres]
    return distances.index(min(distances))


def train(vectors, number, rounds):
    """Return centres that start at some of the vectors and have moved in some rounds."""
    many = min(number, len(vectors))
    centres = [tuple(vectors[turn * len(vectors) // many]) for turn in range(many)]
    for _ in range(rounds):
        moved = moved_centres(centres, vectors)
        # From here on every round would be like this one.
        if moved == centres:
            break
        centres = moved
    return centres


def moved_centres(centres, vectors):
    """Return each centre moved to the mean of the vectors that it is nearest to."""
    taken = [[] for _ in centres]
    for vector in vectors:
        taken[nearest(centres, vector)].append(vector)
    # A centre without vectors has no mean: it stays.
    return [centre if group == [] else mean_of(group) for centre, group in zip(centres, taken)]


def mean_of(vectors):
    """Return the mean of vectors, with each number rounded down."""
    return tuple([sum(column) // len(vectors) for column in zip(*vectors)])
