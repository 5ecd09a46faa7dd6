"""Roots, and the lengths and distances of vectors; all lengths are squared."""

from math import isqrt


def root(number):
    """Return the greatest integer whose square is at most the number; 0 below 0."""
    if number < 0:
        return 0
    return isqrt(number)


def inner(a, b):
    """Return the inner product of two vectors of the same length."""
    return sum([x * y for x, y in zip(a, b)])


def distance(a, b):
    """Return the sum of the squared differences of two vectors of the same length."""
    return sum([(x - y) * (x - y) for x, y in zip(a, b)])


def differing(a, b):
    """Return the number of places at which two vectors of the same length differ."""
    return len([True for x, y in zip(a, b) if x != y])


def norm(a):
    """Return the sum of the squares of a vector's numbers."""
    return inner(a, a)


def gap(far, near):
    """Return how far two points are at least apart.

    The first one is at least far away from some point, the second one at most near.
    """
    if near >= far:
        return 0
    # The root is rounded down, so the gap is rounded up: all distances are integers.
    return far + near - root(4 * far * near)


def split(d, e, f):
    """Return how far a point is at least away from all that is not nearer to the rival.

    d and e are the distances of the point from a centre and from the rival of this
    centre, f is the distance between the two.
    """
    if e >= d or f == 0:
        return 0
    # Minus twice: a quotient is rounded down, and this one must be rounded up.
    return -(-((d - e) * (d - e)) // (4 * f))
