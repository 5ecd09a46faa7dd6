"""Facts about vectors."""

from surenear.basics.numbers import differing, distance, gap, inner, norm, root, split
from surenear.facts.fact import Fact


class Part:
    """Some numbers of a vector, from a start on, are within a radius around a centre."""

    def __init__(self, start, centre, radius):
        self.start = start
        self.centre = tuple(centre)
        self.radius = radius

    @property
    def after(self):
        """The place behind the last number."""
        return self.start + len(self.centre)

    def __eq__(self, other):
        return (
            isinstance(other, Part)
            and self.start == other.start
            and self.centre == other.centre
            and self.radius == other.radius
        )


class Parts(Fact):
    """Parts of vectors are near centres."""

    def __init__(self, parts):
        self.parts = tuple(parts)

    def holds(self, record):
        """Return whether the record's vector has all parts, each within its radius."""
        return all([is_near(part, record.vector) for part in self.parts])

    def least_distance(self, q):
        """Return the sum of the gaps of the parts; parts that overlap tell nothing."""
        if not all_end_within(self.parts, q) or not are_apart(self.parts):
            return 0
        return sum([gap(distance(part.centre, numbers_at(part, q)), part.radius) for part in self.parts])

    def most_product(self, q):
        """Return the sum of the most products of the parts, if they make up all of q."""
        if not make_up(self.parts, len(q)):
            return None
        return sum([most_product_of(part, numbers_at(part, q)) for part in self.parts])

    def __eq__(self, other):
        return isinstance(other, Parts) and self.parts == other.parts


class Cell(Fact):
    """Vectors are at most as far from near as from its rival."""

    def __init__(self, near, rival):
        self.near = tuple(near)
        self.rival = tuple(rival)

    def holds(self, record):
        """Return whether the record's vector is not farther from near than from its rival."""
        vector = record.vector
        if not have_size(self.near, self.rival, len(vector)):
            return False
        return distance(vector, self.near) <= distance(vector, self.rival)

    def least_distance(self, q):
        """Return how far q is at least away from the cell."""
        if not have_size(self.near, self.rival, len(q)):
            return 0
        return split(distance(q, self.near), distance(q, self.rival), distance(self.near, self.rival))

    def __eq__(self, other):
        return isinstance(other, Cell) and self.near == other.near and self.rival == other.rival


class Box(Fact):
    """Each number of a vector is from a low one to a high one."""

    def __init__(self, low, high):
        self.low = tuple(low)
        self.high = tuple(high)

    def holds(self, record):
        """Return whether all numbers of the record's vector are within the box."""
        vector = record.vector
        if not have_size(self.low, self.high, len(vector)):
            return False
        return all([low <= number <= high for low, number, high in zip(self.low, vector, self.high)])

    def least_distance(self, q):
        """Return the distance of q from the nearest vector of the box."""
        if not have_size(self.low, self.high, len(q)):
            return 0
        outside = [number_outside(low, number, high) for low, number, high in zip(self.low, q, self.high)]
        return norm(outside)

    def most_product(self, q):
        """Return the greatest inner product of q with a vector of the box."""
        if not have_size(self.low, self.high, len(q)):
            return None
        return sum([max(low * number, high * number) for low, number, high in zip(self.low, q, self.high)])

    def __eq__(self, other):
        return isinstance(other, Box) and self.low == other.low and self.high == other.high


class Norms(Fact):
    """The norms of vectors are from a low one to a high one."""

    def __init__(self, low, high):
        self.low = low
        self.high = high

    def holds(self, record):
        """Return whether the norm of the record's vector is from low to high."""
        return self.low <= norm(record.vector) <= self.high

    def least_distance(self, q):
        """Return the gap between q and the norms."""
        length = norm(q)
        if self.high < length:
            return gap(length, self.high)
        if length < self.low:
            return gap(self.low, length)
        return 0

    def most_product(self, q):
        """Return the product of the lengths: nothing has a greater inner product."""
        return root(norm(q) * self.high)

    def __eq__(self, other):
        return isinstance(other, Norms) and self.low == other.low and self.high == other.high


class Differ(Fact):
    """Vectors differ from a centre at few places."""

    def __init__(self, centre, most):
        self.centre = tuple(centre)
        self.most = most

    def holds(self, record):
        """Return whether the record's vector differs from the centre at most places at the most."""
        vector = record.vector
        return len(self.centre) == len(vector) and differing(self.centre, vector) <= self.most

    def least_differing(self, q):
        """Return at how many places q differs at least from such vectors."""
        if len(self.centre) != len(q):
            return 0
        return max(0, differing(q, self.centre) - self.most)

    def __eq__(self, other):
        return isinstance(other, Differ) and self.centre == other.centre and self.most == other.most


def have_size(one, other, size):
    """Return whether two vectors have a size."""
    return len(one) == size and len(other) == size


def numbers_at(part, vector):
    """Return the numbers of a vector of which a part tells."""
    return vector[part.start:part.after]


def ends_within(part, vector):
    """Return whether a vector has all numbers of which a part tells."""
    return part.start >= 0 and part.after <= len(vector)


def all_end_within(parts, vector):
    """Return whether a vector has all numbers of which some parts tell."""
    return all([ends_within(part, vector) for part in parts])


def is_near(part, vector):
    """Return whether the part holds for a vector."""
    return ends_within(part, vector) and distance(part.centre, numbers_at(part, vector)) <= part.radius


def are_apart(parts):
    """Return whether each part begins at or after the end of the parts before it."""
    end = 0
    for part in parts:
        if part.start < end:
            return False
        end = part.after
    return True


def make_up(parts, size):
    """Return whether the parts follow each other from the first number to the last one."""
    end = 0
    for part in parts:
        if part.start != end:
            return False
        end = part.after
    return end == size


def most_product_of(part, numbers):
    """Return the most inner product of numbers with anything within the part's radius."""
    return inner(part.centre, numbers) + root(norm(numbers) * part.radius)


def number_outside(low, number, high):
    """Return how much a number is below low or above high."""
    if number < low:
        return low - number
    return max(0, number - high)
