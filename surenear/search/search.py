"""Searches: looking at the most promising regions of several segments first."""

from surenear.basics.numbers import distance
from surenear.errors import InvalidSource
from surenear.facts.bounds import bound_of
from surenear.facts.vectors import Parts
from surenear.regions.region import facts_at, is_partition, tops, way_up
from surenear.search.answers import answer_from, cannot_change, hits_of, in_order
from surenear.search.report import ReportPart


class Source:
    """What is searched of one segment: the regions of one of its partitions, and its records."""

    def __init__(self, segment, partition, regions, entries):
        self.segment = segment
        self.partition = partition
        self.regions = tuple(regions)
        # Each is a number, a record, and the place of its leaf.
        self.entries = tuple([tuple(entry) for entry in entries])
        check_source(self.regions, self.entries)


def check_source(regions, entries):
    """Raise InvalidSource if the regions are no partition, or the entries do not lie in them."""
    if not is_partition(regions):
        raise InvalidSource("the regions are no partition")
    if len(set([number for number, _, _ in entries])) < len(entries):
        raise InvalidSource("a number stands twice")
    if any([not 0 <= leaf < len(regions) for _, _, leaf in entries]):
        raise InvalidSource("a leaf is not the place of a region")


class Shelf:
    """A source during a search: what stands where in it, and what was read of it."""

    def __init__(self, source):
        self.source = source
        # Of each region: the numbered records whose leaf it is.
        self.leaves = [[] for _ in source.regions]
        for number, record, leaf in source.entries:
            self.leaves[leaf].append((number, record))
        filled = filled_places(source)
        self.outer = [place for place in tops(source.regions) if place in filled]
        # Of each region: the regions with records that lie directly in it.
        self.inside = [[] for _ in source.regions]
        for place, region in enumerate(source.regions):
            if region.parent is not None and place in filled:
                self.inside[region.parent].append(place)
        # The numbered records that were read.
        self.pairs = []


def filled_places(source):
    """Return a dict whose keys are the places of the regions below which a record lies."""
    filled = {}
    for _, _, leaf in source.entries:
        # The regions around a known one are known already.
        if leaf not in filled:
            for place in way_up(source.regions, leaf):
                filled[place] = True
    return filled


class OpenRegion:
    """A region that is open in a search: where it is, and what its facts tell."""

    def __init__(self, shelf, place, question):
        facts = facts_at(shelf.source.regions, place)
        self.shelf = shelf
        self.place = place
        self.bound = bound_of(question, facts)
        # What is least for the region that the next step takes, in the walk and after it.
        self.walk_goal = walk_goal_of(question.query.vector, facts)
        self.bound_goal = bound_goal_of(self.bound)


def walk_goal_of(q, facts):
    """Return the distance of the centre that facts tell; without a centre, what comes after all others."""
    for fact in facts:
        if isinstance(fact, Parts) and is_centred(fact.parts, len(q)):
            return (0, distance(fact.parts[0].centre, q))
    return (1, 0)


def bound_goal_of(bound):
    """Return the least cost and the least name; without a least cost, what comes before all others."""
    if bound.cost is None:
        return (0, 0, "")
    return (1, bound.cost, bound.name)


def is_centred(parts, size):
    """Return whether parts are a single one over whole vectors of a size."""
    return len(parts) == 1 and parts[0].start == 0 and len(parts[0].centre) == size


class Search:
    """A search of several sources, step by step."""

    def __init__(self, question, sources, *, walk=0):
        self.question = question
        self.walk = walk
        self.steps = 0
        self.shelves = [Shelf(source) for source in sources]
        # In the order in which they became open.
        self.opened = []
        for shelf in self.shelves:
            self.opened.extend(self.regions_at(shelf, shelf.outer))
        # The hits of all records that were read, in the order of their ranks.
        self.candidates = []

    def regions_at(self, shelf, places):
        """Return the regions at places of a shelf as open ones."""
        return [OpenRegion(shelf, place, self.question) for place in places]

    def run(self, steps):
        """Make at most that many steps; return how many were made."""
        made = 0
        while made < steps and not self.ended():
            self.take(self.next_place())
            self.steps += 1
            made += 1
        return made

    def next_place(self):
        """Return the place, among the open regions, of the one that the next step takes."""
        places = [at for at, region in enumerate(self.opened) if region.bound.can]
        if self.walk > self.steps:
            goals = [region.walk_goal for region in self.opened]
        else:
            goals = [region.bound_goal for region in self.opened]
        # The first one of several: it has been open longest.
        return min(places, key=lambda at: goals[at])

    def take(self, at):
        """Read the records of an open region, and open the regions in it."""
        region = self.opened[at]
        shelf = region.shelf
        pairs = shelf.leaves[region.place]
        shelf.pairs.extend(pairs)
        self.candidates = in_order(self.candidates + hits_of(self.question, pairs))
        others = self.opened[:at] + self.opened[at + 1:]
        self.opened = others + self.regions_at(shelf, shelf.inside[region.place])

    def ended(self):
        """Return whether no record of an open region can be one of the first ones."""
        most = self.question.query.most
        hits = self.candidates[:most]
        for region in self.opened:
            if region.bound.can and not cannot_change(hits, most, region.bound):
                return False
        return True

    def answer(self):
        """Return the answer from what was read, and from the open regions."""
        return answer_from(self.question.query.most, self.candidates, [region.bound for region in self.opened])

    def report(self):
        """Return the list of the report parts, one for each source."""
        parts = []
        for shelf in self.shelves:
            left = [region.place for region in self.opened if region.shelf == shelf]
            numbers = [number for number, _ in shelf.pairs]
            records = [record for _, record in shelf.pairs]
            parts.append(ReportPart(shelf.source.segment, shelf.source.partition, left, numbers, records))
        return parts
