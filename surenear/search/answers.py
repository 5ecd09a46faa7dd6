"""Answers: hits, and what all other records cost at least."""

from surenear.basics.ranks import Rank
from surenear.facts.bounds import bound_of


class Hit:
    """A record that an answer names: its name, the number of its write, and its cost."""

    def __init__(self, name, number, cost):
        self.name = name
        self.number = number
        self.cost = cost

    def __eq__(self, other):
        return (
            isinstance(other, Hit)
            and self.name == other.name
            and self.number == other.number
            and self.cost == other.cost
        )


class Answer:
    """Hits, a bound of the costs of all other records, and whether the hits are exactly the first ones."""

    def __init__(self, hits, bound, exact):
        self.hits = list(hits)
        self.bound = bound
        self.exact = exact

    def __eq__(self, other):
        return (
            isinstance(other, Answer)
            and self.hits == other.hits
            and self.bound == other.bound
            and self.exact == other.exact
        )


def at_most(a, b):
    """Return whether a bound is at most another one."""
    if a == "unknown" or b == "none":
        return True
    if a == "none" or b == "unknown":
        return False
    return a <= b


def answer_of(question, pairs, regions):
    """Return the answer from numbered records that were read and regions that were left out."""
    bounds = [bound_of(question, facts) for facts in regions]
    return answer_from(question.query.most, in_order(hits_of(question, pairs)), bounds)


def hits_of(question, pairs):
    """Return the hits of the numbered records that pass, in the order of reading."""
    return [Hit(record.name, number, question.cost(record)) for number, record in pairs if question.passes(record)]


def in_order(hits):
    """Return the different ones of hits, in the order of their ranks."""
    ordered = sorted(hits, key=lambda hit: (hit.cost, hit.name))
    # The keys of a dict stay where they were added first.
    different = {(hit.name, hit.number, hit.cost): hit for hit in ordered}
    return list(different.values())


def answer_from(most, candidates, bounds):
    """Return the answer with at most that many hits from candidates in order and the bounds of regions."""
    hits = candidates[:most]
    counting = [bound for bound in bounds if bound.can]
    costs = [hit.cost for hit in candidates[most:]] + [bound.cost for bound in counting]
    exact = all([cannot_change(hits, most, bound) for bound in counting])
    return Answer(hits, least_of(costs), exact)


def least_of(costs):
    """Return the bound that costs tell; one that is not known is None."""
    if None in costs:
        return "unknown"
    return min(costs, default="none")


def cannot_change(hits, most, bound):
    """Return whether no record of a region with a bound can be one of the hits."""
    if len(hits) < most or bound.cost is None:
        return False
    last = hits[-1]
    return not Rank(bound.cost, bound.name).before(Rank(last.cost, last.name))
