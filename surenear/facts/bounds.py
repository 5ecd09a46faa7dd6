"""What several facts together tell about the records for which they all hold."""

from surenear.costs.question import MOST_COUNT
from surenear.filters.conditions import Both, Compare, Either, Has, Negation, OneOf


class Bound:
    """What the records cost at least, what no name is before, and whether some can pass."""

    def __init__(self, cost, name, can):
        self.cost = cost
        self.name = name
        self.can = can

    def __eq__(self, other):
        return (
            isinstance(other, Bound)
            and self.cost == other.cost
            and self.name == other.name
            and self.can == other.can
        )


def bound_of(question, facts):
    """Return the bound that facts tell for a question."""
    can, _ = can_pass(question.condition, facts)
    return Bound(least_cost(question, facts), least_name(facts), can)


def can_pass(condition, facts):
    """Return whether some record can pass a condition, and whether some can fail it."""
    if isinstance(condition, Negation):
        passed, failed = can_pass(condition.a, facts)
        return (failed, passed)
    if isinstance(condition, Both):
        (a_passed, a_failed), (b_passed, b_failed) = can_pass(condition.a, facts), can_pass(condition.b, facts)
        return (a_passed and b_passed, a_failed or b_failed)
    if isinstance(condition, Either):
        (a_passed, a_failed), (b_passed, b_failed) = can_pass(condition.a, facts), can_pass(condition.b, facts)
        return (a_passed or b_passed, a_failed and b_failed)
    if isinstance(condition, (Has, Compare, OneOf)):
        return outcomes_on_field(condition, facts)
    return (True, False)


def outcomes_on_field(condition, facts):
    """Return the outcomes that all facts which speak of a condition on a field allow."""
    outcomes = [fact.outcomes(condition) for fact in facts]
    told = [outcome for outcome in outcomes if outcome is not None]
    return (all([passed for passed, _ in told]), all([failed for _, failed in told]))


def least_cost(question, facts):
    """Return the least cost that facts tell for a question, None if they tell none."""
    query = question.query
    # Where the distance costs nothing it need not be known.
    far = 0 if query.near == 0 else least_far(question.schema.measure, query.vector, facts)
    if far is None:
        return None
    counted = [weight * greatest_count(word, facts) for word, weight in query.words]
    return query.near * far - sum(counted)


def least_far(measure, q, facts):
    """Return how far vectors are at least from q, None if nothing is known of it."""
    if measure == "square":
        return max([fact.least_distance(q) for fact in facts], default=0)
    if measure == "bits":
        return max([fact.least_differing(q) for fact in facts], default=0)
    products = [fact.most_product(q) for fact in facts]
    told = [most for most in products if most is not None]
    if told == []:
        return None
    return -min(told)


def greatest_count(word, facts):
    """Return the greatest count of a word that can count in a cost."""
    bounds = [fact.count_bound(word) for fact in facts]
    return min([MOST_COUNT] + [bound for bound in bounds if bound is not None])


def least_name(facts):
    """Return the last name that no name is before; the empty string is before all."""
    names = [fact.name_bound() for fact in facts]
    return max([name for name in names if name is not None], default="")
