"""Regions: how they lie in each other, and the facts at them."""


class Region:
    """A region of a partition: the place of the region in which it lies, and facts."""

    def __init__(self, parent, facts):
        self.parent = parent
        self.facts = tuple(facts)

    def __eq__(self, other):
        return isinstance(other, Region) and self.parent == other.parent and self.facts == other.facts


def is_partition(regions):
    """Return whether each region is a top region or lies in an earlier one."""
    for place, region in enumerate(regions):
        if region.parent is not None and not 0 <= region.parent < place:
            return False
    return True


def way_up(regions, place):
    """Return the places of all regions in which a region lies, itself first."""
    places = []
    while place is not None:
        places.append(place)
        place = regions[place].parent
    return places


def lies_in(regions, place, other):
    """Return whether the region at a place lies in the one at the other place."""
    return other in way_up(regions, place)


def facts_at(regions, place):
    """Return the facts at a region: its own, then those of the regions in which it lies."""
    return [fact for at in way_up(regions, place) for fact in regions[at].facts]


def tops(regions):
    """Return the places of the top regions, in order."""
    return [place for place, region in enumerate(regions) if region.parent is None]
