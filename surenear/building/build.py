"""Building partitions and offers by rules."""

from surenear.building.facts import facts_of
from surenear.regions.offer import Entry, Offer
from surenear.regions.region import Region, way_up


def build(schema, rule, kinds, records):
    """Return the regions of the partition that a rule makes of records, and the leaf of each record."""
    layout = rule.layout(schema, records)
    below = [[] for _ in layout.sketches]
    for record, leaf in zip(records, layout.leaves):
        for place in way_up(layout.sketches, leaf):
            below[place].append(record)
    regions = [
        Region(sketch.parent, facts_of(schema, kinds, sketch, held))
        for sketch, held in zip(layout.sketches, below)
    ]
    return (regions, list(layout.leaves))


def build_offer(schema, rules, kinds, numbered):
    """Return the offer with a partition for each rule and an entry for each number and record."""
    records = [record for _, record in numbered]
    built = [build(schema, rule, kinds, records) for rule in rules]
    entries = []
    for place, (number, record) in enumerate(numbered):
        entries.append(Entry(number, record, [leaves[place] for _, leaves in built]))
    return Offer([regions for regions, _ in built], entries)
